/- What is wrong with a configuration, in plain words: the five faults, in order; when it is valid. No program is named here. -/
import Derived.Test.YtecedmjhhaabgaaCfR
import Derived.Test.YtecedmjhhaabgaaSchM
namespace Go.Proofs.Ytecedmjhhaabgaa
open Go.RowKit
set_option linter.unusedVariables false

/-- Is it so at one of the first n places? -/
def anyN (f : Nat → Bool) : Nat → Bool
  | 0 => false
  | n + 1 => anyN f n || f n
theorem anyN_iff {f : Nat → Bool} : ∀ {n : Nat}, anyN f n = true ↔ ∃ k, k < n ∧ f k = true
  | 0 => by simp [anyN]
  | n + 1 => by
    rw [anyN, Bool.or_eq_true, anyN_iff]
    constructor
    · rintro (⟨k, hk, h⟩ | h)
      · exact ⟨k, by omega, h⟩
      · exact ⟨n, by omega, h⟩
    · rintro ⟨k, hk, h⟩
      rcases Nat.lt_or_ge k n with g | g
      · exact .inl ⟨k, g, h⟩
      · obtain rfl : k = n := by omega
        exact .inr h
theorem anyN_no {f : Nat → Bool} {n : Nat} : anyN f n = false ↔ ∀ k, k < n → f k = false := by
  rw [← Bool.not_eq_true, anyN_iff]
  constructor
  · intro h k hk
    cases e : f k
    · rfl
    · exact absurd ⟨k, hk, e⟩ h
  · rintro h ⟨k, hk, e⟩
    rw [h k hk] at e; cases e
theorem anyN_congr {f g : Nat → Bool} : ∀ {n : Nat}, (∀ k, k < n → f k = g k) → anyN f n = anyN g n
  | 0, _ => rfl
  | n + 1, h => by rw [anyN, anyN, anyN_congr (fun k hk => h k (by omega)), h n (by omega)]
/-- Has it a partition of that ID? -/
def hasP (c : Cf) (id : Int) : Bool := decide (0 ≤ findP c.ps id)
def regP (p : Pt) : Reg := (p.base, p.size)
/-- The five tests, at one place each. -/
def wrW (c : Cf) (i : Nat) : Bool := decide ((rat c.ws i).2 ≠ 0) && !hasP c (rat c.ws i).2
def wrP (c : Cf) (i : Nat) : Bool := decide ((ptAt c.ps i).id < 1) || (decide (6 < (ptAt c.ps i).id) || (decide (0 < i) && decide ((ptAt c.ps i).id ≤ (ptAt c.ps (i - 1)).id)))
def wrR (c : Cf) (i : Nat) : Bool := !mayR (regP (ptAt c.ps i)) || decide ((ptAt c.ps i).size < ((ptAt c.ps i).img.length : Int))
def wrO (c : Cf) (i k : Nat) : Bool := mayR (regP (ptAt c.ps i)) && (mayR (regP (ptAt c.ps k)) && !apartR (regP (ptAt c.ps i)) (regP (ptAt c.ps k)))
def wrC (c : Cf) (i : Nat) : Bool := !hasP c (chAt c.cs i).fr || !hasP c (chAt c.cs i).dst
noncomputable def fltW (c : Cf) : Bool := !mayW c.ws || anyN (wrW c) c.ws.length
noncomputable def fltP (c : Cf) : Bool := (decide (c.ps.length = 0) || decide (6 < c.ps.length)) || anyN (wrP c) c.ps.length
noncomputable def fltR (c : Cf) : Bool := anyN (wrR c) c.ps.length
noncomputable def fltO (c : Cf) : Bool := anyN (fun i => anyN (wrO c i) i) c.ps.length
noncomputable def fltC (c : Cf) : Bool := (decide (8 < c.cs.length) || decide (allE c.cs ≠ 0)) || anyN (wrC c) c.cs.length
/-- One fault more, if it is there. -/
def more (b : Bool) (e : Int) : List Int := if b = true then [e] else []
noncomputable def allV (c : Cf) : List Int := more (fltW c) 90 ++ more (fltP c) 120 ++ more (fltR c) 80 ++ more (fltO c) 121 ++ more (fltC c) 100
noncomputable def checkV (c : Cf) : Int := (allV c).headD 0
noncomputable def fitsV (c : Cf) : Bool := decide ((allV c).length = 0)
theorem more_len (b : Bool) (e : Int) : (more b e).length ≤ 1 := by unfold more; split <;> simp
theorem allV_len (c : Cf) : (allV c).length ≤ 5 := by
  have h1 := more_len (fltW c) 90
  have h2 := more_len (fltP c) 120
  have h3 := more_len (fltR c) 80
  have h4 := more_len (fltO c) 121
  have h5 := more_len (fltC c) 100
  simp only [allV, List.length_append]
  omega
theorem fitsV_iff {c : Cf} : fitsV c = true ↔ fltW c = false ∧ fltP c = false ∧ fltR c = false ∧ fltO c = false ∧ fltC c = false := by
  unfold fitsV allV more
  cases fltW c <;> cases fltP c <;> cases fltR c <;> cases fltO c <;> cases fltC c <;> simp
theorem fitsV_check {c : Cf} : checkV c = 0 ↔ fitsV c = true := by
  unfold fitsV checkV allV more
  cases fltW c <;> cases fltP c <;> cases fltR c <;> cases fltO c <;> cases fltC c <;> simp
end Go.Proofs.Ytecedmjhhaabgaa
