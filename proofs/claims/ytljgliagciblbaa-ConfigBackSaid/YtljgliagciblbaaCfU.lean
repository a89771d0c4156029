/- The bytes of a configuration: the form, its beginnings, its length. No program in here. -/
import Derived.Test.YtljgliagciblbaaCfR
import Derived.Test.YtljgliagciblbaaWA
namespace Go.Proofs.Ytljgliagciblbaa
open Go.RowKit
set_option linter.unusedVariables false

def winB (r : Reg) : List UInt8 := enc (u64N r.1) 8 ++ enc (u64N r.2) 8
def ptB (p : Pt) : List UInt8 := enc (u64N p.id) 8 ++ enc (u64N p.base) 8 ++ enc (u64N p.size) 8 ++ [flagB p.keep] ++ (enc p.img.length 4 ++ p.img)
/-- A channel's numbers. -/
def chN (c : Ch) : List Int := [c.id, c.fr, c.dst, c.cap, c.size]
def numsB (l : List Int) : List UInt8 := l.flatMap fun x => enc (u64N x) 8
def chB (c : Ch) : List UInt8 := numsB (chN c)
def countB (n : Nat) : List UInt8 := enc (u64N n) 8
/-- The windows' bytes, with the count ahead. -/
def wsB (l : List Reg) (k : Nat) : List UInt8 := countB l.length ++ (l.take k).flatMap winB
def psB (l : List Pt) (k : Nat) : List UInt8 := countB l.length ++ (l.take k).flatMap ptB
def csB (l : List Ch) (k : Nat) : List UInt8 := countB l.length ++ (l.take k).flatMap chB
def formC (c : Cf) : List UInt8 := wsB c.ws c.ws.length ++ psB c.ps c.ps.length ++ csB c.cs c.cs.length

theorem flat_snoc {α : Type} (f : α → List UInt8) {l : List α} {k : Nat} (h : k < l.length) : (l.take (k + 1)).flatMap f = (l.take k).flatMap f ++ f l[k] := by
  rw [List.take_succ_eq_append_getElem h, List.flatMap_append]; simp
theorem flat_le {α : Type} (f : α → List UInt8) (m : Nat) : ∀ l : List α, (∀ x ∈ l, (f x).length ≤ m) → (l.flatMap f).length ≤ l.length * m
  | [], _ => by simp
  | a :: l, h => by
    have h1 := h a (by simp)
    have h2 := flat_le f m l fun x hx => h x (by simp [hx])
    rw [List.flatMap_cons, List.length_append, List.length_cons, Nat.add_mul]; omega
theorem wsB_zero (l : List Reg) : wsB l 0 = countB l.length := by simp [wsB]
theorem psB_zero (l : List Pt) : psB l 0 = countB l.length := by simp [psB]
theorem csB_zero (l : List Ch) : csB l 0 = countB l.length := by simp [csB]
theorem wsB_snoc {l : List Reg} {k : Nat} (h : k < l.length) : wsB l (k + 1) = wsB l k ++ winB (rat l k) := by
  rw [wsB, flat_snoc winB h, wsB, List.append_assoc]; congr 2; simp [rat, List.getD, List.getElem?_eq_getElem h]
theorem psB_snoc {l : List Pt} {k : Nat} (h : k < l.length) : psB l (k + 1) = psB l k ++ ptB (ptAt l k) := by
  rw [psB, flat_snoc ptB h, psB, List.append_assoc, ptAt_lt h]
theorem csB_snoc {l : List Ch} {k : Nat} (h : k < l.length) : csB l (k + 1) = csB l k ++ chB (chAt l k) := by
  rw [csB, flat_snoc chB h, csB, List.append_assoc, chAt_lt h]
theorem countB_len (n : Nat) : (countB n).length = 8 := enc_len _ _
theorem winB_len (r : Reg) : (winB r).length = 16 := by simp [winB, enc_len]
theorem ptB_len (p : Pt) : (ptB p).length = 29 + p.img.length := by simp [ptB, enc_len]; omega
theorem numsB_len (l : List Int) : (numsB l).length = l.length * 8 := by
  induction l with
  | nil => rfl
  | cons a l ih => rw [numsB, List.flatMap_cons, List.length_append, enc_len, List.length_cons]; have : (l.flatMap fun x => enc (u64N x) 8).length = l.length * 8 := ih; omega
theorem chB_len (c : Ch) : (chB c).length = 40 := by rw [chB, numsB_len]; rfl
theorem wsB_le (l : List Reg) (k : Nat) (h : l.length ≤ 12) : (wsB l k).length ≤ 200 := by
  have h1 := flat_le winB 16 (l.take k) fun x _ => by rw [winB_len]; exact Nat.le_refl _
  have h2 : (l.take k).length ≤ 12 := by rw [List.length_take]; omega
  rw [wsB, List.length_append, countB_len]; omega
theorem psB_le (l : List Pt) (k : Nat) (h : l.length ≤ 6) (hi : ∀ p ∈ l, p.img.length ≤ 512) : (psB l k).length ≤ 3254 := by
  have h1 := flat_le ptB 541 (l.take k) fun x hx => by have := hi x (List.mem_of_mem_take hx); rw [ptB_len]; omega
  have h2 : (l.take k).length ≤ 6 := by rw [List.length_take]; omega
  rw [psB, List.length_append, countB_len]; omega
theorem csB_le (l : List Ch) (k : Nat) (h : l.length ≤ 8) : (csB l k).length ≤ 328 := by
  have h1 := flat_le chB 40 (l.take k) fun x _ => by rw [chB_len]; exact Nat.le_refl _
  have h2 : (l.take k).length ≤ 8 := by rw [List.length_take]; omega
  rw [csB, List.length_append, countB_len]; omega
theorem canC_iff {c : Cf} : canC c = true ↔ (∀ p ∈ c.ps, p.img.length ≤ 512) ∧ c.ws.length ≤ 12 ∧ c.ps.length ≤ 6 ∧ c.cs.length ≤ 8 := by
  simp only [canC, imgOk, Bool.and_eq_true, List.all_eq_true, decide_eq_true_eq, and_assoc]
theorem formC_len {c : Cf} (h : canC c = true) : (formC c).length ≤ 3782 := by
  obtain ⟨hi, hw, hp, hc⟩ := canC_iff.1 h
  have h1 := wsB_le c.ws c.ws.length hw
  have h2 := psB_le c.ps c.ps.length hp hi
  have h3 := csB_le c.cs c.cs.length hc
  rw [formC, List.length_append, List.length_append]; omega
end Go.Proofs.Ytljgliagciblbaa
