/- Which configuration may follow which, what survives, in plain words. No program is named here. -/
import Derived.Test.YtecedmjhhaabgaaVaNq
namespace Go.Proofs.Ytecedmjhhaabgaa
open Go.RowKit
set_option linter.unusedVariables false

/-- The partition of an ID, the channel of an ID (some other one, if there is none). -/
def ptI (c : Cf) (id : Int) : Pt := ptAt c.ps (findP c.ps id).toNat
def chI (c : Cf) (id : Int) : Ch := chAt c.cs (findC c.cs id).toNat
def hasC (c : Cf) (id : Int) : Bool := decide (0 ≤ findC c.cs id)
noncomputable def mayB (a b : Cf) : Bool := fitsV a && fitsV b
/-- Both have it, with Keep. -/
def keepB (a b : Cf) (id : Int) : Bool := hasP a id && (hasP b id && ((ptI a id).keep && (ptI b id).keep))
def sizeB (a b : Cf) (id : Int) : Bool := decide ((ptI a id).size = (ptI b id).size)
noncomputable def survB (a b : Cf) (id : Int) : Bool := mayB a b && (keepB a b id && sizeB a b id)
/-- Those of the numbers 1 to n of which f holds. -/
def listTo (f : Int → Bool) : Nat → List Int
  | 0 => []
  | n + 1 => listTo f n ++ (if f ((n : Int) + 1) = true then [(n : Int) + 1] else [])
noncomputable def checkC (a b : Cf) : Int := if mayB a b = true then (if anyN (fun j => keepB a b ((j : Int) + 1) && !sizeB a b ((j : Int) + 1)) 6 = true then 130 else 0) else 2
noncomputable def partB (a b : Cf) (lv : Bool) (id : Int) : Bool := mayB a b && (hasP a id && (survB a b id != lv))
noncomputable def partsC (a b : Cf) (lv : Bool) : List Int := listTo (partB a b lv) 6
noncomputable def chanB (a b : Cf) (id : Int) : Bool := hasC a id && (hasC b id && (decide (chI a id = chI b id) && (survB a b (chI a id).fr && survB a b (chI a id).dst)))
noncomputable def chansC (a b : Cf) : List Int := listTo (chanB a b) 8
theorem listTo_len (f : Int → Bool) : ∀ n, (listTo f n).length ≤ n
  | 0 => Nat.le_refl _
  | n + 1 => by
    have := listTo_len f n
    rw [listTo, List.length_append]
    split <;> simp <;> omega
theorem listTo_congr {f g : Int → Bool} : ∀ {n : Nat}, (∀ k : Nat, k < n → f ((k : Int) + 1) = g ((k : Int) + 1)) → listTo f n = listTo g n
  | 0, _ => rfl
  | n + 1, h => by rw [listTo, listTo, listTo_congr (fun k hk => h k (by omega)), h n (by omega)]
theorem listTo_none {f : Int → Bool} {n : Nat} (h : ∀ k : Nat, k < n → f ((k : Int) + 1) = false) : listTo f n = [] := by
  rw [listTo_congr (g := fun _ => false) h]
  induction n with
  | zero => rfl
  | succ n ih => rw [listTo, ih (fun k hk => h k (by omega))]; rfl
theorem listTo_mem {f : Int → Bool} : ∀ {n : Nat} {x : Int}, x ∈ listTo f n ↔ 1 ≤ x ∧ x ≤ n ∧ f x = true
  | 0, x => by simp [listTo]; omega
  | n + 1, x => by
    rw [listTo, List.mem_append, listTo_mem]
    constructor
    · rintro (⟨h1, h2, h3⟩ | h)
      · exact ⟨h1, by push_cast; omega, h3⟩
      · split at h
        · rename_i hf
          obtain rfl := List.mem_singleton.1 h
          exact ⟨by omega, by push_cast; omega, hf⟩
        · cases h
    · rintro ⟨h1, h2, h3⟩
      by_cases h : x = (n : Int) + 1
      · subst h
        rw [if_pos h3]
        exact .inr (List.mem_singleton.2 rfl)
      · exact .inl ⟨h1, by push_cast at h2; omega, h3⟩
/-- Ascending, strictly. -/
def ascI (l : List Int) : Prop := l.Pairwise (· < ·)
theorem listTo_asc (f : Int → Bool) : ∀ n, ascI (listTo f n)
  | 0 => List.Pairwise.nil
  | n + 1 => by
    rw [listTo]
    refine List.pairwise_append.2 ⟨listTo_asc f n, ?_, fun x hx y hy => ?_⟩
    · split
      · exact List.pairwise_singleton _ _
      · exact List.Pairwise.nil
    · have h1 := (listTo_mem.1 hx).2.1
      split at hy
      · obtain rfl := List.mem_singleton.1 hy
        omega
      · cases hy
theorem asc_ext : ∀ {l m : List Int}, ascI l → ascI m → (∀ x, x ∈ l ↔ x ∈ m) → l = m
  | [], [], _, _, _ => rfl
  | [], y :: m, _, _, h => absurd ((h y).2 (List.mem_cons_self ..)) List.not_mem_nil
  | x :: l, [], _, _, h => absurd ((h x).1 (List.mem_cons_self ..)) List.not_mem_nil
  | x :: l, y :: m, hl, hm, h => by
    obtain ⟨l1, l2⟩ := List.pairwise_cons.1 hl
    obtain ⟨m1, m2⟩ := List.pairwise_cons.1 hm
    have hxy : x = y := by
      rcases List.mem_cons.1 ((h x).1 (List.mem_cons_self ..)) with e | e
      · exact e
      · rcases List.mem_cons.1 ((h y).2 (List.mem_cons_self ..)) with e2 | e2
        · exact e2.symm
        · have := m1 x e
          have := l1 y e2
          omega
    subst hxy
    rw [asc_ext l2 m2 (fun z => ?_)]
    constructor
    · intro hz
      rcases List.mem_cons.1 ((h z).1 (List.mem_cons_of_mem _ hz)) with e | e
      · have := l1 z hz; omega
      · exact e
    · intro hz
      rcases List.mem_cons.1 ((h z).2 (List.mem_cons_of_mem _ hz)) with e | e
      · have := m1 z hz; omega
      · exact e
/-- P13.4. -/
theorem mayB_symm (a b : Cf) : mayB a b = mayB b a := Bool.and_comm _ _
theorem keepB_symm (a b : Cf) (id : Int) : keepB a b id = keepB b a id := by
  unfold keepB
  cases hasP a id <;> cases hasP b id <;> cases (ptI a id).keep <;> cases (ptI b id).keep <;> rfl
theorem sizeB_symm (a b : Cf) (id : Int) : sizeB a b id = sizeB b a id := by
  unfold sizeB
  rw [Bool.eq_iff_iff, decide_eq_true_eq, decide_eq_true_eq]
  exact ⟨Eq.symm, Eq.symm⟩
theorem survB_symm (a b : Cf) (id : Int) : survB a b id = survB b a id := by
  unfold survB
  rw [mayB_symm, keepB_symm, sizeB_symm]
theorem checkC_symm (a b : Cf) : checkC a b = checkC b a := by
  unfold checkC
  rw [mayB_symm, anyN_congr (g := fun j => keepB b a ((j : Int) + 1) && !sizeB b a ((j : Int) + 1)) (fun k _ => by rw [keepB_symm, sizeB_symm])]
theorem survB_has {a b : Cf} {id : Int} (h : survB a b id = true) : mayB a b = true ∧ hasP a id = true ∧ hasP b id = true := by
  unfold survB keepB at h
  simp only [Bool.and_eq_true] at h
  exact ⟨h.1, h.2.1.1, h.2.1.2.1⟩
theorem partB_kept (a b : Cf) (id : Int) : partB a b false id = survB a b id := by
  unfold partB
  cases h : survB a b id
  · simp
  · obtain ⟨h1, h2, _⟩ := survB_has h
    rw [h1, h2]; rfl
theorem partsC_symm (a b : Cf) : partsC a b false = partsC b a false := listTo_congr fun k _ => by rw [partB_kept, partB_kept, survB_symm]
theorem chanB_symm (a b : Cf) (id : Int) : chanB a b id = chanB b a id := by
  unfold chanB
  by_cases h : chI a id = chI b id
  · rw [h, survB_symm, survB_symm a b]
    cases hasC a id <;> cases hasC b id <;> simp
  · rw [decide_eq_false h, decide_eq_false (fun e => h e.symm)]
    simp
theorem chansC_symm (a b : Cf) : chansC a b = chansC b a := listTo_congr fun k _ => chanB_symm a b _
end Go.Proofs.Ytecedmjhhaabgaa
