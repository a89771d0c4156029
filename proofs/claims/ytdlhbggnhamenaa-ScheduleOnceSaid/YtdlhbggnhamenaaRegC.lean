/- Rows of regions of the call's own: append of a slice of regions, what such a row reads as, a region stored into it. -/
import Derived.Test.YtdlhbggnhamenaaRegP
namespace Go.Proofs.Ytdlhbggnhamenaa
open Go.RowKit
set_option linter.unusedVariables false
set_option linter.unusedSimpArgs false

def regsV (l : List Reg) : List Value := l.flatMap regL
theorem regsV_len (l : List Reg) : (regsV l).length = l.length * 2 := by
  induction l with
  | nil => rfl
  | cons r l ih => simp only [regsV, List.flatMap_cons, List.length_append, List.length_cons] at ih ⊢; rw [ih]; simp [regL]; omega
theorem regsV_append (l m : List Reg) : regsV (l ++ m) = regsV l ++ regsV m := by simp [regsV]
theorem regsV_at : ∀ (l : List Reg) (j : Nat), j < l.length → (regsV l)[j * 2]? = some (.int .i64 (rat l j).1) ∧ (regsV l)[j * 2 + 1]? = some (.int .i64 (rat l j).2)
  | [], j, h => absurd h (Nat.not_lt_zero _)
  | r :: l, 0, _ => by simp [regsV, regL, rat]
  | r :: l, j + 1, h => by
    have h1 := regsV_at l j (by simpa using h)
    have e1 : (regsV (r :: l))[(j + 1) * 2]? = (regsV l)[j * 2]? := by
      show (regL r ++ regsV l)[(j + 1) * 2]? = _
      rw [List.getElem?_append_right (by simp [regL]; omega)]
      congr 1; simp [regL]; omega
    have e2 : (regsV (r :: l))[(j + 1) * 2 + 1]? = (regsV l)[j * 2 + 1]? := by
      show (regL r ++ regsV l)[(j + 1) * 2 + 1]? = _
      rw [List.getElem?_append_right (by simp [regL]; omega)]
      congr 1; simp [regL]; omega
    have e3 : rat (r :: l) (j + 1) = rat l j := by simp [rat]
    rw [e1, e2, e3]; exact h1
theorem regsV_one (l : List Reg) : ∀ u ∈ regsV l, u.oneCell' = true := by
  intro u hu
  obtain ⟨r, _, hr⟩ := List.mem_flatMap.1 hu
  simp only [regL, List.mem_cons, List.not_mem_nil, or_false] at hr
  rcases hr with rfl | rfl <;> rfl

theorem RdG.of_own {w : World} {base : Nat} {T : TypeId} {A : Option Addr} {n c : Nat} {l : List Reg} (h : w.ownsRow base T 2 (.slice A n c) n (regsV l)) : RdG w w.heap.size A n l := by
  have hl : l.length = n := by have := h.1; rw [regsV_len] at this; omega
  refine ⟨hl, fun hn => ?_⟩
  obtain ⟨g, cap, hv, _, hlt⟩ := h.form hn
  have hA : A = some ⟨g, 0, none⟩ := by injection hv
  subst hA
  refine ⟨g, 0, rfl, hlt, fun j hj => ?_⟩
  obtain ⟨h1, h2⟩ := regsV_at l j (by omega)
  have c1 := h.cells (g := g) rfl (j * 2) _ h1
  have c2 := h.cells (g := g) rfl (j * 2 + 1) _ h2
  rw [addr_add] at c1 c2
  exact ⟨c1, by rw [Nat.add_assoc]; exact c2⟩
theorem own_fresh {w : World} {T : TypeId} {g : Nat} (h : w.heap[g]? = some (.cells #[] T (0, 0))) {base : Nat} (hb : base ≤ g) : w.ownsRow base T 2 (.slice (some ⟨g, 0, none⟩) 0 0) 0 (regsV []) :=
  ⟨rfl, .inr ⟨g, 0, #[], rfl, hb, h, Nat.le_refl _, Nat.zero_le _, rfl, rfl⟩⟩

theorem own_cap2 {w : World} {B : Nat} {T : TypeId} {A : Option Addr} {n c : Nat} {xs : List Value} (h : w.ownsRow B T 2 (.slice A n c) n xs) : n ≤ c ∧ c ≤ 9223372036854775807 := by
  rcases h.2 with ⟨h, rfl⟩ | ⟨g, cap, cur, hv, _, _, h1, h2, _⟩
  · injection h with _ _ h; omega
  · injection hv with _ _ hv; subst hv; unfold maxLen at h2; omega
theorem own_slice2 {w : World} {base : Nat} {T : TypeId} {v : Value} {n : Nat} {xs : List Value} (h : w.ownsRow base T 2 v n xs) : ∃ A c, v = .slice A n c := by
  rcases h.2 with ⟨rfl, rfl⟩ | ⟨g, cap, cur, rfl, _⟩
  · exact ⟨_, _, rfl⟩
  · exact ⟨_, _, rfl⟩
theorem own_below2 {w w' : World} {B : Nat} {T : TypeId} {v : Value} {n : Nat} {xs : List Value} (h : w.ownsRow B T 2 v n xs) (hb : Below w.heap.size w w') : w'.ownsRow B T 2 v n xs := by
  refine ⟨h.1, ?_⟩
  rcases h.2 with h | ⟨g, cap, cur, e, hg, hh, h⟩
  · exact .inl h
  · refine .inr ⟨g, cap, cur, e, hg, ?_, h⟩
    rw [hb.block g ?_]; exact hh
    exact (Array.getElem?_eq_some_iff.1 hh).1
theorem own_head2 {w : World} {B : Nat} {T : TypeId} {A : Option Addr} {n c : Nat} {xs : List Value} (h : w.ownsRow B T 2 (.slice A n c) n xs) (hn : 0 < n) : ∃ g, A = some ⟨g, 0, none⟩ ∧ B ≤ g ∧ ∀ k, w.frozen? ⟨g, k, none⟩ = false := by
  rcases h.2 with ⟨h, h0⟩ | ⟨g, cap, cur, hv, hg, hh, _⟩
  · omega
  · injection hv with hA
    exact ⟨g, hA, hg, fun k => by simp [World.frozen?, hh]⟩
/-- A region stored into a row. -/
theorem RdG.set {W : World} {B g n a : Nat} {l : List Reg} (h : RdG W B (some ⟨g, 0, none⟩) n l) (ha : a < n) (r : Reg) :
    RdG ((W.setCell ⟨g, a * 2, none⟩ (.int .i64 r.1)).setCell ⟨g, a * 2 + 1, none⟩ (.int .i64 r.2)) B (some ⟨g, 0, none⟩) n (l.set a r) := by
  refine ⟨by rw [List.length_set]; exact h.1, fun hn => ?_⟩
  obtain ⟨b, o, e, hb, hc⟩ := h.2 hn
  injection e with e
  injection e with e1 e2
  subst e1; subst e2
  refine ⟨g, 0, rfl, hb, fun j hj => ?_⟩
  obtain ⟨c1, c2⟩ := hc j hj
  rw [Nat.zero_add] at c1 c2 ⊢
  have ne : ∀ p q : Nat, p ≠ q → (⟨g, p, none⟩ : Addr) ≠ ⟨g, q, none⟩ := fun p q hpq e => hpq (by injection e)
  by_cases hja : j = a
  · subst hja
    have er : rat (l.set j r) j = r := by rw [rat_lt (by rw [List.length_set, h.1]; exact hj)]; simp
    rw [er]
    constructor
    · rw [World.cell?_setCell_other _ _ _ _ (ne _ _ (by omega))]
      exact World.cell?_setCell_same _ _ _ c1
    · refine World.cell?_setCell_same _ _ _ (u := .int .i64 (rat l j).2) ?_
      rw [World.cell?_setCell_other _ _ _ _ (ne _ _ (by omega))]; exact c2
  · have er : rat (l.set a r) j = rat l j := by
      simp only [rat, List.getD]
      rw [List.getElem?_set_ne (Ne.symm hja)]
    rw [er]
    constructor
    · rw [World.cell?_setCell_other _ _ _ _ (ne _ _ (by omega)), World.cell?_setCell_other _ _ _ _ (ne _ _ (by omega))]; exact c1
    · rw [World.cell?_setCell_other _ _ _ _ (ne _ _ (by omega)), World.cell?_setCell_other _ _ _ _ (ne _ _ (by omega))]; exact c2
end Go.Proofs.Ytdlhbggnhamenaa
