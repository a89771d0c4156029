/- What DiskWhole's law needs further: two lists of rows side by side; the place of a sector among the cached ones. -/
import Derived.Test.YtbkdgciaapkemaaDiskLf
namespace Go.Proofs.Ytbkdgciaapkemaa
open Go.RowKit
set_option linter.unusedVariables false
set_option linter.unusedSimpArgs false

theorem own_ge {w : World} {B : Nat} {T : TypeId} {v : Value} {n : Nat} {xs : List Value} (h : w.ownsRow B T 1 v n xs) {b : Nat} (e : v.ownBlock = some b) : B ≤ b := by
  rcases h.2 with h | ⟨g, cap, cur, e', hg, _⟩
  · rw [h.1] at e; cases e
  · rw [e'] at e
    simp only [Value.ownBlock, Option.some.injEq] at e
    omega
/-- 'rows = append(rows, row)', the row of the call's own, lying at N0 or above. -/
theorem wpList_pushM {ops : Array Oper} {rest : List Oper} {o : Oper} {a : Act} {Q : Exit → Act → World → Prop} (hgd : o.guard = none) (s x : Operand)
    (ho : o.op = .call { callee := .builtin .append, args := #[s, x], argTypes := #[58, 58] }) {B N0 k n c : Nat} {A : Option Addr} {wr : World} {v : Value} {f : Nat → List UInt8} {G : Nat → Prop} {T : TypeId} (hs : a.eval s = v)
    (hx : a.eval x = .slice (some ⟨wr.heap.size, 0, none⟩) 1 1) (h0 : RowsN wr B k v f G) (hr : wr.ownsRow N0 T 1 (.slice A n c) n ((f k).map bval)) (hoff : ∀ j, G j → N0 ≤ j → ∀ o, A ≠ some ⟨j, o, none⟩)
    (hB : B ≤ N0) (hN : N0 ≤ wr.heap.size) (hk : k < 1000)
    (h : ∀ v' w1 G', RowsN w1 B (k + 1) v' f G' → (∀ j, G' j → G j ∨ (N0 ≤ j ∧ ∃ o, A = some ⟨j, o, none⟩) ∨ wr.heap.size ≤ j) → Keep G wr w1 → wpList Try.prog ops Q rest (a.put o.dst v') w1) : wpList Try.prog ops Q (o :: rest) a (wr.alloc (.cells #[.slice A n c] 32)) := by
  have hc := own_cap hr
  have hne : 0 < n → ∀ b o, A = some ⟨b, o, none⟩ → ¬ G b := fun h0' b o e hg => by
    obtain ⟨g, hg', hl⟩ := own_head hr h0'
    rw [e] at hg'
    injection hg' with hg'; injection hg' with hg' _
    exact hoff b hg (by omega) o e
  refine wpList_pushG' hgd s x ho hs hx h0.1 (Rd.of_own hr) hc.1 hc.2 hne (by omega) (by simp only [List.length_map, List.length_range]; omega) fun v' w1 h1 hkp => ?_
  have e : (List.range k).map f ++ [f k] = (List.range (k + 1)).map f := by rw [List.range_succ, List.map_append]; rfl
  rw [e] at h1
  have hG : ∀ j, (G j ∨ (0 < n ∧ ∃ o, A = some ⟨j, o, none⟩) ∨ (wr.heap.size ≤ j ∧ j < w1.heap.size)) → G j ∨ (N0 ≤ j ∧ ∃ o, A = some ⟨j, o, none⟩) ∨ wr.heap.size ≤ j := fun j hj => by
    rcases hj with hj | ⟨h0', o, e⟩ | hj
    · exact .inl hj
    · obtain ⟨g, hg, hl⟩ := own_head hr h0'
      have e' := e
      rw [e'] at hg
      injection hg with hg; injection hg with hg _
      exact .inr (.inl ⟨by omega, o, e⟩)
    · exact .inr (.inr hj.1)
  exact h v' w1 _ ⟨h1, fun j hj => (hG j hj).elim (h0.2 j) (fun h => h.elim (fun h => by omega) (fun h => by omega))⟩ hG hkp
/-- The two lists and the disk. -/
structure Both (w wr : World) (d : Nat) (F : Nat → Prop) (s : DS) (k : Nat) (v1 v2 : Value) (f1 f2 : Nat → List UInt8) (G1 G2 : Nat → Prop) : Prop where
  m : Mine w wr d F s
  r1 : RowsN wr w.heap.size k v1 f1 G1
  r2 : RowsN wr w.heap.size k v2 f2 G2
  d1 : ∀ j, G1 j → ¬ F j
  d2 : ∀ j, G2 j → ¬ F j
  d12 : ∀ j, G1 j → ¬ G2 j
theorem Both.to {w wr w' : World} {d k : Nat} {F G1 G2 : Nat → Prop} {s : DS} {v1 v2 : Value} {g1 g2 : Nat → List UInt8} (h : Both w wr d F s k v1 v2 g1 g2 G1 G2) (hb : Below wr.heap.size wr w') : Both w w' d F s k v1 v2 g1 g2 G1 G2 :=
  ⟨h.m.to hb, h.r1.to hb, h.r2.to hb, h.d1, h.d2, h.d12⟩
theorem Both.act {w wr w' : World} {d k : Nat} {F F' G1 G2 : Nat → Prop} {s s' : DS} {v1 v2 : Value} {g1 g2 : Nat → List UInt8} (h : Both w wr d F s k v1 v2 g1 g2 G1 G2) (hd : Did w wr w' d F F' s') : Both w w' d F' s' k v1 v2 g1 g2 G1 G2 :=
  ⟨hd.mine, h.r1.kept hd.keep h.d1, h.r2.kept hd.keep h.d2, fun j hj hf => (hd.new j hf).elim (h.d1 j hj) (fun h' => by have := h.r1.lt j hj; omega), fun j hj hf => (hd.new j hf).elim (h.d2 j hj) (fun h' => by have := h.r2.lt j hj; omega), h.d12⟩
/-- Nothing is cached behind a crash. -/
theorem dirtyL_fall (sel : Nat → Bool) (L : List Sec) : dirtyL (fallL sel 0 L) = [] := by
  refine List.eq_nil_iff_forall_not_mem.2 fun i hi => ?_
  obtain ⟨h1, h2⟩ := (dirtyL_mem _ i).1 hi
  rw [fallL_length] at h1
  rw [fallL_at sel h1] at h2
  cases h2
/-- The last of the first q places at which k stands; -1: none. -/
def atOf (D : List Nat) (k : Nat) : Nat → Int
  | 0 => -1
  | q + 1 => if nx D q = k then (q : Int) else atOf D k q
theorem atOf_lt (D : List Nat) (k : Nat) : ∀ q, -1 ≤ atOf D k q ∧ atOf D k q < q
  | 0 => by simp [atOf]
  | q + 1 => by
    have := atOf_lt D k q
    unfold atOf
    split <;> omega
theorem atOf_get (D : List Nat) (k : Nat) : ∀ q r : Nat, atOf D k q = (r : Int) → nx D r = k ∧ r < q
  | 0, r, h => by simp [atOf] at h
  | q + 1, r, h => by
    unfold atOf at h
    split at h
    · rename_i e
      obtain rfl : q = r := by omega
      exact ⟨e, by omega⟩
    · have := atOf_get D k q r h
      exact ⟨this.1, by omega⟩
theorem atOf_none (D : List Nat) (k : Nat) : ∀ q : Nat, atOf D k q = -1 → ∀ r, r < q → nx D r ≠ k
  | 0, _, r, hr => by omega
  | q + 1, h, r, hr => by
    unfold atOf at h
    split at h
    · omega
    · rename_i e
      rcases Nat.lt_succ_iff_lt_or_eq.1 hr with hr | rfl
      · exact atOf_none D k q h r hr
      · exact e
/-- What the law makes of it. -/
theorem at_whole (L : List Sec) {k : Nat} (hk : k < L.length) :
    (atOf (dirtyL L) k (dirtyL L).length = -1 ∧ (secAt L k).2 = none) ∨ (∃ r : Nat, atOf (dirtyL L) k (dirtyL L).length = (r : Int) ∧ r < L.length ∧ rank L k = r ∧ ∃ c, (secAt L k).2 = some c) := by
  have h := atOf_lt (dirtyL L) k (dirtyL L).length
  by_cases hn : atOf (dirtyL L) k (dirtyL L).length = -1
  · refine .inl ⟨hn, ?_⟩
    cases hs : (secAt L k).2 with
    | none => rfl
    | some c =>
      have hm := (dirtyL_mem L k).2 ⟨hk, by rw [hs]; rfl⟩
      obtain ⟨r, hr⟩ := List.getElem?_of_mem hm
      have hlt : r < (dirtyL L).length := by
        rcases Nat.lt_or_ge r (dirtyL L).length with g | g
        · exact g
        · rw [List.getElem?_eq_none g] at hr; cases hr
      exact absurd (by simp [nx, List.getD, hr]) (atOf_none _ k _ hn r hlt)
  · obtain ⟨r, hr⟩ : ∃ r : Nat, atOf (dirtyL L) k (dirtyL L).length = (r : Int) := ⟨(atOf (dirtyL L) k (dirtyL L).length).toNat, by omega⟩
    obtain ⟨h1, h2⟩ := atOf_get _ k _ r hr
    have hg : (dirtyL L)[r]? = some k := by
      rw [List.getElem?_eq_getElem h2]
      congr 1
      rw [← h1]
      simp [nx, List.getD, List.getElem?_eq_getElem h2]
    obtain ⟨g1, g2, g3⟩ := dirtyL_get hg
    have hdl : (dirtyL L).length ≤ L.length := dirtyFrom_le 0 L
    refine .inr ⟨r, hr, by omega, g3, ?_⟩
    cases hs : (secAt L k).2 with
    | none => rw [hs] at g2; cases g2
    | some c => exact ⟨c, rfl⟩
end Go.Proofs.Ytbkdgciaapkemaa
