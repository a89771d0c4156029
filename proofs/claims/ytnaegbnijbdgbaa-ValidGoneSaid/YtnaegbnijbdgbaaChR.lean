/- Rows of byte slices of the call's own, each told with what lies behind it in its memory (Row: all the bytes, how many are shown): appended to (RowsX), handed back (OwS), written over. No program is named but by its types. -/
import Derived.Test.YtnaegbnijbdgbaaKitO
import Derived.Deep.AppendLies
import Derived.Maps.AppendAt
namespace Go.Proofs.Ytnaegbnijbdgbaa
open Go.RowKit
set_option linter.unusedVariables false
set_option linter.unusedSimpArgs false

abbrev Row := List UInt8 × Nat
def rowAt (xs : List Row) (j : Nat) : Row := xs.getD j ([], 0)
theorem rowAt_left {xs ys : List Row} {j : Nat} (h : j < xs.length) : rowAt (xs ++ ys) j = rowAt xs j := by simp [rowAt, List.getD, List.getElem?_append_left h]
theorem rowAt_last (xs : List Row) (y : Row) : rowAt (xs ++ [y]) xs.length = y := by simp [rowAt, List.getD]
/-- One row, at A. -/
def ROk (w : World) (B : Nat) (x : Row) (A : Option Addr) (c : Nat) : Prop := OwR w B A x.1.length x.1 ∧ x.2 ≤ x.1.length ∧ x.1.length ≤ c ∧ c ≤ 9223372036854775807
theorem OwR.kept' {R : Nat → Prop} {w w' : World} {B n : Nat} {A : Option Addr} {bs : List UInt8} (h : OwR w B A n bs) (hk : Keep R w w') (hn : 0 < n → ∀ b o, A = some ⟨b, o, none⟩ → ¬ R b) : OwR w' B A n bs := h.kept hk (fun h0 b o e => hn h0 b o e)
theorem ROk.kept {R : Nat → Prop} {w w' : World} {B c : Nat} {x : Row} {A : Option Addr} (h : ROk w B x A c) (hk : Keep R w w') (hn : 0 < x.1.length → ∀ b o, A = some ⟨b, o, none⟩ → ¬ R b) : ROk w' B x A c := ⟨h.1.kept' hk hn, h.2⟩
theorem ROk.to {w w' : World} {B c : Nat} {x : Row} {A : Option Addr} (h : ROk w B x A c) (hb : Below w.heap.size w w') : ROk w' B x A c := ⟨h.1.to hb, h.2⟩
theorem ROk.mono {w : World} {B B' c : Nat} {x : Row} {A : Option Addr} (h : ROk w B x A c) (hB : B' ≤ B) : ROk w B' x A c := ⟨h.1.mono hB, h.2⟩

/-- A list of rows that is being built. -/
def RowsX (w : World) (B : Nat) (v : Value) (k : Nat) (xs : List Row) : Prop :=
  xs.length = k ∧ ∃ vs, w.ownsRow B 43 1 v k vs ∧ ∀ j, j < k → ∃ A c, vs[j]? = some (.slice A (rowAt xs j).2 c) ∧ ROk w B (rowAt xs j) A c ∧ (0 < (rowAt xs j).1.length → ∀ b o, A = some ⟨b, o, none⟩ → v.ownBlock ≠ some b)
theorem RowsX.nil (w : World) (B : Nat) : RowsX w B (.slice none 0 0) 0 [] := ⟨rfl, [], ⟨rfl, .inl ⟨rfl, rfl⟩⟩, fun _ h => absurd h (Nat.not_lt_zero _)⟩
theorem RowsX.base {w : World} {B k : Nat} {v : Value} {xs : List Row} (h : RowsX w B v k xs) {b : Nat} (e : v.ownBlock = some b) : B ≤ b ∧ b < w.heap.size := by
  obtain ⟨_, vs, h1, _⟩ := h
  rcases h1.2 with ⟨rfl, _⟩ | ⟨g, cap, cur, rfl, hg, hh, _⟩
  · cases e
  · simp only [Value.ownBlock, Option.some.injEq] at e
    subst e
    exact ⟨hg, heap_at_lt hh⟩
theorem own_keptX {R : Nat → Prop} {w w' : World} {B : Nat} {T : TypeId} {v : Value} {n : Nat} {xs : List Value} (h : w.ownsRow B T 1 v n xs) (hk : Keep R w w') (hn : ∀ b, v.ownBlock = some b → ¬ R b) : w'.ownsRow B T 1 v n xs := by
  refine ⟨h.1, ?_⟩
  rcases h.2 with h | ⟨g, cap, cur, e, hg, hh, h⟩
  · exact .inl h
  · exact .inr ⟨g, cap, cur, e, hg, (hk.block g (heap_at_lt hh) (hn g (by rw [e]; rfl))).trans hh, h⟩
theorem OwR.blk {w : World} {B n b o : Nat} {A : Option Addr} {bs : List UInt8} (h : OwR w B A n bs) (hn : 0 < n) (e : A = some ⟨b, o, none⟩) : B ≤ b ∧ b < w.heap.size := by
  obtain ⟨b', o', e', hB, _⟩ := h.2 hn
  obtain ⟨b2, o2, e2, hb, _⟩ := h.1.2 hn
  rw [e] at e' e2
  injection e' with e'; injection e' with e1 _
  injection e2 with e2; injection e2 with e3 _
  exact ⟨by omega, by omega⟩
/-- Blocks ahead of its base may change. -/
theorem RowsX.kept {R : Nat → Prop} {w w' : World} {B k : Nat} {v : Value} {xs : List Row} (h : RowsX w B v k xs) (hk : Keep R w w') (hn : ∀ b, R b → b < B) : RowsX w' B v k xs := by
  have hba := fun b e => (h.base (b := b) e).1
  obtain ⟨hl, vs, h1, h2⟩ := h
  refine ⟨hl, vs, own_keptX h1 hk (fun b e hr => by have := hba b e; have := hn b hr; omega), fun j hj => ?_⟩
  obtain ⟨A, c, e, hr, hb⟩ := h2 j hj
  exact ⟨A, c, e, hr.kept hk (fun h0 b o e hR => by have := (hr.1.blk h0 e).1; have := hn b hR; omega), hb⟩
theorem RowsX.to {w w' : World} {B k : Nat} {v : Value} {xs : List Row} (h : RowsX w B v k xs) (hb : Below w.heap.size w w') : RowsX w' B v k xs := h.kept (R := fun _ => False) (Keep.of_below hb) (fun _ h => h.elim)
theorem RowsX.slice {w : World} {B k : Nat} {v : Value} {xs : List Row} (h : RowsX w B v k xs) : ∃ A c, v = .slice A k c ∧ k ≤ c ∧ c ≤ 9223372036854775807 := by
  obtain ⟨_, vs, h1, _⟩ := h
  obtain ⟨A, c, rfl⟩ := own_slice h1
  exact ⟨A, c, rfl, own_cap h1⟩
theorem slices_info : (Try.prog.info? 43).map (fun i => (i.zero, i.size, i.bytes)) = some (some (.slice none 0 0), 1, 24) := by kernel_rfl
theorem RowsX.below {w w' : World} {B k : Nat} {a : World} {v : Value} {xs : List Row} (h : RowsX w B v k xs) (hk : Keep (fun b => v.ownBlock = some b) w w') (hb : Below B a w) (hB : B ≤ w.heap.size) : Below B a w' := hk.below hb hB (fun b e => (h.base e).1)

/-- An append whose run is known, at an operation of a plain region, of one that draws. -/
theorem wpList_append_run {P : Program} {T : TypeId} {ops : Array Oper} {rest : List Oper} {o : Oper} {a : Act} {Q : Exit → Act → World → Prop} (hgd : o.guard = none) (s x : Operand)
    (ho : o.op = .call { callee := .builtin .append, args := #[s, x], argTypes := #[T, T] }) {w w' : World} {v u v' : Value} (hs : a.eval s = v) (hx : a.eval x = u)
    (hrun : (Builtin.append_ #[T, T] o.type #[v, u]).run P w = .ok v' w') (h : wpList P ops Q rest (a.put o.dst v') w') : wpList P ops Q (o :: rest) a w := by
  refine wpList_plain hgd fun K hK => ?_
  unfold Oper.wp execOp
  simp only [ho, resolve, invoke, builtin, Sem.run_bind, Sem.run_pure, Result.andThen_ok, List.map_toArray, List.map_cons, List.map_nil, hs, hx, hrun]
  exact hK _ _ h
theorem step_append_run {P : Program} {T : TypeId} {ops : Array Oper} {o : Oper} {a : Act} {K : Act → World → Prop} {Q : Exit → Act → World → Prop} {E : Prop} (hgd : o.guard = none) (s x : Operand)
    (ho : o.op = .call { callee := .builtin .append, args := #[s, x], argTypes := #[T, T] }) {w w' : World} {v u v' : Value} (hs : a.eval s = v) (hx : a.eval x = u)
    (hrun : (Builtin.append_ #[T, T] o.type #[v, u]).run P w = .ok v' w') (h : K (a.put o.dst v') w') :
    if Region.wanted o (yielded ops a.tmps) = true then Oper.wp P o a w K Q else E := by
  have hw : Region.wanted o (yielded ops a.tmps) = true := by simp [Region.wanted, hgd]
  rw [if_pos hw]
  unfold Oper.wp execOp
  simp only [ho, resolve, invoke, builtin, Sem.run_bind, Sem.run_pure, Result.andThen_ok, List.map_toArray, List.map_cons, List.map_nil, hs, hx, hrun]
  exact h
/-- 'append(b, x...)' of bytes onto a row of the call's own: the run. -/
theorem run_pushAll {P : Program} {T U : TypeId} (L : U8 P T U) (ty : TypeId) {B B' n m c : Nat} {A : Option Addr} {w : World} {v : Value} {bs news : List UInt8} (hown : w.ownsRow B U 1 v n (bs.map bval)) (hr : Rd w B' A m news) (hB : B ≤ w.heap.size) (hk : n + m ≤ 140737488355328) :
    ∃ v' w', (Builtin.append_ #[T, T] ty #[v, .slice A m c]).run P w = .ok v' w' ∧ w'.ownsRow B U 1 v' (n + m) ((bs ++ news).map bval) ∧ Below B w w' ∧ w.heap.size ≤ w'.heap.size := by
  obtain ⟨i0, hi, hz0, hz1, hz2⟩ := info_parts L.info
  have hlen : news.length = m := hr.1
  rcases Nat.eq_zero_or_pos m with rfl | hm
  · obtain rfl : news = [] := List.eq_nil_of_length_eq_zero hlen
    have hul := L.ul
    refine ⟨v, w, ?_, by simpa using hown, Below.refl _ _, Nat.le_refl _⟩
    rcases hown.2 with ⟨rfl, rfl⟩ | ⟨g, cap, cur, rfl, _, _, hnc, _⟩
    · cases A <;> simp [Builtin.append_, run_underlying hul, sizeOf, typeInfo, hi, hz1, Builtin.lenOf, Builtin.firstCells, loadCells, loadCellsFrom]
    · cases A <;> simp [Builtin.append_, run_underlying hul, sizeOf, typeInfo, hi, hz1, Builtin.lenOf, Builtin.firstCells, hnc, storeCells, loadCells, loadCellsFrom]
  · obtain ⟨b, of, rfl, _, hc⟩ := hr.2 hm
    obtain ⟨v', w', hrun, h2, hgrow, _⟩ := run_append_own_at (P := P) w B T ty U i0 (.int .u8 0) 1 1 L.ul hi hz0 hz1 hz2 rfl (by decide) v n _ hown ⟨b, of, none⟩ m c (news.map bval) (by simpa using hlen) (by
      intro j u hu
      have hj : j < m := by
        rcases Nat.lt_or_ge j m with g | g
        · exact g
        · rw [List.getElem?_eq_none (by simpa [hlen] using g)] at hu; cases hu
      have e : (⟨b, of, none⟩ : Addr).add j = ⟨b, of + j, none⟩ := by unfold Addr.add; split <;> simp_all
      rw [e, hc j hj, ← hu, List.getElem?_map, List.getElem?_eq_getElem (by omega), nth_of_lt (by omega)]
      rfl) (bvals_one _) (by unfold maxLen; omega) (by omega) hB
    exact ⟨v', w', hrun, by rw [List.map_append]; exact h2, (Below.refl _ _).grown hgrow hB (fun j hj => (hown.lt j hj).1), hgrow.size⟩
end Go.Proofs.Ytnaegbnijbdgbaa
