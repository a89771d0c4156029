/- Several texts in one (a claim has 60 files at most): ChR, ChS, ChP, ChQ, ChT. -/
import Derived.Test.YtecedmjhhaabgaaKitO
import Derived.Deep.AppendLies
import Derived.Maps.AppendAt
import Derived.Test.YtecedmjhhaabgaaChO
import Derived.Deep.RegionHeld
import Derived.Deep.WholeRow
import Derived.Lib.SliceRun
import Derived.Test.YtecedmjhhaabgaaHeldQ
import Derived.Test.YtecedmjhhaabgaaBClone
import Derived.Lib.Bytealg
import Derived.Deep.Cut
namespace Go.Proofs.Ytecedmjhhaabgaa

/- Rows of byte slices of the call's own, each told with what lies behind it in its memory (Row: all the bytes, how many are shown): appended to (RowsX), handed back (OwS), written over. No program is named but by its types. -/
section
open Go.RowKit
set_option linter.unusedVariables false
set_option linter.unusedSimpArgs false

abbrev Row := List UInt8 × Nat
def rowAt (xs : List Row) (j : Nat) : Row := xs.getD j ([], 0)
theorem rowAt_left {xs ys : List Row} {j : Nat} (h : j < xs.length) : rowAt (xs ++ ys) j = rowAt xs j := by simp [rowAt, List.getD, List.getElem?_append_left h]
theorem rowAt_last (xs : List Row) (y : Row) : rowAt (xs ++ [y]) xs.length = y := by simp [rowAt, List.getD]
/-- One row, at A. -/
def ROk (w : World) (B : Nat) (x : Row) (A : Option Addr) (c : Nat) : Prop := OwR w B A x.1.length x.1 ∧ x.2 ≤ x.1.length ∧ x.1.length ≤ c ∧ c ≤ 9223372036854775807
theorem OwR.kept' {R : Nat → Prop} {w w' : World} {B n : Nat} {A : Option Addr} {bs : List UInt8} (h : OwR w B A n bs) (hk : Keep R w w') (hn : 0 < n → ∀ b o, A = some ⟨b, o, none⟩ → ¬ R b) : OwR w' B A n bs := h.kept hk (fun h0 b o e => hn h0 b o e)
theorem ROk.kept {R : Nat → Prop} {w w' : World} {B c : Nat} {x : Row} {A : Option Addr} (h : ROk w B x A c) (hk : Keep R w w') (hn : 0 < x.1.length → ∀ b o, A = some ⟨b, o, none⟩ → ¬ R b) : ROk w' B x A c := ⟨h.1.kept' hk hn, h.2⟩
theorem ROk.to {w w' : World} {B c : Nat} {x : Row} {A : Option Addr} (h : ROk w B x A c) (hb : Below w.heap.size w w') : ROk w' B x A c := ⟨h.1.to hb, h.2⟩
theorem ROk.mono {w : World} {B B' c : Nat} {x : Row} {A : Option Addr} (h : ROk w B x A c) (hB : B' ≤ B) : ROk w B' x A c := ⟨h.1.mono hB, h.2⟩

/-- A list of rows that is being built. -/
def RowsX (w : World) (B : Nat) (v : Value) (k : Nat) (xs : List Row) : Prop :=
  xs.length = k ∧ ∃ vs, w.ownsRow B 41 1 v k vs ∧ ∀ j, j < k → ∃ A c, vs[j]? = some (.slice A (rowAt xs j).2 c) ∧ ROk w B (rowAt xs j) A c ∧ (0 < (rowAt xs j).1.length → ∀ b o, A = some ⟨b, o, none⟩ → v.ownBlock ≠ some b)
theorem RowsX.nil (w : World) (B : Nat) : RowsX w B (.slice none 0 0) 0 [] := ⟨rfl, [], ⟨rfl, .inl ⟨rfl, rfl⟩⟩, fun _ h => absurd h (Nat.not_lt_zero _)⟩
theorem RowsX.base {w : World} {B k : Nat} {v : Value} {xs : List Row} (h : RowsX w B v k xs) {b : Nat} (e : v.ownBlock = some b) : B ≤ b ∧ b < w.heap.size := by
  obtain ⟨_, vs, h1, _⟩ := h
  rcases h1.2 with ⟨rfl, _⟩ | ⟨g, cap, cur, rfl, hg, hh, _⟩
  · cases e
  · simp only [Value.ownBlock, Option.some.injEq] at e
    subst e
    exact ⟨hg, heap_at_lt hh⟩
theorem own_keptX {R : Nat → Prop} {w w' : World} {B : Nat} {T : TypeId} {v : Value} {n : Nat} {xs : List Value} (h : w.ownsRow B T 1 v n xs) (hk : Keep R w w') (hn : ∀ b, v.ownBlock = some b → ¬ R b) : w'.ownsRow B T 1 v n xs := by
  refine ⟨h.1, ?_⟩
  rcases h.2 with h | ⟨g, cap, cur, e, hg, hh, h⟩
  · exact .inl h
  · exact .inr ⟨g, cap, cur, e, hg, (hk.block g (heap_at_lt hh) (hn g (by rw [e]; rfl))).trans hh, h⟩
theorem OwR.blk {w : World} {B n b o : Nat} {A : Option Addr} {bs : List UInt8} (h : OwR w B A n bs) (hn : 0 < n) (e : A = some ⟨b, o, none⟩) : B ≤ b ∧ b < w.heap.size := by
  obtain ⟨b', o', e', hB, _⟩ := h.2 hn
  obtain ⟨b2, o2, e2, hb, _⟩ := h.1.2 hn
  rw [e] at e' e2
  injection e' with e'; injection e' with e1 _
  injection e2 with e2; injection e2 with e3 _
  exact ⟨by omega, by omega⟩
/-- Blocks ahead of its base may change. -/
theorem RowsX.kept {R : Nat → Prop} {w w' : World} {B k : Nat} {v : Value} {xs : List Row} (h : RowsX w B v k xs) (hk : Keep R w w') (hn : ∀ b, R b → b < B) : RowsX w' B v k xs := by
  have hba := fun b e => (h.base (b := b) e).1
  obtain ⟨hl, vs, h1, h2⟩ := h
  refine ⟨hl, vs, own_keptX h1 hk (fun b e hr => by have := hba b e; have := hn b hr; omega), fun j hj => ?_⟩
  obtain ⟨A, c, e, hr, hb⟩ := h2 j hj
  exact ⟨A, c, e, hr.kept hk (fun h0 b o e hR => by have := (hr.1.blk h0 e).1; have := hn b hR; omega), hb⟩
theorem RowsX.to {w w' : World} {B k : Nat} {v : Value} {xs : List Row} (h : RowsX w B v k xs) (hb : Below w.heap.size w w') : RowsX w' B v k xs := h.kept (R := fun _ => False) (Keep.of_below hb) (fun _ h => h.elim)
theorem RowsX.slice {w : World} {B k : Nat} {v : Value} {xs : List Row} (h : RowsX w B v k xs) : ∃ A c, v = .slice A k c ∧ k ≤ c ∧ c ≤ 9223372036854775807 := by
  obtain ⟨_, vs, h1, _⟩ := h
  obtain ⟨A, c, rfl⟩ := own_slice h1
  exact ⟨A, c, rfl, own_cap h1⟩
theorem slices_info : (Try.prog.info? 41).map (fun i => (i.zero, i.size, i.bytes)) = some (some (.slice none 0 0), 1, 24) := by kernel_rfl
theorem RowsX.below {w w' : World} {B k : Nat} {a : World} {v : Value} {xs : List Row} (h : RowsX w B v k xs) (hk : Keep (fun b => v.ownBlock = some b) w w') (hb : Below B a w) (hB : B ≤ w.heap.size) : Below B a w' := hk.below hb hB (fun b e => (h.base e).1)

/-- An append whose run is known, at an operation of a plain region, of one that draws. -/
theorem wpList_append_run {P : Program} {T : TypeId} {ops : Array Oper} {rest : List Oper} {o : Oper} {a : Act} {Q : Exit → Act → World → Prop} (hgd : o.guard = none) (s x : Operand)
    (ho : o.op = .call { callee := .builtin .append, args := #[s, x], argTypes := #[T, T] }) {w w' : World} {v u v' : Value} (hs : a.eval s = v) (hx : a.eval x = u)
    (hrun : (Builtin.append_ #[T, T] o.type #[v, u]).run P w = .ok v' w') (h : wpList P ops Q rest (a.put o.dst v') w') : wpList P ops Q (o :: rest) a w := by
  refine wpList_plain hgd fun K hK => ?_
  unfold Oper.wp execOp
  simp only [ho, resolve, invoke, builtin, Sem.run_bind, Sem.run_pure, Result.andThen_ok, List.map_toArray, List.map_cons, List.map_nil, hs, hx, hrun]
  exact hK _ _ h
theorem step_append_run {P : Program} {T : TypeId} {ops : Array Oper} {o : Oper} {a : Act} {K : Act → World → Prop} {Q : Exit → Act → World → Prop} {E : Prop} (hgd : o.guard = none) (s x : Operand)
    (ho : o.op = .call { callee := .builtin .append, args := #[s, x], argTypes := #[T, T] }) {w w' : World} {v u v' : Value} (hs : a.eval s = v) (hx : a.eval x = u)
    (hrun : (Builtin.append_ #[T, T] o.type #[v, u]).run P w = .ok v' w') (h : K (a.put o.dst v') w') :
    if Region.wanted o (yielded ops a.tmps) = true then Oper.wp P o a w K Q else E := by
  have hw : Region.wanted o (yielded ops a.tmps) = true := by simp [Region.wanted, hgd]
  rw [if_pos hw]
  unfold Oper.wp execOp
  simp only [ho, resolve, invoke, builtin, Sem.run_bind, Sem.run_pure, Result.andThen_ok, List.map_toArray, List.map_cons, List.map_nil, hs, hx, hrun]
  exact h
/-- 'append(b, x...)' of bytes onto a row of the call's own: the run. -/
theorem run_pushAll {P : Program} {T U : TypeId} (L : U8 P T U) (ty : TypeId) {B B' n m c : Nat} {A : Option Addr} {w : World} {v : Value} {bs news : List UInt8} (hown : w.ownsRow B U 1 v n (bs.map bval)) (hr : Rd w B' A m news) (hB : B ≤ w.heap.size) (hk : n + m ≤ 140737488355328) :
    ∃ v' w', (Builtin.append_ #[T, T] ty #[v, .slice A m c]).run P w = .ok v' w' ∧ w'.ownsRow B U 1 v' (n + m) ((bs ++ news).map bval) ∧ Below B w w' ∧ w.heap.size ≤ w'.heap.size := by
  obtain ⟨i0, hi, hz0, hz1, hz2⟩ := info_parts L.info
  have hlen : news.length = m := hr.1
  rcases Nat.eq_zero_or_pos m with rfl | hm
  · obtain rfl : news = [] := List.eq_nil_of_length_eq_zero hlen
    have hul := L.ul
    refine ⟨v, w, ?_, by simpa using hown, Below.refl _ _, Nat.le_refl _⟩
    rcases hown.2 with ⟨rfl, rfl⟩ | ⟨g, cap, cur, rfl, _, _, hnc, _⟩
    · cases A <;> simp [Builtin.append_, run_underlying hul, sizeOf, typeInfo, hi, hz1, Builtin.lenOf, Builtin.firstCells, loadCells, loadCellsFrom]
    · cases A <;> simp [Builtin.append_, run_underlying hul, sizeOf, typeInfo, hi, hz1, Builtin.lenOf, Builtin.firstCells, hnc, storeCells, loadCells, loadCellsFrom]
  · obtain ⟨b, of, rfl, _, hc⟩ := hr.2 hm
    obtain ⟨v', w', hrun, h2, hgrow, _⟩ := run_append_own_at (P := P) w B T ty U i0 (.int .u8 0) 1 1 L.ul hi hz0 hz1 hz2 rfl (by decide) v n _ hown ⟨b, of, none⟩ m c (news.map bval) (by simpa using hlen) (by
      intro j u hu
      have hj : j < m := by
        rcases Nat.lt_or_ge j m with g | g
        · exact g
        · rw [List.getElem?_eq_none (by simpa [hlen] using g)] at hu; cases hu
      have e : (⟨b, of, none⟩ : Addr).add j = ⟨b, of + j, none⟩ := by unfold Addr.add; split <;> simp_all
      rw [e, hc j hj, ← hu, List.getElem?_map, List.getElem?_eq_getElem (by omega), nth_of_lt (by omega)]
      rfl) (bvals_one _) (by unfold maxLen; omega) (by omega) hB
    exact ⟨v', w', hrun, by rw [List.map_append]; exact h2, (Below.refl _ _).grown hgrow hB (fun j hj => (hown.lt j hj).1), hgrow.size⟩
end

/- Rows handed back (OwS): read, cut, written over; a front, a part of a list of rows; one row more behind a list of another's (run_appendS). -/
section
open Go.RowKit
set_option linter.unusedVariables false
set_option linter.unusedSimpArgs false

def fullR (m : List UInt8) : Row := (m, m.length)
def shown (x : Row) : List UInt8 := x.1.take x.2
theorem shown_full (m : List UInt8) : shown (fullR m) = m := List.take_length
theorem shown_fulls (l : List (List UInt8)) : (l.map fullR).map shown = l := by
  rw [List.map_map]
  have : shown ∘ fullR = id := by funext m; exact shown_full m
  rw [this, List.map_id]
/-- Rows in memory that lies at B or behind it, and may be written. -/
def OwS (w : World) (B : Nat) (A : Option Addr) (n : Nat) (xs : List Row) : Prop :=
  xs.length = n ∧ (0 < n → ∃ b o, A = some ⟨b, o, none⟩ ∧ B ≤ b ∧ b < w.heap.size ∧ ∀ j, j < n → ∃ A' c, w.cell? ⟨b, o + j, none⟩ = some (.slice A' (rowAt xs j).2 c) ∧ ROk w B (rowAt xs j) A' c ∧ (0 < (rowAt xs j).1.length → ∀ b' o', A' = some ⟨b', o', none⟩ → b' ≠ b))
theorem OwS.nil (w : World) (B : Nat) (A : Option Addr) : OwS w B A 0 [] := ⟨rfl, fun h => absurd h (Nat.lt_irrefl 0)⟩
theorem OwS.of {w : World} {B n c : Nat} {A : Option Addr} {xs : List Row} (h : RowsX w B (.slice A n c) n xs) : OwS w B A n xs := by
  obtain ⟨hl, vs, h1, h2⟩ := h
  refine ⟨hl, fun hn => ?_⟩
  obtain ⟨g, rfl, hg⟩ := own_head h1 hn
  have hlt : g < w.heap.size := by
    rcases h1.2 with ⟨_, h0⟩ | ⟨g', cap, cur, hv, _, hh, _⟩
    · omega
    · injection hv with e; injection e with e; injection e with e _; subst e; exact heap_at_lt hh
  refine ⟨g, 0, rfl, hg, hlt, fun j hj => ?_⟩
  obtain ⟨A', c', e, hr, hb⟩ := h2 j hj
  have hc := h1.cells (g := g) rfl j _ e
  have ea : (⟨g, 0, none⟩ : Addr).add j = ⟨g, 0 + j, none⟩ := by unfold Addr.add; split <;> simp_all
  rw [ea] at hc
  refine ⟨A', c', hc, hr, fun h0 b' o' e' he => hb h0 b' o' e' ?_⟩
  subst he; rfl
theorem OwS.kept {R : Nat → Prop} {w w' : World} {B n : Nat} {A : Option Addr} {xs : List Row} (h : OwS w B A n xs) (hk : Keep R w w') (hn : ∀ b, R b → b < B) : OwS w' B A n xs := by
  refine ⟨h.1, fun h0 => ?_⟩
  obtain ⟨b, o, e, hB, hlt, hc⟩ := h.2 h0
  refine ⟨b, o, e, hB, Nat.lt_of_lt_of_le hlt hk.size, fun j hj => ?_⟩
  obtain ⟨A', c, h1, h2, h3⟩ := hc j hj
  refine ⟨A', c, ?_, h2.kept hk (fun hp b o e hR => by have := (h2.1.blk hp e).1; have := hn b hR; omega), h3⟩
  rw [← h1]
  exact hk.cell hlt (fun hR => by have := hn b hR; omega)
theorem OwS.to {w w' : World} {B n : Nat} {A : Option Addr} {xs : List Row} (h : OwS w B A n xs) (hb : Below w.heap.size w w') : OwS w' B A n xs := h.kept (R := fun _ => False) (Keep.of_below hb) (fun _ h => h.elim)
theorem OwS.mono {w : World} {B B' n : Nat} {A : Option Addr} {xs : List Row} (h : OwS w B A n xs) (hB : B' ≤ B) : OwS w B' A n xs :=
  ⟨h.1, fun h0 => by
    obtain ⟨b, o, e, hb, hlt, hc⟩ := h.2 h0
    refine ⟨b, o, e, by omega, hlt, fun j hj => ?_⟩
    obtain ⟨A', c, h1, h2, h3⟩ := hc j hj
    exact ⟨A', c, h1, h2.mono hB, h3⟩⟩
theorem rowAt_map (xs : List Row) (j : Nat) : (xs.map shown).getD j [] = shown (rowAt xs j) := by
  simp only [rowAt, List.getD, List.getElem?_map]
  cases xs[j]? <;> simp [shown]
/-- It reads as what it shows. -/
theorem OwS.rdS {w : World} {B n : Nat} {A : Option Addr} {xs : List Row} (h : OwS w B A n xs) : RdS w w.heap.size A n (xs.map shown) := by
  refine ⟨by simp [h.1], fun h0 => ?_⟩
  obtain ⟨b, o, e, hB, hlt, hc⟩ := h.2 h0
  refine ⟨b, o, e, hlt, fun j hj => ?_⟩
  obtain ⟨A', c, h1, h2, _⟩ := hc j hj
  refine ⟨A', _, c, h1, ?_⟩
  rw [rowAt_map]
  exact h2.1.1.front h2.2.1
theorem OwS.full {w : World} {B n : Nat} {A : Option Addr} {l : List (List UInt8)} (h : OwS w B A n (l.map fullR)) : RdS w w.heap.size A n l := by
  have := h.rdS
  rwa [shown_fulls] at this
theorem OwS.at_ {w : World} {B n j : Nat} {A : Option Addr} {xs : List Row} (h : OwS w B A n xs) (hj : j < n) :
    ∃ b o A' c, A = some ⟨b, o, none⟩ ∧ w.cell? ⟨b, o + j, none⟩ = some (.slice A' (rowAt xs j).2 c) ∧ ROk w B (rowAt xs j) A' c ∧ (0 < (rowAt xs j).1.length → ∀ b' o', A' = some ⟨b', o', none⟩ → b' ≠ b) := by
  obtain ⟨b, o, e, hB, hlt, hc⟩ := h.2 (by omega)
  obtain ⟨A', c, h1, h2, h3⟩ := hc j hj
  exact ⟨b, o, A', c, e, h1, h2, h3⟩
theorem addr_addN {b o j : Nat} : (⟨b, o, none⟩ : Addr).add j = ⟨b, o + j, none⟩ := by unfold Addr.add; split <;> simp_all
/-- Where the part behind the first l lies, when nothing lies behind its end. -/
def cutA (A : Option Addr) (n l : Nat) : Option Addr := if n = l then A else A.map (·.add l)
theorem OwS.drop {w : World} {B n l : Nat} {A : Option Addr} {xs : List Row} (h : OwS w B A n xs) (hl : l ≤ n) : OwS w B (cutA A n l) (n - l) (xs.drop l) := by
  refine ⟨by simp [h.1], fun h0 => ?_⟩
  obtain ⟨b, o, rfl, hB, hlt, hc⟩ := h.2 (by omega)
  refine ⟨b, o + l, ?_, hB, hlt, fun j hj => ?_⟩
  · unfold cutA; rw [if_neg (by omega)]; simp [addr_addN]
  · obtain ⟨A', c, h1, h2, h3⟩ := hc (l + j) (by omega)
    have e : rowAt (xs.drop l) j = rowAt xs (l + j) := by simp [rowAt, List.getD, List.getElem?_drop]
    rw [e]
    exact ⟨A', c, by rw [Nat.add_assoc]; exact h1, h2, h3⟩
theorem OwS.take {w : World} {B n l : Nat} {A : Option Addr} {xs : List Row} (h : OwS w B A n xs) (hl : l ≤ n) : OwS w B A l (xs.take l) := by
  refine ⟨by simp [h.1]; omega, fun h0 => ?_⟩
  obtain ⟨b, o, rfl, hB, hlt, hc⟩ := h.2 (by omega)
  refine ⟨b, o, rfl, hB, hlt, fun j hj => ?_⟩
  obtain ⟨A', c, h1, h2, h3⟩ := hc j (by omega)
  have e : rowAt (xs.take l) j = rowAt xs j := by simp [rowAt, List.getD, hj]
  rw [e]
  exact ⟨A', c, h1, h2, h3⟩
theorem RdS.drop {w : World} {B n l : Nat} {A : Option Addr} {bss : List (List UInt8)} (h : RdS w B A n bss) (hl : l ≤ n) : RdS w B (cutA A n l) (n - l) (bss.drop l) := by
  refine ⟨by simp [h.1], fun h0 => ?_⟩
  obtain ⟨b, o, rfl, hlt, hc⟩ := h.2 (by omega)
  refine ⟨b, o + l, ?_, hlt, fun j hj => ?_⟩
  · unfold cutA; rw [if_neg (by omega)]; simp [addr_addN]
  · obtain ⟨A', m, c, h1, h2⟩ := hc (l + j) (by omega)
    have e : (bss.drop l).getD j [] = bss.getD (l + j) [] := by simp [List.getD, List.getElem?_drop]
    rw [e]
    exact ⟨A', m, c, by rw [Nat.add_assoc]; exact h1, h2⟩
theorem RdS.belowX {w w' : World} {B n : Nat} {A : Option Addr} {bss : List (List UInt8)} (h : RdS w B A n bss) (hb : Below B w w') : RdS w' B A n bss :=
  ⟨h.1, fun hn => by
    obtain ⟨b, o, e, hB, hc⟩ := h.2 hn
    refine ⟨b, o, e, hB, fun j hj => ?_⟩
    obtain ⟨A', m, c, h1, h2⟩ := hc j hj
    exact ⟨A', m, c, (hb.cell (p := ⟨b, o + j, none⟩) hB).trans h1, h2.below hb⟩⟩
theorem RdS.moreX {w : World} {B B' n : Nat} {A : Option Addr} {bss : List (List UInt8)} (h : RdS w B A n bss) (hB : B ≤ B') : RdS w B' A n bss :=
  ⟨h.1, fun hn => by
    obtain ⟨b, o, e, hb, hc⟩ := h.2 hn
    refine ⟨b, o, e, by omega, fun j hj => ?_⟩
    obtain ⟨A', m, c, h1, h2⟩ := hc j hj
    exact ⟨A', m, c, h1, h2.more hB⟩⟩
theorem RdS.toX {w w' : World} {n : Nat} {A : Option Addr} {bss : List (List UInt8)} (h : RdS w w.heap.size A n bss) (hb : Below w.heap.size w w') : RdS w' w'.heap.size A n bss := (h.belowX hb).moreX hb.size
theorem RdS.at_ {w : World} {B n j : Nat} {A : Option Addr} {bss : List (List UInt8)} (h : RdS w B A n bss) (hj : j < n) :
    ∃ b o A' m c, A = some ⟨b, o, none⟩ ∧ w.cell? ⟨b, o + j, none⟩ = some (.slice A' m c) ∧ Rd w B A' m (bss.getD j []) := by
  obtain ⟨b, o, e, hb, hc⟩ := h.2 (by omega)
  obtain ⟨A', m, c, h1, h2⟩ := hc j hj
  exact ⟨b, o, A', m, c, e, h1, h2⟩

/-! Written over. -/
theorem OwR.dirty {w : World} {B n : Nat} {A : Option Addr} {bs : List UInt8} (h : OwR w B A n bs) (p : Addr) (y : UInt8) : ∃ bs' : List UInt8, bs'.length = bs.length ∧ OwR (w.setCell p (.int .u8 (y.toNat : Int))) B A n bs' := by
  rcases Nat.eq_zero_or_pos n with rfl | hn
  · exact ⟨bs, rfl, ⟨⟨h.1.1, fun h => absurd h (Nat.lt_irrefl 0)⟩, fun h => absurd h (Nat.lt_irrefl 0)⟩⟩
  · obtain ⟨b, o, rfl, hB, hf⟩ := h.2 hn
    by_cases hp : ∃ j, j < n ∧ p = ⟨b, o + j, none⟩
    · obtain ⟨j, hj, rfl⟩ := hp
      exact ⟨bs.set j y, by simp, h.set hj y rfl⟩
    · refine ⟨bs, rfl, ⟨h.1.1, fun h0 => ?_⟩, fun h0 => ⟨b, o, rfl, hB, fun j hj => by rw [World.frozen?_setCell]; exact hf j hj⟩⟩
      refine ⟨b, o, rfl, by simpa using h.1.blk hn, fun j hj => ?_⟩
      rw [World.cell?_setCell_other (h := fun e => hp ⟨j, hj, e⟩)]
      exact h.1.at hj
theorem ROk.dirty {w : World} {B c : Nat} {x : Row} {A : Option Addr} (h : ROk w B x A c) (p : Addr) (y : UInt8) : ∃ x' : Row, x'.2 = x.2 ∧ x'.1.length = x.1.length ∧ ROk (w.setCell p (.int .u8 (y.toNat : Int))) B x' A c := by
  obtain ⟨bs', hl, ho⟩ := h.1.dirty p y
  refine ⟨(bs', x.2), rfl, hl, ?_, ?_, ?_, h.2.2.2⟩
  · show OwR _ B A bs'.length bs'
    rw [hl]; exact ho
  · show x.2 ≤ bs'.length
    rw [hl]; exact h.2.1
  · show bs'.length ≤ c
    rw [hl]; exact h.2.2.1
theorem OwS.dirty {w : World} {B n b o : Nat} {xs : List Row} (h : OwS w B (some ⟨b, o, none⟩) n xs) (p : Addr) (hp : p.block ≠ b) (y : UInt8) :
    ∃ xs' : List Row, (∀ j, j < n → (rowAt xs' j).2 = (rowAt xs j).2) ∧ OwS (w.setCell p (.int .u8 (y.toNat : Int))) B (some ⟨b, o, none⟩) n xs' := by
  rcases Nat.eq_zero_or_pos n with rfl | hn
  · exact ⟨xs, fun _ h => absurd h (Nat.not_lt_zero _), ⟨h.1, fun h => absurd h (Nat.lt_irrefl 0)⟩⟩
  · obtain ⟨b1, o1, e, hB, hlt, hc⟩ := h.2 hn
    injection e with e; injection e with e1 e2
    subst e1; subst e2
    have each : ∀ j, ∃ x' : Row, j < n → x'.2 = (rowAt xs j).2 ∧ x'.1.length = (rowAt xs j).1.length ∧ ∃ A' c, w.cell? ⟨b, o + j, none⟩ = some (.slice A' (rowAt xs j).2 c) ∧ ROk (w.setCell p (.int .u8 (y.toNat : Int))) B x' A' c ∧ (0 < (rowAt xs j).1.length → ∀ b' o', A' = some ⟨b', o', none⟩ → b' ≠ b) := fun j => by
      by_cases hj : j < n
      · obtain ⟨A', c, h1, h2, h3⟩ := hc j hj
        obtain ⟨x', e1, e2, h4⟩ := h2.dirty p y
        exact ⟨x', fun _ => ⟨e1, e2, A', c, h1, h4, h3⟩⟩
      · exact ⟨([], 0), fun h => absurd h hj⟩
    obtain ⟨F, hF⟩ := Classical.axiomOfChoice each
    have eF : ∀ j, j < n → rowAt ((List.range n).map F) j = F j := fun j hj => by simp [rowAt, List.getD, hj]
    refine ⟨(List.range n).map F, fun j hj => by rw [eF j hj]; exact (hF j hj).1, by simp, fun _ => ⟨b, o, rfl, hB, by simpa using hlt, fun j hj => ?_⟩⟩
    obtain ⟨e1, e2, A', c, h1, h4, h3⟩ := hF j hj
    rw [eF j hj, e1, e2]
    refine ⟨A', c, ?_, h4, h3⟩
    rw [World.cell?_setCell_other (h := fun e => hp (by rw [e]))]
    exact h1

/-! Parts. -/
theorem slice_hc {P : Program} {T U : TypeId} (hul : P.underlying T = some (.slice U)) (hs : ∀ w : World, (sizeOf U).run P w = .ok 1 w) (A : Option Addr) {n c h : Nat} (h2 : h ≤ c) :
    ∀ (k' : IntKind) (w : World), (Instr.slice T (.slice A n c) none (some (.int k' (h : Int))) none).run P w = .ok (.slice A h c) w := by
  intro k' w
  have he : P.elem T = U := by simp [Program.elem, hul]
  rw [run_slice_h (ht := by rw [he]; exact hul) (kh := k') (h := (h : Int)) (h0 := by omega) (h2 := by omega), he, hs]
  simp only [Result.andThen, sliced]
  congr 1
  cases A with
  | none => simp
  | some a => simp [addr_add_zero]
theorem slice_lhm {P : Program} {T U : TypeId} (hul : P.underlying T = some (.slice U)) (hs : ∀ w : World, (sizeOf U).run P w = .ok 1 w) (A : Option Addr) {n c l : Nat} (h1 : l ≤ n) (h2 : n ≤ c) :
    ∀ (k k' k2 : IntKind) (w : World), (Instr.slice T (.slice A n c) (some (.int k (l : Int))) (some (.int k' (n : Int))) (some (.int k2 (n : Int)))).run P w = .ok (.slice (cutA A n l) (n - l) (n - l)) w := by
  intro k k' k2 w
  have he : P.elem T = U := by simp [Program.elem, hul]
  rw [run_slice_lhm (ht := by rw [he]; exact hul) (kl := k) (kh := k') (km := k2) (l := (l : Int)) (h := (n : Int)) (m := (n : Int)) (h0 := by omega) (h1 := by omega) (h2 := by omega) (h3 := by omega), he, hs]
  simp only [Result.andThen, sliced, cutA, Int.toNat_natCast, Nat.mul_one]
theorem slices_size (w : World) : (sizeOf 41).run Try.prog w = .ok 1 w := by
  have h : (Try.prog.info? 41).map (·.size) = some 1 := by kernel_rfl
  cases hi : Try.prog.info? 41 with
  | none => rw [hi] at h; cases h
  | some i => rw [hi] at h; simp at h; simp [sizeOf, typeInfo, hi, h]
end

/- Contracts of the program's channel package, part one: within, May, the library's IndexFunc and ContainsFunc at rows and at channels, MayQueue, New, from. -/
section
open Go.RowKit
set_option linter.unusedVariables false
set_option linter.unusedSimpArgs false

def inR (n m : Int) : Bool := decide (1 ≤ n) && decide (n ≤ m)
theorem inR_iff {n m : Int} : inR n m = true ↔ 1 ≤ n ∧ n ≤ m := by simp [inR]
set_option maxRecDepth 1000000 in
set_option maxHeartbeats 1000000 in
theorem wWithin (n m : Int) (w : World) : Calls Try.prog 89 #[.int .i64 n, .int .i64 m] w fun e w' => e = .returned (.bool (inR n m)) ∧ w = w' := by
  go_enter Try.func89, Try.ntmps89
  go_wp2
  all_goals (go_ret; refine ⟨ret_bool ?_, rfl⟩; rw [Bool.eq_iff_iff, inR_iff]; simp only [decide_eq_true_eq, Bool.false_eq_true, false_iff] at *; omega)

/-- A channel in a box of its own. -/
structure Cx (w : World) (g : Nat) (c : Ch) : Prop where
  c0 : w.cell? ⟨g, 0, none⟩ = some (.int .i64 c.id)
  c1 : w.cell? ⟨g, 1, none⟩ = some (.int .i64 c.fr)
  c2 : w.cell? ⟨g, 2, none⟩ = some (.int .i64 c.dst)
  c3 : w.cell? ⟨g, 3, none⟩ = some (.int .i64 c.cap)
  c4 : w.cell? ⟨g, 4, none⟩ = some (.int .i64 c.size)
  lt : g < w.heap.size
theorem Cx.to {w w' : World} {g : Nat} {c : Ch} (h : Cx w g c) (hb : Below w.heap.size w w') : Cx w' g c :=
  ⟨(hb.cell h.lt).trans h.c0, (hb.cell h.lt).trans h.c1, (hb.cell h.lt).trans h.c2, (hb.cell h.lt).trans h.c3, (hb.cell h.lt).trans h.c4, Nat.lt_of_lt_of_le h.lt hb.size⟩
theorem Cx.new (w : World) (a b d e s : Int) (T : TypeId) : Cx (w.alloc (.cells #[.int .i64 a, .int .i64 b, .int .i64 d, .int .i64 e, .int .i64 s] T)) w.heap.size ⟨a, b, d, e, s⟩ := ⟨by simp, by simp, by simp, by simp, by simp, by simp⟩
/-- A queue in a box of its own. -/
structure Qx (w : World) (g : Nat) (c : Ch) (v : Value) : Prop where
  c0 : w.cell? ⟨g, 0, none⟩ = some (.int .i64 c.id)
  c1 : w.cell? ⟨g, 1, none⟩ = some (.int .i64 c.fr)
  c2 : w.cell? ⟨g, 2, none⟩ = some (.int .i64 c.dst)
  c3 : w.cell? ⟨g, 3, none⟩ = some (.int .i64 c.cap)
  c4 : w.cell? ⟨g, 4, none⟩ = some (.int .i64 c.size)
  c5 : w.cell? ⟨g, 5, none⟩ = some v
  lt : g < w.heap.size
theorem Qx.kept {R : Nat → Prop} {w w' : World} {g : Nat} {c : Ch} {v : Value} (h : Qx w g c v) (hk : Keep R w w') (hn : ¬ R g) : Qx w' g c v :=
  ⟨(hk.cell h.lt hn).trans h.c0, (hk.cell h.lt hn).trans h.c1, (hk.cell h.lt hn).trans h.c2, (hk.cell h.lt hn).trans h.c3, (hk.cell h.lt hn).trans h.c4, (hk.cell h.lt hn).trans h.c5, Nat.lt_of_lt_of_le h.lt hk.size⟩
theorem Qx.to {w w' : World} {g : Nat} {c : Ch} {v : Value} (h : Qx w g c v) (hb : Below w.heap.size w w') : Qx w' g c v := h.kept (R := fun _ => False) (Keep.of_below hb) (fun h => h)
theorem Qx.below {B : Nat} {w w' : World} {g : Nat} {c : Ch} {v : Value} (h : Qx w g c v) (hg : g < B) (hb : Below B w w') : Qx w' g c v :=
  ⟨(hb.cell hg).trans h.c0, (hb.cell hg).trans h.c1, (hb.cell hg).trans h.c2, (hb.cell hg).trans h.c3, (hb.cell hg).trans h.c4, (hb.cell hg).trans h.c5, Nat.lt_of_lt_of_le h.lt hb.size⟩
theorem Qx.new (w : World) (a b d e s : Int) (v : Value) (T : TypeId) : Qx (w.alloc (.cells #[.int .i64 a, .int .i64 b, .int .i64 d, .int .i64 e, .int .i64 s, v] T)) w.heap.size ⟨a, b, d, e, s⟩ v := ⟨by simp, by simp, by simp, by simp, by simp, by simp, by simp⟩

set_option maxRecDepth 1000000 in
set_option maxHeartbeats 1000000 in
theorem wMay (a b d e s : Int) (w : World) :
    Calls Try.prog 84 #[.agg #[.int .i64 a, .int .i64 b, .int .i64 d, .int .i64 e, .int .i64 s]] w fun x w' => x = .returned (.bool (mayC ⟨a, b, d, e, s⟩)) ∧ Below w.heap.size w w' := by
  have BB := Lib.hid ((Below.refl w.heap.size w).alloc (Nat.le_refl _) (.cells #[.int .i64 a, .int .i64 b, .int .i64 d, .int .i64 e, .int .i64 s] 47))
  go_enter Try.func84, Try.ntmps84
  go_wp2_with fail
  refine (wWithin _ _ _).mono ?_
  rintro e w1 ⟨rfl, rfl⟩
  cases h1 : inR a 8
  · have HF : Hid (false = mayC ⟨a, b, d, e, s⟩) := by
      show _ = _
      rw [eq_comm, ← Bool.not_eq_true, mayC_iff]
      rw [← Bool.not_eq_true, inR_iff] at h1
      simp only; omega
    clear h1
    go_wp2_with fail
    go_ret
    refine ⟨ret_bool ?_, BB.out⟩
    exact HF.out
  have H1 := Lib.hid (inR_iff.1 h1)
  clear h1
  go_wp2_with fail
  refine (wWithin _ _ _).mono ?_
  rintro e w1 ⟨rfl, rfl⟩
  cases h1 : inR e 4
  · have HF : Hid (false = mayC ⟨a, b, d, e, s⟩) := by
      show _ = _
      rw [eq_comm, ← Bool.not_eq_true, mayC_iff]
      rw [← Bool.not_eq_true, inR_iff] at h1
      simp only; omega
    clear h1
    go_wp2_with fail
    go_ret
    refine ⟨ret_bool ?_, BB.out⟩
    exact HF.out
  have H2 := Lib.hid (inR_iff.1 h1)
  clear h1
  go_wp2_with fail
  refine (wWithin _ _ _).mono ?_
  rintro e w1 ⟨rfl, rfl⟩
  cases h1 : inR s 16
  · have HF : Hid (false = mayC ⟨a, b, d, e, s⟩) := by
      show _ = _
      rw [eq_comm, ← Bool.not_eq_true, mayC_iff]
      rw [← Bool.not_eq_true, inR_iff] at h1
      simp only; omega
    clear h1
    go_wp2_with fail
    go_ret
    refine ⟨ret_bool ?_, BB.out⟩
    exact HF.out
  have H3 := Lib.hid (inR_iff.1 h1)
  clear h1
  go_wp2_with fail
  refine (wWithin _ _ _).mono ?_
  rintro e w1 ⟨rfl, rfl⟩
  cases h1 : inR b 6
  · have HF : Hid (false = mayC ⟨a, b, d, e, s⟩) := by
      show _ = _
      rw [eq_comm, ← Bool.not_eq_true, mayC_iff]
      rw [← Bool.not_eq_true, inR_iff] at h1
      simp only; omega
    clear h1
    go_wp2_with fail
    go_ret
    refine ⟨ret_bool ?_, BB.out⟩
    exact HF.out
  have H4 := Lib.hid (inR_iff.1 h1)
  clear h1
  go_wp2_with fail
  refine (wWithin _ _ _).mono ?_
  rintro e w1 ⟨rfl, rfl⟩
  cases h1 : inR d 6
  · have HF : Hid (false = mayC ⟨a, b, d, e, s⟩) := by
      show _ = _
      rw [eq_comm, ← Bool.not_eq_true, mayC_iff]
      rw [← Bool.not_eq_true, inR_iff] at h1
      simp only; omega
    clear h1
    go_wp2_with fail
    go_ret
    refine ⟨ret_bool ?_, BB.out⟩
    exact HF.out
  have H5 := Lib.hid (inR_iff.1 h1)
  clear h1
  have HF : Hid ((b != d) = mayC ⟨a, b, d, e, s⟩) := by
    show _ = _
    have := H1.out; have := H2.out; have := H3.out; have := H4.out; have := H5.out
    rw [Bool.eq_iff_iff, mayC_iff]
    simp only [bne_iff_ne, ne_eq]
    omega
  go_wp2_with fail
  all_goals (go_ret; refine ⟨ret_bool ?_, BB.out⟩; rw [← HF.out]; try simp_all)

/-- Where the first row stands that is too long; -1. -/
def firstLong (c : Ch) (l : List (List UInt8)) : Int := match l.findIdx? (longM c) with | some i => (i : Int) | none => -1
theorem firstLong_at {c : Ch} {l : List (List UInt8)} {i : Nat} (h : i < l.length) (hb : ∀ j, j < i → longM c (l.getD j []) = false) (hi : longM c (l.getD i []) = true) : firstLong c l = (i : Int) ∧ l.any (longM c) = true := by
  have e : l.findIdx? (longM c) = some i := by
    rw [List.findIdx?_eq_some_iff_getElem]
    refine ⟨h, ?_, fun j hj => ?_⟩
    · simpa [List.getD, List.getElem?_eq_getElem h] using hi
    · have := hb j hj
      simpa [List.getD, List.getElem?_eq_getElem (Nat.lt_trans hj h)] using this
  refine ⟨by simp [firstLong, e], ?_⟩
  rw [List.any_eq_true]
  exact ⟨l[i], List.getElem_mem h, by simpa [List.getD, List.getElem?_eq_getElem h] using hi⟩
theorem firstLong_none {c : Ch} {l : List (List UInt8)} (hb : ∀ j, j < l.length → longM c (l.getD j []) = false) : firstLong c l = -1 ∧ l.any (longM c) = false := by
  have e : l.any (longM c) = false := by
    rw [List.any_eq_false]
    intro x hx
    obtain ⟨i, hi, rfl⟩ := List.getElem_of_mem hx
    have := hb i hi
    simpa [List.getD, List.getElem?_eq_getElem hi] using this
  refine ⟨?_, e⟩
  have : l.findIdx? (longM c) = none := by
    rw [List.findIdx?_eq_none_iff]
    intro x hx
    rw [List.any_eq_false] at e
    simpa using e x hx
  simp [firstLong, this]

theorem firstLong_any (c : Ch) (l : List (List UInt8)) : decide (firstLong c l ≥ 0) = l.any (longM c) := by
  unfold firstLong
  cases h : l.findIdx? (longM c) with
  | none =>
    rw [List.findIdx?_eq_none_iff] at h
    have : l.any (longM c) = false := by rw [List.any_eq_false]; intro x hx; simpa using h x hx
    rw [this]; rfl
  | some i =>
    rw [List.findIdx?_eq_some_iff_getElem] at h
    obtain ⟨hi, h1, _⟩ := h
    have : l.any (longM c) = true := by rw [List.any_eq_true]; exact ⟨_, List.getElem_mem hi, h1⟩
    rw [this]; simp
end

/- A queue in a block of the call's own (QB); contracts of the program's channel package, part two: New, from, bytes.Clone, filled. -/
section
open Go.RowKit
set_option linter.unusedVariables false
set_option linter.unusedSimpArgs false

/-- A queue stored into a block. -/
def setQ (w : World) (g : Nat) (c : Ch) (v : Value) : World :=
  (((((w.setCell ⟨g, 0, none⟩ (.int .i64 c.id)).setCell ⟨g, 1, none⟩ (.int .i64 c.fr)).setCell ⟨g, 2, none⟩ (.int .i64 c.dst)).setCell ⟨g, 3, none⟩ (.int .i64 c.cap)).setCell ⟨g, 4, none⟩ (.int .i64 c.size)).setCell ⟨g, 5, none⟩ v
theorem Keep.setQ {R : Nat → Prop} {a w : World} (h : Keep R a w) (g : Nat) (c : Ch) (v : Value) (hr : R g) : Keep R a (setQ w g c v) :=
  (((((h.setCell _ _ hr).setCell _ _ hr).setCell _ _ hr).setCell _ _ hr).setCell _ _ hr).setCell _ _ hr
theorem below_setQ {B : Nat} {a w : World} (h : Below B a w) {g : Nat} (hg : B ≤ g) (c : Ch) (v : Value) : Below B a (setQ w g c v) :=
  (((((h.setCell (p := ⟨g, 0, none⟩) hg _).setCell (p := ⟨g, 1, none⟩) hg _).setCell (p := ⟨g, 2, none⟩) hg _).setCell (p := ⟨g, 3, none⟩) hg _).setCell (p := ⟨g, 4, none⟩) hg _).setCell (p := ⟨g, 5, none⟩) hg _
theorem OwS.fullR_of {w : World} {B n c : Nat} {A : Option Addr} {l : List (List UInt8)} (h : RowsX w B (.slice A n c) n (l.map fullR)) : OwS w B A n (l.map fullR) := OwS.of h
theorem take_fulls {l : List (List UInt8)} {k : Nat} (h : k < l.length) : (l.take (k + 1)).map fullR = (l.take k).map fullR ++ [fullR (l.getD k [])] := by
  rw [List.take_succ_eq_append_getElem h, List.map_append]
  simp [List.getD, List.getElem?_eq_getElem h]
/-- What the queues that are handed back are made of. -/
def RetQu (w : World) (c : Ch) (l : List (List UInt8)) (v : Value) (w' : World) : Prop :=
  ∃ A n k, v = .agg (quA c (.slice A n k)) ∧ OwS w' w.heap.size A n (l.map fullR) ∧ n ≤ k ∧ k ≤ 9223372036854775807 ∧ Below w.heap.size w w'
def newC (c : Ch) : Ch := if mayC c then c else Ch.zero
def newE (c : Ch) : Int := if mayC c then 0 else 2
end

/- Contracts of the program's channel package, part three: Same (slices.EqualFunc with bytes.Equal), All (over slices.IndexFunc at channels). -/
section
open Go.RowKit
set_option linter.unusedVariables false
set_option linter.unusedSimpArgs false

theorem rows_eq_len {l l' : List (List UInt8)} (h : l = l') : l.length = l'.length := by rw [h]
theorem rows_step {l l' : List (List UInt8)} {k : Nat} (h : k < l.length) (h' : k < l'.length) (ht : l.take k = l'.take k) (he : l.getD k [] = l'.getD k []) : l.take (k + 1) = l'.take (k + 1) := by
  rw [List.take_succ_eq_append_getElem h, List.take_succ_eq_append_getElem h', ht]
  simp [List.getD, List.getElem?_eq_getElem h, List.getElem?_eq_getElem h'] at he
  rw [he]
/-- Are two channels the same? -/
def eqC (x y : Ch) : Bool := decide (x = y)
theorem eqC_iff {x y : Ch} : eqC x y = true ↔ x = y := by simp [eqC]
theorem ch_guard : Try.prog.eqGuardType Try.prog.depth 47 = false := by kernel_rfl
theorem ch_eq (a b d e s a' b' d' e' s' : Int) (w : World) : (Op.equalIn 10000 47 (.agg #[.int .i64 a, .int .i64 b, .int .i64 d, .int .i64 e, .int .i64 s]) (.agg #[.int .i64 a', .int .i64 b', .int .i64 d', .int .i64 e', .int .i64 s'])).run Try.prog w = .ok (eqC ⟨a, b, d, e, s⟩ ⟨a', b', d', e', s'⟩) w := by
  unfold eqC
  have hS : Try.prog.underlying 47 = some (.struct (Try.prog.fieldsOf 47)) := by kernel_rfl
  have hp : Try.prog.stoodInHeld 47 = false := by kernel_rfl
  have u3 := Try.underlying3
  have a3 := Try.isAgg3
  have z3 := Try.sizeOf3
  rw [show (10000 : Nat) = 9999 + 1 from rfl, run_equalIn_agg w 9999 47 _ _ hS hp]
  simp only [Program.fieldsOf, Try.underlying47]
  go_simp
  by_cases h1 : a = a' <;> by_cases h2 : b = b' <;> by_cases h3 : d = d' <;> by_cases h4 : e = e' <;> by_cases h5 : s = s' <;> simp [h1, h2, h3, h4, h5]
def qu (a b d e s : Int) (v : Value) : Value := .agg #[.int .i64 a, .int .i64 b, .int .i64 d, .int .i64 e, .int .i64 s, v]
/-- Where the first channel stands that may not be; -1. -/
def firstBad (l : List Ch) : Int := match l.findIdx? (fun c => !mayC c) with | some i => (i : Int) | none => -1
theorem firstBad_at {l : List Ch} {i : Nat} (h : i < l.length) (hb : ∀ j, j < i → mayC (chAt l j) = true) (hi : mayC (chAt l i) = false) : firstBad l = (i : Int) := by
  have e : l.findIdx? (fun c => !mayC c) = some i := by
    rw [List.findIdx?_eq_some_iff_getElem]
    refine ⟨h, ?_, fun j hj => ?_⟩
    · rw [← chAt_lt h, hi]; rfl
    · rw [← chAt_lt (Nat.lt_trans hj h), hb j hj]; simp
  simp [firstBad, e]
theorem firstBad_none {l : List Ch} (hb : ∀ j, j < l.length → mayC (chAt l j) = true) : firstBad l = -1 := by
  have : l.findIdx? (fun c => !mayC c) = none := by
    rw [List.findIdx?_eq_none_iff]
    intro x hx
    obtain ⟨i, hi, rfl⟩ := List.getElem_of_mem hx
    rw [← chAt_lt hi, hb i hi]; rfl
  simp [firstBad, this]
def badC (l : List Ch) : Bool := l.any fun c => !mayC c
theorem firstBad_any (l : List Ch) : decide (firstBad l ≥ 0) = badC l := by
  unfold firstBad badC
  cases h : l.findIdx? (fun c => !mayC c) with
  | none =>
    rw [List.findIdx?_eq_none_iff] at h
    have : l.any (fun c => !mayC c) = false := by rw [List.any_eq_false]; intro x hx; simpa using h x hx
    rw [this]; rfl
  | some i =>
    rw [List.findIdx?_eq_some_iff_getElem] at h
    obtain ⟨hi, h1, _⟩ := h
    have : l.any (fun c => !mayC c) = true := by rw [List.any_eq_true]; exact ⟨_, List.getElem_mem hi, h1⟩
    rw [this]; simp
theorem badC_false {l : List Ch} (h : badC l = false) {j : Nat} (hj : j < l.length) : mayC (chAt l j) = true := by
  unfold badC at h
  rw [List.any_eq_false] at h
  have := h _ (List.getElem_mem hj)
  rw [chAt_lt hj]
  simpa using this
set_option maxRecDepth 1000000 in
set_option maxHeartbeats 1000000 in
theorem wBad (a b d e s : Int) (w : World) :
    Calls Try.prog 83 #[.agg #[.int .i64 a, .int .i64 b, .int .i64 d, .int .i64 e, .int .i64 s]] w fun x w' => x = .returned (.bool (!mayC ⟨a, b, d, e, s⟩)) ∧ Below w.heap.size w w' := by
  have B := Lib.hid ((Below.refl w.heap.size w).alloc (Nat.le_refl _) (.cells #[.int .i64 a, .int .i64 b, .int .i64 d, .int .i64 e, .int .i64 s] 47))
  go_enter Try.func83, Try.ntmps83
  go_wp2_with fail
  refine (wMay a b d e s _).mono ?_
  rintro x w1 ⟨rfl, hb⟩
  replace B := Lib.hid (B.out.trans (hb.mono B.out.size))
  obtain ⟨y, hy⟩ : ∃ y, mayC ⟨a, b, d, e, s⟩ = y := ⟨_, rfl⟩
  rw [hy]
  have HYY := Lib.hid hy
  clear hb hy
  go_wp2_with fail
  go_ret
  exact ⟨ret_bool (by rw [HYY.out]), B.out⟩
set_option maxRecDepth 1000000 in
set_option maxHeartbeats 1000000 in
theorem wIndexCh (A : Option Addr) (n c : Nat) (l : List Ch) (w : World) (h : RdC w w.heap.size A n l) (hn : n ≤ 1000) :
    Calls Try.prog 45 #[.slice A n c, .func (.func 83) #[] #[]] w fun e w' => e = .returned (.int .i64 (firstBad l)) ∧ Below w.heap.size w w' := by
  have R := Lib.hid h
  have HN := Lib.hid hn
  clear h hn
  go_enter Try.func45, Try.ntmps45
  go_wp2_with fail
  go_loopw [5, 8] (fun s5 s8 wr => ∃ k : Nat, k ≤ n ∧ s8 = .int .i64 (k : Int) ∧ Below w.heap.size w wr ∧ ∀ j, j < k → mayC (chAt l j) = true) (fun _ s8 _ => n - (intOf s8).toNat)
  case atStart => exact ⟨0, Nat.zero_le _, rfl, Below.refl _ _, fun _ h => absurd h (Nat.not_lt_zero _)⟩
  case round =>
    obtain ⟨k, hk, rfl, hbel, hb⟩ := hrel
    have HB := Lib.hid hb
    have B := Lib.hid hbel
    clear hb hbel
    by_cases hlt : k < n
    · have hltI : (k : Int) < (n : Int) := by omega
      have HLT : Hid (k < n) := hlt
      have hwk : IntKind.i64.wrap ((k : Int) + 1) = (k : Int) + 1 := by have := HN.out; rw [IntKind.wrap_i64]; omega
      obtain ⟨bb, o, rfl, x0, x1, x2, x3, x4⟩ := (R.out.below B.out).at_ hlt
      clear hk hlt
      go_wp2_with fail
      refine (wBad _ _ _ _ _ wr).mono ?_
      rintro e w1 ⟨rfl, hb⟩
      replace B := Lib.hid (B.out.trans (hb.mono B.out.size))
      clear hb x0 x1 x2 x3 x4
      obtain ⟨y, hy⟩ : ∃ y, mayC ⟨(chAt l k).id, (chAt l k).fr, (chAt l k).dst, (chAt l k).cap, (chAt l k).size⟩ = y := ⟨_, rfl⟩
      rw [hy]
      have HY : Hid (mayC (chAt l k) = y) := hy
      clear hy
      cases y
      · have HF := Lib.hid (firstBad_at (l := l) (i := k) (by rw [R.out.1]; exact HLT.out) HB.out HY.out)
        go_wp2_with fail
        go_ret
        exact ⟨by rw [HF.out]; rfl, B.out⟩
      · go_wp2_with fail
        go_roundw
        case rel => exact ⟨k + 1, HLT.out, by go_num, B.out, fun j hj => by
          rcases Nat.lt_succ_iff_lt_or_eq.1 hj with h | rfl
          · exact HB.out j h
          · exact HY.out⟩
        case measure => have := HLT.out; simp [intOf]; omega
    · obtain rfl : k = n := by omega
      have hltI : ¬ (k : Int) < (k : Int) := by omega
      have HF := Lib.hid (firstBad_none (l := l) (fun j hj => HB.out j (by rw [R.out.1] at hj; exact hj)))
      clear hk hlt
      go_wp2_with fail
      go_ret
      exact ⟨by rw [HF.out]; rfl, B.out⟩
set_option maxRecDepth 1000000 in
set_option maxHeartbeats 1000000 in
theorem wContainsC (A : Option Addr) (n c : Nat) (l : List Ch) (w : World) (h : RdC w w.heap.size A n l) (hn : n ≤ 1000) :
    Calls Try.prog 72 #[.slice A n c, .func (.func 83) #[] #[]] w fun e w' => e = .returned (.bool (badC l)) ∧ Below w.heap.size w w' := by
  have H := Lib.hid (wIndexCh A n c l w h hn)
  have HF := Lib.hid (firstBad_any l)
  clear h hn
  go_enter Try.func72, Try.ntmps72
  go_wp2_with fail
  refine H.out.mono ?_
  rintro e w1 ⟨rfl, hb⟩
  generalize firstBad l = f at *
  have B := Lib.hid hb
  clear hb
  go_wp2_with fail
  all_goals (go_ret; refine ⟨ret_bool ?_, B.out⟩; rw [← HF.out]; try simp_all)
/-- The IDs of the first k channels ascend, and are above 0. -/
def upTo (l : List Ch) (k : Nat) : Prop := ∀ j, j + 1 < k → (chAt l j).id < (chAt l (j + 1)).id
theorem upTo_all (l : List Ch) : upTo l l.length ↔ ascC l := Iff.rfl
set_option maxRecDepth 1000000 in
set_option maxHeartbeats 1000000 in
theorem wAll (A : Option Addr) (n c : Nat) (l : List Ch) (w : World) (h : RdC w w.heap.size A n l) (hn : n ≤ 1000) :
    Calls Try.prog 71 #[.slice A n c] w fun e w' => e = .returned (.int .i64 (allE l)) ∧ Below w.heap.size w w' := by
  have R := Lib.hid h
  have HN := Lib.hid hn
  clear h hn
  go_enter Try.func71, Try.ntmps71
  go_wp2_with fail
  refine (wContainsC A n c l w R.out HN.out).mono ?_
  rintro e w1 ⟨rfl, hb⟩
  have B := Lib.hid hb
  clear hb
  cases hy : badC l
  · have HY := Lib.hid hy
    clear hy
    go_wp2_with fail
    go_loopw [3, 10] (fun s3 s10 wr => ∃ k : Nat, k ≤ n ∧ s10 = .int .i64 (k : Int) ∧ s3 = .int .i64 (if k = 0 then 0 else (chAt l (k - 1)).id) ∧ Below w.heap.size w wr ∧ upTo l k) (fun _ s10 _ => n - (intOf s10).toNat)
    case atStart => exact ⟨0, Nat.zero_le _, rfl, rfl, B.out, fun _ h => by omega⟩
    case round =>
      obtain ⟨k, hk, rfl, rfl, hbel, hup⟩ := hrel
      clear B
      have B := Lib.hid hbel
      have HUP := Lib.hid hup
      clear hbel hup
      by_cases hlt : k < n
      · have hltI : (k : Int) < (n : Int) := by omega
        have HLT : Hid (k < n) := hlt
        have hwk : IntKind.i64.wrap ((k : Int) + 1) = (k : Int) + 1 := by have := HN.out; rw [IntKind.wrap_i64]; omega
        have HM := Lib.hid (badC_false HY.out (j := k) (by rw [R.out.1]; exact hlt))
        obtain ⟨bb, o, rfl, x0, x1, x2, x3, x4⟩ := (R.out.below B.out).at_ hlt
        obtain ⟨p, hp⟩ : ∃ p, (if k = 0 then 0 else (chAt l (k - 1)).id) = p := ⟨_, rfl⟩
        rw [hp]
        have HP := Lib.hid hp
        clear hp hk hlt
        replace B := Lib.hid (B.out.alloc B.out.size (.cells #[.int .i64 (chAt l k).id, .int .i64 (chAt l k).fr, .int .i64 (chAt l k).dst, .int .i64 (chAt l k).cap, .int .i64 (chAt l k).size] 47))
        by_cases hle : (chAt l k).id ≤ p
        · have HE : Hid (allE l = 100) := by
            show _ = _
            unfold allE
            rw [if_neg (by rw [show l.any (fun c => !mayC c) = badC l from rfl, HY.out]; simp), if_neg ?_]
            intro ha
            have hp := HP.out
            split at hp
            · have := (mayC_iff.1 HM.out).1; omega
            · rename_i hk0
              have := ha (k - 1) (by have := HLT.out; rw [R.out.1]; omega)
              rw [show k - 1 + 1 = k from by omega] at this
              omega
          go_wp2_with fail
          go_ret
          exact ⟨by rw [HE.out]; rfl, B.out⟩
        · have HGT := Lib.hid hle
          go_wp2_with fail
          go_roundw
          case rel => exact ⟨k + 1, HLT.out, by go_num, by rfl, B.out, fun j hj => by
            by_cases hjk : j + 1 < k
            · exact HUP.out j hjk
            · obtain rfl : k = j + 1 := by omega
              have h1 := HP.out
              have h2 := HGT.out
              rw [if_neg (by omega)] at h1
              rw [show j + 1 - 1 = j from rfl] at h1
              omega⟩
          case measure => have := HLT.out; simp [intOf]; omega
      · obtain rfl : k = n := by omega
        have hltI : ¬ (k : Int) < (k : Int) := by omega
        have HE : Hid (allE l = 0) := by
          show _ = _
          unfold allE
          rw [if_neg (by rw [show l.any (fun c => !mayC c) = badC l from rfl, HY.out]; simp), if_pos ?_]
          intro j hj
          exact HUP.out j (by rw [← R.out.1]; exact hj)
        clear hk hlt
        generalize (if k = 0 then 0 else (chAt l (k - 1)).id) = p at *
        go_wp2_with fail
        go_ret
        exact ⟨by rw [HE.out]; rfl, B.out⟩
  · have HE : Hid (allE l = 2) := by
      show _ = _
      unfold allE
      rw [if_pos (show l.any (fun c => !mayC c) = true from hy)]
    go_wp2_with fail
    go_ret
    exact ⟨by rw [HE.out]; rfl, B.out⟩
end
end Go.Proofs.Ytecedmjhhaabgaa
