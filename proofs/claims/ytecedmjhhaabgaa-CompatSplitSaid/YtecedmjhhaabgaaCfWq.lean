/- Several texts in one (a claim has 60 files at most): RowV, CfW, Bx, CfZ. -/
import Derived.Test.YtecedmjhhaabgaaKitO
import Derived.Deep.AppendLies
import Derived.Maps.AppendAt
import Derived.Test.YtecedmjhhaabgaaCfO
namespace Go.Proofs.Ytecedmjhhaabgaa

/- Rows of structs of the call's own, of any type: append; how such a row is kept. The types come as letters. -/
section
open Go.RowKit
set_option linter.unusedVariables false
set_option linter.unusedSimpArgs false

/-- The facts on '[]T' (T) and the struct (U): its size in cells, in bytes, its zero value. -/
structure VT (P : Program) (T U : TypeId) (z b : Nat) (zv : Value) : Prop where
  ul : P.underlying T = some (.slice U)
  info : (P.info? U).map (fun i => (i.zero, i.size, i.bytes)) = some (some zv, z, b)
  zs : zv.cells.size = z
  z0 : 0 < z
theorem op_pushV {P : Program} {T U : TypeId} {z b : Nat} {zv : Value} (L : VT P T U z b zv) {o : Oper} {a : Act} {K : Act → World → Prop} {Q : Exit → Act → World → Prop} (s x : Operand)
    (ho : o.op = .call { callee := .builtin .append, args := #[s, x], argTypes := #[T, T] }) {B k m c : Nat} {A : Option Addr} {wr : World} {v : Value} {xs news : List Value} (hs : a.eval s = v)
    (hx : a.eval x = .slice A m c) (hown : wr.ownsRow B U z v k xs) (hl : news.length = m * z) (hr : 0 < m → ∃ ad, A = some ad ∧ ∀ j u, news[j]? = some u → wr.cell? (ad.add j) = some u) (h1 : ∀ u ∈ news, u.oneCell' = true)
    (hB : B ≤ wr.heap.size) (hk : (k + m) * (b + 1) ≤ 140737488355328)
    (h : ∀ v' w1, w1.ownsRow B U z v' (k + m) (xs ++ news) → Keep (fun j => v.ownBlock = some j) wr w1 → (∀ j, v'.ownBlock = some j → v.ownBlock = some j ∨ wr.heap.size ≤ j) → K (a.put o.dst v') w1) : o.wp P a wr K Q := by
  obtain ⟨i0, hi, hz0, hz1, hz2⟩ := info_parts L.info
  have hmul : (k + m) * (b + 1) = (k + m) * b + (k + m) := by rw [Nat.mul_add, Nat.mul_one]
  have hul := L.ul
  rcases A with _ | ad
  · obtain rfl : m = 0 := by
      rcases Nat.eq_zero_or_pos m with h0 | h0
      · exact h0
      · obtain ⟨_, e, _⟩ := hr h0; cases e
    obtain rfl : news = [] := List.eq_nil_of_length_eq_zero (by omega)
    have hrun : (Builtin.append_ #[T, T] o.type #[v, .slice none 0 c]).run P wr = .ok v wr := by
      rcases hown.2 with ⟨rfl, rfl⟩ | ⟨g, cap, cur, rfl, _, _, hnc, _⟩
      · simp [Builtin.append_, run_underlying hul, sizeOf, typeInfo, hi, Builtin.lenOf, Builtin.firstCells]
      · simp [Builtin.append_, run_underlying hul, sizeOf, typeInfo, hi, Builtin.lenOf, Builtin.firstCells, hnc, storeCells]
    unfold Oper.wp execOp
    simp only [ho, resolve, invoke, builtin, Sem.run_bind, Sem.run_pure, Result.andThen_ok, List.map_toArray, List.map_cons, List.map_nil, hs, hx, hrun]
    exact h v wr (by simpa using hown) (Keep.refl _ _) (fun j hj => .inl hj)
  · obtain ⟨v', w', hrun, h2, h3, _, h5⟩ := run_append_own_at (P := P) (w := wr) B T o.type U i0 zv z b hul hi hz0 hz1 hz2 L.zs L.z0 v k xs hown ad m c news hl (fun j u hu => by
        have hm : 0 < m := by
          rcases Nat.eq_zero_or_pos m with h0 | h0
          · subst h0
            have : news = [] := List.eq_nil_of_length_eq_zero (by omega)
            subst this; simp at hu
          · exact h0
        obtain ⟨ad', e, hc⟩ := hr hm
        obtain rfl : ad = ad' := by injection e
        exact hc j u hu) h1 (by unfold maxLen; omega) (by omega) hB
    unfold Oper.wp execOp
    simp only [ho, resolve, invoke, builtin, Sem.run_bind, Sem.run_pure, Result.andThen_ok, List.map_toArray, List.map_cons, List.map_nil, hs, hx, hrun]
    refine h v' w' h2 ⟨h3.os, h3.tape, h3.output, h3.size, fun j hj hn => h3.block j hj (fun e => hn e.symm)⟩ (fun j hj => ?_)
    rcases h5 with h5 | h5
    · exact .inl (by rw [← h5]; exact hj)
    · right
      rw [hj] at h5
      injection h5 with h5
      omega
theorem wpList_pushV {P : Program} {T U : TypeId} {z b : Nat} {zv : Value} (L : VT P T U z b zv) {ops : Array Oper} {rest : List Oper} {o : Oper} {a : Act} {Q : Exit → Act → World → Prop} (hgd : o.guard = none) (s x : Operand)
    (ho : o.op = .call { callee := .builtin .append, args := #[s, x], argTypes := #[T, T] }) {B k m c : Nat} {A : Option Addr} {wr : World} {v : Value} {xs news : List Value} (hs : a.eval s = v)
    (hx : a.eval x = .slice A m c) (hown : wr.ownsRow B U z v k xs) (hl : news.length = m * z) (hr : 0 < m → ∃ ad, A = some ad ∧ ∀ j u, news[j]? = some u → wr.cell? (ad.add j) = some u) (h1 : ∀ u ∈ news, u.oneCell' = true)
    (hB : B ≤ wr.heap.size) (hk : (k + m) * (b + 1) ≤ 140737488355328)
    (h : ∀ v' w1, w1.ownsRow B U z v' (k + m) (xs ++ news) → Keep (fun j => v.ownBlock = some j) wr w1 → (∀ j, v'.ownBlock = some j → v.ownBlock = some j ∨ wr.heap.size ≤ j) → wpList P ops Q rest (a.put o.dst v') w1) : wpList P ops Q (o :: rest) a wr :=
  wpList_plain hgd fun K hK => op_pushV L s x ho hs hx hown hl hr h1 hB hk fun v' w1 a1 a2 a3 => hK _ _ (h v' w1 a1 a2 a3)
theorem step_pushV {P : Program} {T U : TypeId} {z b : Nat} {zv : Value} (L : VT P T U z b zv) {ops : Array Oper} {o : Oper} {a : Act} {K : Act → World → Prop} {Q : Exit → Act → World → Prop} {E : Prop} (hgd : o.guard = none) (s x : Operand)
    (ho : o.op = .call { callee := .builtin .append, args := #[s, x], argTypes := #[T, T] }) {B k m c : Nat} {A : Option Addr} {wr : World} {v : Value} {xs news : List Value} (hs : a.eval s = v)
    (hx : a.eval x = .slice A m c) (hown : wr.ownsRow B U z v k xs) (hl : news.length = m * z) (hr : 0 < m → ∃ ad, A = some ad ∧ ∀ j u, news[j]? = some u → wr.cell? (ad.add j) = some u) (h1 : ∀ u ∈ news, u.oneCell' = true)
    (hB : B ≤ wr.heap.size) (hk : (k + m) * (b + 1) ≤ 140737488355328)
    (h : ∀ v' w1, w1.ownsRow B U z v' (k + m) (xs ++ news) → Keep (fun j => v.ownBlock = some j) wr w1 → (∀ j, v'.ownBlock = some j → v.ownBlock = some j ∨ wr.heap.size ≤ j) → K (a.put o.dst v') w1) : if Region.wanted o (yielded ops a.tmps) = true then Oper.wp P o a wr K Q else E := by
  have hw : Region.wanted o (yielded ops a.tmps) = true := by simp [Region.wanted, hgd]
  rw [if_pos hw]
  exact op_pushV L s x ho hs hx hown hl hr h1 hB hk h
/-- A row that nothing is written into stays. -/
theorem own_kv {R : Nat → Prop} {w w' : World} {B z : Nat} {T : TypeId} {v : Value} {n : Nat} {xs : List Value} (h : w.ownsRow B T z v n xs) (hk : Keep R w w') (hn : ∀ b, v.ownBlock = some b → ¬ R b) : w'.ownsRow B T z v n xs := by
  refine ⟨h.1, ?_⟩
  rcases h.2 with h | ⟨g, cap, cur, rfl, hg, hh, h⟩
  · exact .inl h
  · exact .inr ⟨g, cap, cur, rfl, hg, by rw [hk.block g (Array.getElem?_eq_some_iff.1 hh).1 (hn g rfl)]; exact hh, h⟩
theorem own_bv {w w' : World} {B z : Nat} {T : TypeId} {v : Value} {n : Nat} {xs : List Value} (h : w.ownsRow B T z v n xs) (hb : Below w.heap.size w w') : w'.ownsRow B T z v n xs :=
  own_kv (R := fun _ => False) h (Keep.of_below hb) (fun _ _ h => h)
theorem own_slV {w : World} {B z : Nat} {T : TypeId} {v : Value} {n : Nat} {xs : List Value} (h : w.ownsRow B T z v n xs) : ∃ A c, v = .slice A n c := by
  rcases h.2 with ⟨rfl, rfl⟩ | ⟨g, cap, cur, rfl, _⟩
  · exact ⟨_, _, rfl⟩
  · exact ⟨_, _, rfl⟩
theorem own_capV {w : World} {B z : Nat} {T : TypeId} {A : Option Addr} {n m c : Nat} {xs : List Value} (h : w.ownsRow B T z (.slice A m c) n xs) : n = m ∧ n ≤ c ∧ c ≤ 9223372036854775807 := by
  rcases h.2 with ⟨e, h0⟩ | ⟨g, cap, cur, hv, _, _, h1, h2, _⟩
  · simp only [Value.slice.injEq] at e; omega
  · simp only [Value.slice.injEq] at hv; unfold maxLen at h2; omega
theorem own_frV {w : World} {B z : Nat} {T : TypeId} {A : Option Addr} {n c : Nat} {xs : List Value} (h : w.ownsRow B T z (.slice A n c) n xs) (hn : 0 < n) : ∃ g, A = some ⟨g, 0, none⟩ ∧ B ≤ g ∧ g < w.heap.size ∧ (∀ k, w.frozen? ⟨g, k, none⟩ = false) ∧ ∀ j u, xs[j]? = some u → w.cell? ⟨g, j, none⟩ = some u := by
  rcases h.2 with ⟨h, h0⟩ | ⟨g, cap, cur, hv, hg, hh, _⟩
  · omega
  · injection hv with hA
    refine ⟨g, hA, hg, heap_at_lt hh, fun k => by simp [World.frozen?, hh], fun j u hu => ?_⟩
    have := h.cells (g := g) (by rw [hA]; rfl) j u hu
    rwa [show (⟨g, 0, none⟩ : Addr).add j = ⟨g, j, none⟩ by unfold Addr.add; split <;> simp_all] at this
theorem own_nilV {w : World} {T : TypeId} {g B z : Nat} (h : w.heap[g]? = some (.cells #[] T (0, 0))) (hb : B ≤ g) : w.ownsRow B T z (.slice (some ⟨g, 0, none⟩) 0 0) 0 [] :=
  ⟨by simp, .inr ⟨g, 0, #[], rfl, hb, h, Nat.le_refl _, Nat.zero_le _, by simp, by simp⟩⟩
/-- The cells of one after the other, z each. -/
theorem flat_at {α : Type} (f : α → List Value) {z : Nat} (hz : ∀ x, (f x).length = z) : ∀ (l : List α) (j i : Nat) (hj : j < l.length), i < z → (l.flatMap f)[j * z + i]? = (f l[j])[i]?
  | [], j, i, hj, _ => absurd hj (Nat.not_lt_zero _)
  | x :: l, 0, i, _, hi => by
    simp only [List.flatMap_cons, Nat.zero_mul, Nat.zero_add, List.getElem_cons_zero]
    rw [List.getElem?_append_left (by rw [hz]; exact hi)]
  | x :: l, j + 1, i, hj, hi => by
    simp only [List.flatMap_cons, List.getElem_cons_succ]
    rw [List.getElem?_append_right (by rw [hz, Nat.succ_mul]; omega), hz, show (j + 1) * z + i - z = j * z + i by rw [Nat.succ_mul]; omega]
    exact flat_at f hz l j i (by simpa using hj) hi
theorem flat_len {α : Type} (f : α → List Value) {z : Nat} (hz : ∀ x, (f x).length = z) : ∀ l : List α, (l.flatMap f).length = l.length * z
  | [] => by simp
  | x :: l => by rw [List.flatMap_cons, List.length_append, hz, flat_len f hz l, List.length_cons, Nat.succ_mul]; omega
/-- Cell j of the row is cell j % z of its element j / z. -/
theorem flat_of {α : Type} (f : α → List Value) {z : Nat} (h0 : 0 < z) (hz : ∀ x, (f x).length = z) (l : List α) {j : Nat} {u : Value} (h : (l.flatMap f)[j]? = some u) : ∃ hj : j / z < l.length, (f (l[j / z]))[j % z]? = some u := by
  have hlt : j < l.length * z := by
    rcases Nat.lt_or_ge j (l.length * z) with g | g
    · exact g
    · rw [List.getElem?_eq_none (by rw [flat_len f hz]; exact g)] at h; cases h
  have hj : j / z < l.length := Nat.div_lt_of_lt_mul (by rw [Nat.mul_comm]; exact hlt)
  refine ⟨hj, ?_⟩
  rw [← flat_at f hz l (j / z) (j % z) hj (Nat.mod_lt _ h0), Nat.div_add_mod']
  exact h
end

/- Configurations in memory of the call's own: rows of windows, partitions, channels; what they read as; what may be written over. -/
section
open Go.RowKit
set_option linter.unusedVariables false
set_option linter.unusedSimpArgs false

theorem vtW : VT Try.prog 22 59 2 16 (.agg #[.int .i64 0, .int .i64 0]) := ⟨Try.underlying22, by kernel_rfl, rfl, by decide⟩
theorem vtC : VT Try.prog 24 47 5 40 (.agg #[.int .i64 0, .int .i64 0, .int .i64 0, .int .i64 0, .int .i64 0]) := ⟨Try.underlying24, by kernel_rfl, rfl, by decide⟩
theorem vtP : VT Try.prog 23 43 5 56 (.agg #[.int .i64 0, .int .i64 0, .int .i64 0, .bool false, .slice none 0 0]) := ⟨Try.underlying23, by kernel_rfl, rfl, by decide⟩
theorem regL_len (r : Reg) : (regL r).length = 2 := rfl
theorem chL_len (r : Ch) : (chL r).length = 5 := rfl
theorem cell_none (b o j : Nat) : (⟨b, o, none⟩ : Addr).add j = ⟨b, o + j, none⟩ := by unfold Addr.add; split <;> simp_all
/-- Rows as cells. -/
def winsV (l : List Reg) : List Value := l.flatMap regL
def chsV (l : List Ch) : List Value := l.flatMap chL
theorem winsV_one (l : List Reg) : ∀ u ∈ winsV l, u.oneCell' = true := by
  intro u hu
  obtain ⟨r, _, hr⟩ := List.mem_flatMap.1 hu
  simp only [regL, List.mem_cons, List.not_mem_nil, or_false] at hr
  rcases hr with rfl | rfl <;> rfl
theorem chsV_one (l : List Ch) : ∀ u ∈ chsV l, u.oneCell' = true := by
  intro u hu
  obtain ⟨r, _, hr⟩ := List.mem_flatMap.1 hu
  simp only [chL, List.mem_cons, List.not_mem_nil, or_false] at hr
  rcases hr with rfl | rfl | rfl | rfl | rfl <;> rfl
theorem winsV_app (l m : List Reg) : winsV (l ++ m) = winsV l ++ winsV m := by simp [winsV]
theorem chsV_app (l m : List Ch) : chsV (l ++ m) = chsV l ++ chsV m := by simp [chsV]
/-- What an append asks of the row that is put behind. -/
theorem RdG.news {w : World} {B n : Nat} {A : Option Addr} {l : List Reg} (h : RdG w B A n l) : (winsV l).length = n * 2 ∧ (0 < n → ∃ ad, A = some ad ∧ ∀ j u, (winsV l)[j]? = some u → w.cell? (ad.add j) = some u) := by
  refine ⟨by rw [winsV, flat_len regL regL_len, h.1], fun hn => ?_⟩
  obtain ⟨b, o, e, _, hc⟩ := h.2 hn
  refine ⟨_, e, fun j u hu => ?_⟩
  obtain ⟨hj, hv⟩ := flat_of regL (by decide) regL_len l hu
  obtain ⟨c1, c2⟩ := hc (j / 2) (by have := h.1; omega)
  rw [rat_lt hj] at c1 c2
  rw [cell_none]
  rcases Nat.mod_two_eq_zero_or_one j with hm | hm
  · rw [hm] at hv
    rw [show o + j = o + j / 2 * 2 by omega, c1]; exact hv
  · rw [hm] at hv
    rw [show o + j = o + j / 2 * 2 + 1 by omega, c2]; exact hv
theorem RdC.news {w : World} {B n : Nat} {A : Option Addr} {l : List Ch} (h : RdC w B A n l) : (chsV l).length = n * 5 ∧ (0 < n → ∃ ad, A = some ad ∧ ∀ j u, (chsV l)[j]? = some u → w.cell? (ad.add j) = some u) := by
  refine ⟨by rw [chsV, flat_len chL chL_len, h.1], fun hn => ?_⟩
  obtain ⟨b, o, e, _, hc⟩ := h.2 hn
  refine ⟨_, e, fun j u hu => ?_⟩
  obtain ⟨hj, hv⟩ := flat_of chL (by decide) chL_len l hu
  have c1 := hc (j / 5) (by have := h.1; omega) (j % 5) u (by rw [chAt_lt hj]; exact hv)
  rw [cell_none, show o + j = o + j / 5 * 5 + j % 5 by omega]
  exact c1
theorem RdG.of_ownV {w : World} {B : Nat} {T : TypeId} {A : Option Addr} {n c : Nat} {l : List Reg} (h : w.ownsRow B T 2 (.slice A n c) n (winsV l)) : RdG w w.heap.size A n l := by
  have hl : l.length = n := by have := h.1; rw [winsV, flat_len regL regL_len] at this; omega
  refine ⟨hl, fun hn => ?_⟩
  obtain ⟨g, e, _, hlt, _, hc⟩ := own_frV h hn
  refine ⟨g, 0, e, hlt, fun j hj => ?_⟩
  have h0 := flat_at regL regL_len l j 0 (by omega) (by decide)
  have h1 := flat_at regL regL_len l j 1 (by omega) (by decide)
  rw [rat_lt (by omega : j < l.length), Nat.zero_add]
  exact ⟨hc _ _ h0, hc _ _ h1⟩
theorem RdC.of_ownV {w : World} {B : Nat} {T : TypeId} {A : Option Addr} {n c : Nat} {l : List Ch} (h : w.ownsRow B T 5 (.slice A n c) n (chsV l)) : RdC w w.heap.size A n l := by
  have hl : l.length = n := by have := h.1; rw [chsV, flat_len chL chL_len] at this; omega
  refine ⟨hl, fun hn => ?_⟩
  obtain ⟨g, e, _, hlt, _, hc⟩ := own_frV h hn
  refine ⟨g, 0, e, hlt, fun j hj i v hv => ?_⟩
  rw [chAt_lt (by omega : j < l.length)] at hv
  have hi : i < 5 := by
    rcases Nat.lt_or_ge i 5 with q | q
    · exact q
    · rw [List.getElem?_eq_none (by rw [chL_len]; exact q)] at hv; cases hv
  rw [Nat.zero_add]
  exact hc _ _ ((flat_at chL chL_len l j i (by omega) hi).trans hv)

/-- A partition, and where its image lies. -/
structure QP where
  p : Pt
  A : Option Addr
  m : Nat
  c : Nat
def QP.cells (q : QP) : List Value := ptL q.p q.A q.m q.c
theorem QP.cells_len (q : QP) : q.cells.length = 5 := rfl
def partsV (l : List QP) : List Value := l.flatMap QP.cells
theorem partsV_one (l : List QP) : ∀ u ∈ partsV l, u.oneCell' = true := by
  intro u hu
  obtain ⟨r, _, hr⟩ := List.mem_flatMap.1 hu
  simp only [QP.cells, ptL, List.mem_cons, List.not_mem_nil, or_false] at hr
  rcases hr with rfl | rfl | rfl | rfl | rfl <;> rfl
theorem partsV_app (l m : List QP) : partsV (l ++ m) = partsV l ++ partsV m := by simp [partsV]
/-- An image of the call's own. -/
structure Img (w : World) (B : Nat) (q : QP) : Prop where
  own : OwR w B q.A q.m q.p.img
  mc : q.m ≤ q.c
  cc : q.c ≤ 9223372036854775807 ∧ q.m ≤ 140737488351232
theorem Img.kept {R : Nat → Prop} {w w' : World} {B : Nat} {q : QP} (h : Img w B q) (hk : Keep R w w') (ho : Off q.A q.m R) : Img w' B q := ⟨h.own.kept hk ho, h.mc, h.cc⟩
/-- A row of partitions of the call's own, images and all. -/
structure OwnP (w : World) (B : Nat) (v : Value) (l : List QP) : Prop where
  row : w.ownsRow B 43 5 v l.length (partsV l)
  img : ∀ q ∈ l, Img w B q
  off : ∀ q ∈ l, ∀ b, v.ownBlock = some b → Off q.A q.m (· = b)
theorem OwnP.nil (w : World) (B : Nat) : OwnP w B (.slice none 0 0) [] := ⟨World.ownsRow_nil _ _ _ _, fun _ h => absurd h List.not_mem_nil, fun _ h => absurd h List.not_mem_nil⟩
theorem OwnP.kept {R : Nat → Prop} {w w' : World} {B : Nat} {v : Value} {l : List QP} (h : OwnP w B v l) (hk : Keep R w w') (hv : ∀ b, v.ownBlock = some b → ¬ R b) (ho : ∀ q ∈ l, Off q.A q.m R) : OwnP w' B v l :=
  ⟨own_kv h.row hk hv, fun q hq => (h.img q hq).kept hk (ho q hq), h.off⟩
theorem Img.off_lt {w : World} {B : Nat} {q : QP} (h : Img w B q) {R : Nat → Prop} (hR : ∀ k, R k → k < B ∨ w.heap.size ≤ k) : Off q.A q.m R := fun hn b o e hb => by
  obtain ⟨b', o', e', hB, _⟩ := h.own.2 hn
  obtain ⟨b2, o2, e2, hlt, _⟩ := h.own.1.2 hn
  rw [e] at e' e2
  injection e' with e'; injection e' with e1 _
  injection e2 with e2; injection e2 with e3 _
  subst e1; subst e3
  have := hR _ hb
  omega
/-- What is written lies below, or is new. -/
theorem OwnP.to {R : Nat → Prop} {w w' : World} {B : Nat} {v : Value} {l : List QP} (h : OwnP w B v l) (hk : Keep R w w') (hR : ∀ k, R k → k < B ∨ w.heap.size ≤ k) : OwnP w' B v l :=
  h.kept hk (fun b hb hr => by have := h.row.lt b hb; have := hR b hr; omega) (fun q hq => (h.img q hq).off_lt hR)
theorem own_tv {R : Nat → Prop} {w w' : World} {B z : Nat} {T : TypeId} {v : Value} {n : Nat} {xs : List Value} (h : w.ownsRow B T z v n xs) (hk : Keep R w w') (hR : ∀ k, R k → k < B ∨ w.heap.size ≤ k) : w'.ownsRow B T z v n xs :=
  own_kv h hk (fun b hb hr => by have := h.lt b hb; have := hR b hr; omega)
/-- One more. -/
theorem OwnP.push {w w' : World} {B : Nat} {v v' : Value} {l : List QP} {q : QP} (h : OwnP w B v l) (hq : Img w B q) (hqo : ∀ b, v.ownBlock = some b → Off q.A q.m (· = b)) (hown : w'.ownsRow B 43 5 v' (l.length + 1) (partsV l ++ q.cells))
    (hk : Keep (fun k => v.ownBlock = some k) w w') (hv : ∀ b, v'.ownBlock = some b → v.ownBlock = some b ∨ w.heap.size ≤ b) : OwnP w' B v' (l ++ [q]) := by
  have each : ∀ x : QP, Img w B x → (∀ b, v.ownBlock = some b → Off x.A x.m (· = b)) → Img w' B x ∧ ∀ b, v'.ownBlock = some b → Off x.A x.m (· = b) := fun x hx hxo => by
    refine ⟨hx.kept hk (fun hn b o e hb => hxo b hb hn b o e rfl), fun b hb => ?_⟩
    rcases hv b hb with hb | hb
    · exact hxo b hb
    · exact hx.off_lt (fun k hk => .inr (by omega))
  have all : ∀ x ∈ l ++ [q], Img w' B x ∧ ∀ b, v'.ownBlock = some b → Off x.A x.m (· = b) := fun x hx => by
    rcases List.mem_append.1 hx with hx | hx
    · exact each x (h.img x hx) (h.off x hx)
    · obtain rfl := List.mem_singleton.1 hx
      exact each x hq hqo
  refine ⟨?_, fun x hx => (all x hx).1, fun x hx => (all x hx).2⟩
  rw [List.length_append, partsV_app, show partsV [q] = q.cells from List.append_nil _]
  exact hown
theorem OwnP.rd {w : World} {B : Nat} {A : Option Addr} {n c : Nat} {l : List QP} (h : OwnP w B (.slice A n c) l) : RdP w w.heap.size A n (l.map QP.p) := by
  obtain ⟨hl, _⟩ := own_capV h.row
  subst hl
  refine ⟨by simp, fun hn => ?_⟩
  obtain ⟨g, e, _, hlt, _, hc⟩ := own_frV h.row hn
  refine ⟨g, 0, e, hlt, fun j hj => ?_⟩
  have e1 : ptAt (l.map QP.p) j = (l[j]).p := by rw [ptAt_lt (by simpa using hj)]; simp
  have hi := h.img _ (List.getElem_mem hj)
  rw [e1]
  refine ⟨(l[j]).A, (l[j]).m, (l[j]).c, fun i v hv => ?_, hi.own.1, hi.mc, hi.cc⟩
  have hi5 : i < 5 := by
    rcases Nat.lt_or_ge i 5 with q | q
    · exact q
    · rw [List.getElem?_eq_none (by exact q)] at hv; cases hv
  rw [Nat.zero_add]
  exact hc _ _ ((flat_at QP.cells QP.cells_len l j i hj hi5).trans hv)

/-! What may be written over. -/
/-- A value in place of another one of its kind. -/
def kinV (v v' : Value) : Prop := v' = v ∨ (∃ x y, v = .int .i64 x ∧ v' = .int .i64 y) ∨ ∃ x y : UInt8, v = .int .u8 (x.toNat : Int) ∧ v' = .int .u8 (y.toNat : Int)
theorem kinV.trans {a b c : Value} (h : kinV a b) (h' : kinV b c) : kinV a c := by
  rcases h with rfl | ⟨x, y, rfl, rfl⟩ | ⟨x, y, rfl, rfl⟩
  · exact h'
  · rcases h' with rfl | ⟨x', y', e, rfl⟩ | ⟨x', y', e, rfl⟩
    · exact .inr (.inl ⟨x, y, rfl, rfl⟩)
    · exact .inr (.inl ⟨x, y', rfl, rfl⟩)
    · cases e
  · rcases h' with rfl | ⟨x', y', e, rfl⟩ | ⟨x', y', e, rfl⟩
    · exact .inr (.inr ⟨x, y, rfl, rfl⟩)
    · cases e
    · exact .inr (.inr ⟨x, y', rfl, rfl⟩)
structure Kin (w w' : World) : Prop where
  cell : ∀ a v, w.cell? a = some v → ∃ v', w'.cell? a = some v' ∧ kinV v v'
  fr : ∀ a, w'.frozen? a = w.frozen? a
theorem Kin.refl (w : World) : Kin w w := ⟨fun a v h => ⟨v, h, .inl rfl⟩, fun _ => rfl⟩
theorem Kin.set {w0 w : World} (h : Kin w0 w) {a : Addr} {v v' : Value} (hc : w.cell? a = some v) (hk : kinV v v') : Kin w0 (w.setCell a v') := by
  refine ⟨fun b u hu => ?_, fun b => by rw [World.frozen?_setCell]; exact h.fr b⟩
  obtain ⟨u1, h1, k1⟩ := h.cell b u hu
  by_cases e : b = a
  · subst e
    refine ⟨v', World.cell?_setCell_same _ _ _ hc, ?_⟩
    rw [h1] at hc; cases hc
    exact k1.trans hk
  · exact ⟨u1, by rw [World.cell?_setCell_other _ _ _ _ (fun h => e h.symm)]; exact h1, k1⟩
theorem Kin.int {w w' : World} (h : Kin w w') {a : Addr} {x : Int} (hc : w.cell? a = some (.int .i64 x)) : ∃ y, w'.cell? a = some (.int .i64 y) := by
  obtain ⟨v', h1, k⟩ := h.cell a _ hc
  rcases k with rfl | ⟨_, y, _, rfl⟩ | ⟨_, _, e, _⟩
  · exact ⟨x, h1⟩
  · exact ⟨y, h1⟩
  · cases e
theorem Kin.byte {w w' : World} (h : Kin w w') {a : Addr} {x : UInt8} (hc : w.cell? a = some (.int .u8 (x.toNat : Int))) : ∃ y : UInt8, w'.cell? a = some (.int .u8 (y.toNat : Int)) := by
  obtain ⟨v', h1, k⟩ := h.cell a _ hc
  rcases k with rfl | ⟨_, y, e, _⟩ | ⟨_, y, _, rfl⟩
  · exact ⟨x, h1⟩
  · cases e
  · exact ⟨y, h1⟩
theorem Kin.slice {w w' : World} (h : Kin w w') {a : Addr} {A : Option Addr} {n c : Nat} (hc : w.cell? a = some (.slice A n c)) : w'.cell? a = some (.slice A n c) := by
  obtain ⟨v', h1, k⟩ := h.cell a _ hc
  rcases k with rfl | ⟨_, y, e, _⟩ | ⟨_, y, e, rfl⟩
  · exact h1
  · cases e
  · cases e
/-- A row whose elements begin with an int that may be written. -/
def SpN (w : World) (B z : Nat) (A : Option Addr) (n : Nat) : Prop :=
  0 < n → ∃ b o, A = some ⟨b, o, none⟩ ∧ B ≤ b ∧ ∀ j, j < n → (∃ x, w.cell? ⟨b, o + j * z, none⟩ = some (.int .i64 x)) ∧ w.frozen? ⟨b, o + j * z, none⟩ = false
/-- Partitions that may be written over. -/
def SpP (w : World) (B : Nat) (A : Option Addr) (n : Nat) : Prop :=
  0 < n → ∃ b o, A = some ⟨b, o, none⟩ ∧ B ≤ b ∧ ∀ j, j < n → ((∃ x, w.cell? ⟨b, o + j * 5, none⟩ = some (.int .i64 x)) ∧ w.frozen? ⟨b, o + j * 5, none⟩ = false) ∧ ∃ A' m c bs, w.cell? ⟨b, o + j * 5 + 4, none⟩ = some (.slice A' m c) ∧ OwR w B A' m bs ∧ m ≤ c ∧ c ≤ 9223372036854775807 ∧ m ≤ 140737488351232
structure Sp (w : World) (B : Nat) (v : CV) : Prop where
  ww : SpN w B 2 v.aw v.nw
  pp : SpP w B v.ap v.np
  cc : SpN w B 5 v.ac v.nc
theorem SpN.ownW {w : World} {B : Nat} {T : TypeId} {A : Option Addr} {n c : Nat} {l : List Reg} (h : w.ownsRow B T 2 (.slice A n c) n (winsV l)) : SpN w B 2 A n := fun hn => by
  have hl : l.length = n := by have := h.1; rw [winsV, flat_len regL regL_len] at this; omega
  obtain ⟨g, e, hB, hlt, hf, hc⟩ := own_frV h hn
  refine ⟨g, 0, e, hB, fun j hj => ⟨⟨(l[j]'(by omega)).1, ?_⟩, hf _⟩⟩
  rw [Nat.zero_add]
  exact hc _ _ (flat_at regL regL_len l j 0 (by omega) (by decide))
theorem SpN.ownC {w : World} {B : Nat} {T : TypeId} {A : Option Addr} {n c : Nat} {l : List Ch} (h : w.ownsRow B T 5 (.slice A n c) n (chsV l)) : SpN w B 5 A n := fun hn => by
  have hl : l.length = n := by have := h.1; rw [chsV, flat_len chL chL_len] at this; omega
  obtain ⟨g, e, hB, hlt, hf, hc⟩ := own_frV h hn
  refine ⟨g, 0, e, hB, fun j hj => ⟨⟨(l[j]'(by omega)).id, ?_⟩, hf _⟩⟩
  rw [Nat.zero_add]
  exact hc _ _ (flat_at chL chL_len l j 0 (by omega) (by decide))
theorem OwnP.sp {w : World} {B : Nat} {A : Option Addr} {n c : Nat} {l : List QP} (h : OwnP w B (.slice A n c) l) : SpP w B A n := fun hn => by
  obtain ⟨hl, _⟩ := own_capV h.row
  subst hl
  obtain ⟨g, e, hB, hlt, hf, hc⟩ := own_frV h.row hn
  refine ⟨g, 0, e, hB, fun j hj => ⟨⟨⟨(l[j]).p.id, ?_⟩, hf _⟩, (l[j]).A, (l[j]).m, (l[j]).c, (l[j]).p.img, ?_, ?_⟩⟩
  · rw [Nat.zero_add]
    exact hc _ _ (flat_at QP.cells QP.cells_len l j 0 hj (by decide))
  · rw [Nat.zero_add]
    exact hc _ _ (flat_at QP.cells QP.cells_len l j 4 hj (by decide))
  · have hi := h.img _ (List.getElem_mem hj)
    exact ⟨hi.own, hi.mc, hi.cc⟩
theorem SpN.to {w w' : World} {B z : Nat} {A : Option Addr} {n : Nat} (h : SpN w B z A n) (hb : Below w.heap.size w w') : SpN w' B z A n := fun hn => by
  obtain ⟨b, o, e, hB, hc⟩ := h hn
  refine ⟨b, o, e, hB, fun j hj => ?_⟩
  obtain ⟨⟨x, hx⟩, hf⟩ := hc j hj
  have hlt : b < w.heap.size := cell_block hx
  exact ⟨⟨x, (hb.cell (p := ⟨b, _, none⟩) hlt).trans hx⟩, (frozen_below (a := ⟨b, _, none⟩) hb hlt).trans hf⟩
theorem SpP.to {w w' : World} {B : Nat} {A : Option Addr} {n : Nat} (h : SpP w B A n) (hb : Below w.heap.size w w') : SpP w' B A n := fun hn => by
  obtain ⟨b, o, e, hB, hc⟩ := h hn
  refine ⟨b, o, e, hB, fun j hj => ?_⟩
  obtain ⟨⟨⟨x, hx⟩, hf⟩, A', m, c, bs, h4, ho, h5⟩ := hc j hj
  have hlt : b < w.heap.size := cell_block hx
  exact ⟨⟨⟨x, (hb.cell (p := ⟨b, _, none⟩) hlt).trans hx⟩, (frozen_below (a := ⟨b, _, none⟩) hb hlt).trans hf⟩, A', m, c, bs, (hb.cell (p := ⟨b, _, none⟩) hlt).trans h4, ho.to hb, h5⟩
theorem Sp.to {w w' : World} {B : Nat} {v : CV} (h : Sp w B v) (hb : Below w.heap.size w w') : Sp w' B v := ⟨h.ww.to hb, h.pp.to hb, h.cc.to hb⟩
theorem Sp.mono {w : World} {B B' : Nat} {v : CV} (h : Sp w B v) (hB : B' ≤ B) : Sp w B' v :=
  ⟨fun hn => by obtain ⟨b, o, e, h1, h2⟩ := h.ww hn; exact ⟨b, o, e, by omega, h2⟩, fun hn => by
    obtain ⟨b, o, e, h1, h2⟩ := h.pp hn
    refine ⟨b, o, e, by omega, fun j hj => ?_⟩
    obtain ⟨h3, A', m, c, bs, h4, ho, h5⟩ := h2 j hj
    exact ⟨h3, A', m, c, bs, h4, ho.mono hB, h5⟩, fun hn => by obtain ⟨b, o, e, h1, h2⟩ := h.cc hn; exact ⟨b, o, e, by omega, h2⟩⟩
/-- A configuration of the call's own. -/
structure OwCf (w : World) (B : Nat) (v : CV) (c : Cf) : Prop where
  rd : RdCf w w.heap.size v c
  sp : Sp w B v
theorem OwCf.to {w w' : World} {B : Nat} {v : CV} {c : Cf} (h : OwCf w B v c) (hb : Below w.heap.size w w') : OwCf w' B v c := ⟨h.rd.to hb, h.sp.to hb⟩
theorem OwCf.of_rows {w : World} {B : Nat} {v : CV} {c : Cf} {qs : List QP} (hw : w.ownsRow B 59 2 (.slice v.aw v.nw v.kw) v.nw (winsV c.ws)) (hp : OwnP w B (.slice v.ap v.np v.kp) qs) (hq : qs.map QP.p = c.ps)
    (hc : w.ownsRow B 47 5 (.slice v.ac v.nc v.kc) v.nc (chsV c.cs)) : OwCf w B v c := by
  refine ⟨⟨RdG.of_ownV hw, hq ▸ hp.rd, RdC.of_ownV hc, (own_capV hw).2.1, ?_, (own_capV hc).2.1⟩, SpN.ownW hw, hp.sp, SpN.ownC hc⟩
  have := own_capV hp.row
  omega
end

/- A struct in a block of the call's own, of any type: cells read, cells stored, all of them stored. -/
section
open Go.RowKit
set_option linter.unusedVariables false
set_option linter.unusedSimpArgs false

def Bx (w : World) (g : Nat) (T : TypeId) (cs : List Value) : Prop := w.heap[g]? = some (.cells cs.toArray T (0, 0))
theorem Bx.lt {w : World} {g : Nat} {T : TypeId} {cs : List Value} (h : Bx w g T cs) : g < w.heap.size := heap_at_lt h
theorem Bx.at {w : World} {g : Nat} {T : TypeId} {cs : List Value} (h : Bx w g T cs) {j : Nat} {v : Value} (hj : cs[j]? = some v) : w.cell? ⟨g, j, none⟩ = some v := by
  have h' : w.heap[g]? = _ := h
  simp [World.cell?, h', hj]
theorem Bx.fz {w : World} {g : Nat} {T : TypeId} {cs : List Value} (h : Bx w g T cs) (j : Nat) : w.frozen? ⟨g, j, none⟩ = false := by
  simp [World.frozen?, show w.heap[g]? = _ from h]
theorem Bx.new (w : World) (T : TypeId) (cs : List Value) : Bx (w.alloc (.cells cs.toArray T)) w.heap.size T cs := by show (w.heap.push _)[w.heap.size]? = _; simp
theorem Bx.kept {R : Nat → Prop} {w w' : World} {g : Nat} {T : TypeId} {cs : List Value} (h : Bx w g T cs) (hk : Keep R w w') (hn : ¬ R g) : Bx w' g T cs := (hk.block g h.lt hn).trans h
theorem Bx.to {w w' : World} {g : Nat} {T : TypeId} {cs : List Value} (h : Bx w g T cs) (hb : Below w.heap.size w w') : Bx w' g T cs := (hb.block g h.lt).trans h
theorem Bx.below {B : Nat} {w w' : World} {g : Nat} {T : TypeId} {cs : List Value} (h : Bx w g T cs) (hg : g < B) (hb : Below B w w') : Bx w' g T cs := (hb.block g hg).trans h
theorem Bx.set {w : World} {g : Nat} {T : TypeId} {cs : List Value} (h : Bx w g T cs) (j : Nat) (u : Value) : Bx (w.setCell ⟨g, j, none⟩ u) g T (cs.set j u) := by
  obtain ⟨hlt, hk⟩ := Array.getElem?_eq_some_iff.1 h
  show (w.heap.modify g _)[g]? = _
  rw [Array.getElem?_eq_getElem (by rw [Array.size_modify]; exact hlt), Array.getElem_modify_self, hk]
  simp
theorem Bx.other {w : World} {g : Nat} {T : TypeId} {cs : List Value} (h : Bx w g T cs) (p : Addr) (u : Value) (hne : g ≠ p.block) : Bx (w.setCell p u) g T cs := (Below.heap_setCell w p u g hne).trans h
/-- Values stored one behind the other. -/
def setsC (w : World) (g i : Nat) : List Value → World
  | [] => w
  | v :: vs => setsC (w.setCell ⟨g, i, none⟩ v) g (i + 1) vs
theorem Bx.setsAt {g : Nat} {T : TypeId} : ∀ (vs : List Value) {w : World} {cs : List Value} (i : Nat), Bx w g T cs → i + vs.length ≤ cs.length → Bx (setsC w g i vs) g T (cs.take i ++ vs ++ cs.drop (i + vs.length))
  | [], w, cs, i, h, _ => by simpa [setsC] using h
  | v :: vs, w, cs, i, h, hl => by
    have h1 := Bx.setsAt vs (i + 1) (h.set i v) (by rw [List.length_set]; simp only [List.length_cons] at hl; omega)
    have hi : i < cs.length := by simp only [List.length_cons] at hl; omega
    have e1 : (cs.set i v).take (i + 1) = cs.take i ++ [v] := by
      rw [List.take_succ_eq_append_getElem (by rw [List.length_set]; exact hi), List.take_set_of_le (Nat.le_refl _), List.getElem_set_self]
    have e2 : (cs.set i v).drop (i + 1 + vs.length) = cs.drop (i + (v :: vs).length) := by
      rw [List.drop_set_of_lt (by omega), List.length_cons]; congr 1; omega
    rw [e1, e2] at h1
    simpa [setsC, List.append_assoc] using h1
theorem Bx.sets {w : World} {g : Nat} {T : TypeId} {cs : List Value} (h : Bx w g T cs) (vs : List Value) (hl : vs.length = cs.length) : Bx (setsC w g 0 vs) g T vs := by
  have := Bx.setsAt vs 0 h (by omega)
  rw [Nat.zero_add, hl] at this
  simpa using this
theorem Keep.sets {R : Nat → Prop} {a : World} {g : Nat} (hr : R g) : ∀ (vs : List Value) {w : World} (i : Nat), Keep R a w → Keep R a (setsC w g i vs)
  | [], w, i, h => h
  | v :: vs, w, i, h => Keep.sets hr vs (i + 1) (h.setCell _ _ hr)
theorem below_sets {B : Nat} {a : World} {g : Nat} (hg : B ≤ g) : ∀ (vs : List Value) {w : World} (i : Nat), Below B a w → Below B a (setsC w g i vs)
  | [], w, i, h => h
  | v :: vs, w, i, h => below_sets hg vs (i + 1) (h.setCell (p := ⟨g, i, none⟩) hg v)
end

/- Small words on rows of the call's own and on configurations, shared by the layers from 11 on. -/
section
open Go.RowKit
set_option linter.unusedVariables false
set_option linter.unusedSimpArgs false
def fld3 (vw vp vc : Value) : List Value := [vw, vp, vc]
def cfL (v : CV) : List Value := [.slice v.aw v.nw v.kw, .slice v.ap v.np v.kp, .slice v.ac v.nc v.kc]

theorem vtB : VT Try.prog 41 5 1 1 (.int .u8 0) := ⟨Try.underlying41, by kernel_rfl, rfl, by decide⟩
theorem bytes_one (bs : List UInt8) : ∀ u ∈ bs.map bval, u.oneCell' = true := by
  intro u hu
  obtain ⟨x, _, rfl⟩ := List.mem_map.1 hu
  rfl
theorem Rd.news {w : World} {B n : Nat} {A : Option Addr} {bs : List UInt8} (h : Rd w B A n bs) : (bs.map bval).length = n * 1 ∧ (0 < n → ∃ ad, A = some ad ∧ ∀ j u, (bs.map bval)[j]? = some u → w.cell? (ad.add j) = some u) := by
  refine ⟨by simp [h.1], fun hn => ?_⟩
  obtain ⟨b, o, e, _, hc⟩ := h.2 hn
  refine ⟨_, e, fun j u hu => ?_⟩
  rw [List.getElem?_map] at hu
  have hj : j < bs.length := by
    rcases Nat.lt_or_ge j bs.length with g | g
    · exact g
    · rw [List.getElem?_eq_none g] at hu; cases hu
  rw [List.getElem?_eq_getElem hj] at hu
  simp only [Option.map_some, Option.some.injEq] at hu
  rw [cell_none, hc j (by rw [← h.1]; exact hj), ← hu]
  simp [bval, nth, List.getD, List.getElem?_eq_getElem hj]
theorem cells_newV (w : World) (T : TypeId) (cs : List Value) : ∀ j u, cs[j]? = some u → (w.alloc (.cells cs.toArray T)).cell? ((⟨w.heap.size, 0, none⟩ : Addr).add j) = some u := fun j u h => by
  rw [cell_none, Nat.zero_add]
  exact (Bx.new w T cs).at h
theorem res_cf1 {fn : Func} {p : Tmp} (h : fn.results = #[.cell p 26]) (tmps : Array Value) (w : World) (g : Nat) (a b c : Value) (hp : tmps.getD p undef = .pointer (some ⟨g, 0, none⟩)) (hx : Bx w g 26 (fld3 a b c)) :
    (results fn tmps).run Try.prog w = .ok (.agg #[a, b, c]) w := by
  have hp' : tmps[p]?.getD undef = .pointer (some ⟨g, 0, none⟩) := by simpa using hp
  have c0 := hx.at (j := 0) rfl
  have c1 := hx.at (j := 1) rfl
  have c2 := hx.at (j := 2) rfl
  simp [results, h, hp', asAddr]
  go_simp
  try rfl
theorem two_boxes (v : CV) (w : World) : ∃ w2, ((w.alloc (.cells #[.slice v.aw v.nw v.kw, .slice v.ap v.np v.kp, .slice v.ac v.nc v.kc] 26)).alloc (.cells #[.slice none 0 0, .slice none 0 0, .slice none 0 0] 26)) = w2 ∧
    Below w.heap.size w w2 ∧ Bx w2 w.heap.size 26 (cfL v) ∧ Bx w2 (w.heap.size + 1) 26 [.slice none 0 0, .slice none 0 0, .slice none 0 0] ∧ w2.heap.size = w.heap.size + 2 := by
  refine ⟨_, rfl, (((Below.refl w.heap.size w).alloc (Nat.le_refl _) _).alloc (by simp) _), ?_, ?_, by simp⟩
  · have h := Bx.new w 26 (cfL v)
    exact h.to ((Below.refl _ _).alloc (Nat.le_refl _) _)
  · have h := Bx.new (w.alloc (.cells #[.slice v.aw v.nw v.kw, .slice v.ap v.np v.kp, .slice v.ac v.nc v.kc] 26)) 26 [.slice none 0 0, .slice none 0 0, .slice none 0 0]
    simpa using h
theorem own_moV {w : World} {B B' z : Nat} {T : TypeId} {v : Value} {n : Nat} {xs : List Value} (h : w.ownsRow B T z v n xs) (hB : B' ≤ B) : w.ownsRow B' T z v n xs := by
  refine ⟨h.1, ?_⟩
  rcases h.2 with h | ⟨g, cap, cur, e, hg, hh, h⟩
  · exact .inl h
  · exact .inr ⟨g, cap, cur, e, Nat.le_trans hB hg, hh, h⟩
/-- A configuration of the call's own, row by row. -/
structure OwX (w : World) (B : Nat) (v : CV) (c : Cf) (qs : List QP) : Prop where
  ww : w.ownsRow B 59 2 (.slice v.aw v.nw v.kw) v.nw (winsV c.ws)
  pp : OwnP w B (.slice v.ap v.np v.kp) qs
  hq : qs.map QP.p = c.ps
  cc : w.ownsRow B 47 5 (.slice v.ac v.nc v.kc) v.nc (chsV c.cs)
  offw : ∀ q ∈ qs, ∀ b, (Value.slice v.aw v.nw v.kw).ownBlock = some b → Off q.A q.m (· = b)
  offc : ∀ q ∈ qs, ∀ b, (Value.slice v.ac v.nc v.kc).ownBlock = some b → Off q.A q.m (· = b)
theorem OwX.cf {w : World} {B : Nat} {v : CV} {c : Cf} {qs : List QP} (h : OwX w B v c qs) : OwCf w B v c := OwCf.of_rows h.ww h.pp h.hq h.cc
theorem OwX.kept {R : Nat → Prop} {w w' : World} {B : Nat} {v : CV} {c : Cf} {qs : List QP} (h : OwX w B v c qs) (hk : Keep R w w') (hR : ∀ k, R k → k < B ∨ w.heap.size ≤ k) : OwX w' B v c qs :=
  ⟨own_tv h.ww hk hR, h.pp.to hk hR, h.hq, own_tv h.cc hk hR, h.offw, h.offc⟩
theorem OwX.to {w w' : World} {B : Nat} {v : CV} {c : Cf} {qs : List QP} (h : OwX w B v c qs) (hb : Below w.heap.size w w') : OwX w' B v c qs :=
  h.kept (R := fun _ => False) (Keep.of_below hb) (fun _ hh => hh.elim)
theorem OwX.mono {w : World} {B B' : Nat} {v : CV} {c : Cf} {qs : List QP} (h : OwX w B v c qs) (hB : B' ≤ B) : OwX w B' v c qs :=
  ⟨own_moV h.ww hB, ⟨own_moV h.pp.row hB, fun q hq => ⟨(h.pp.img q hq).own.mono hB, (h.pp.img q hq).mc, (h.pp.img q hq).cc⟩, h.pp.off⟩, h.hq, own_moV h.cc hB, h.offw, h.offc⟩
theorem own_ne {w : World} {B B' z z' : Nat} {T T' : TypeId} {v v' : Value} {n n' : Nat} {xs xs' : List Value} (h : w.ownsRow B T z v n xs) (h' : w.ownsRow B' T' z' v' n' xs') (hT : T ≠ T') {b : Nat} (e : v.ownBlock = some b) : v'.ownBlock ≠ some b := by
  intro e'
  rcases h.2 with ⟨rfl, _⟩ | ⟨g, cap, cur, rfl, _, hh, _⟩
  · cases e
  rcases h'.2 with ⟨rfl, _⟩ | ⟨g', cap', cur', rfl, _, hh', _⟩
  · cases e'
  simp only [Value.ownBlock, Option.some.injEq] at e e'
  subst e; subst e'
  rw [hh] at hh'
  injection hh' with hh'
  injection hh' with _ hh'
  exact hT hh'
end
end Go.Proofs.Ytecedmjhhaabgaa
