/- Rows of structs of the call's own, of any type: append; how such a row is kept. The types come as letters. -/
import Derived.Test.YtnaegbnijbdgbaaKitO
import Derived.Deep.AppendLies
import Derived.Maps.AppendAt
namespace Go.Proofs.Ytnaegbnijbdgbaa
open Go.RowKit
set_option linter.unusedVariables false
set_option linter.unusedSimpArgs false

/-- The facts on '[]T' (T) and the struct (U): its size in cells, in bytes, its zero value. -/
structure VT (P : Program) (T U : TypeId) (z b : Nat) (zv : Value) : Prop where
  ul : P.underlying T = some (.slice U)
  info : (P.info? U).map (fun i => (i.zero, i.size, i.bytes)) = some (some zv, z, b)
  zs : zv.cells.size = z
  z0 : 0 < z
theorem op_pushV {P : Program} {T U : TypeId} {z b : Nat} {zv : Value} (L : VT P T U z b zv) {o : Oper} {a : Act} {K : Act → World → Prop} {Q : Exit → Act → World → Prop} (s x : Operand)
    (ho : o.op = .call { callee := .builtin .append, args := #[s, x], argTypes := #[T, T] }) {B k m c : Nat} {A : Option Addr} {wr : World} {v : Value} {xs news : List Value} (hs : a.eval s = v)
    (hx : a.eval x = .slice A m c) (hown : wr.ownsRow B U z v k xs) (hl : news.length = m * z) (hr : 0 < m → ∃ ad, A = some ad ∧ ∀ j u, news[j]? = some u → wr.cell? (ad.add j) = some u) (h1 : ∀ u ∈ news, u.oneCell' = true)
    (hB : B ≤ wr.heap.size) (hk : (k + m) * (b + 1) ≤ 140737488355328)
    (h : ∀ v' w1, w1.ownsRow B U z v' (k + m) (xs ++ news) → Keep (fun j => v.ownBlock = some j) wr w1 → (∀ j, v'.ownBlock = some j → v.ownBlock = some j ∨ wr.heap.size ≤ j) → K (a.put o.dst v') w1) : o.wp P a wr K Q := by
  obtain ⟨i0, hi, hz0, hz1, hz2⟩ := info_parts L.info
  have hmul : (k + m) * (b + 1) = (k + m) * b + (k + m) := by rw [Nat.mul_add, Nat.mul_one]
  have hul := L.ul
  rcases A with _ | ad
  · obtain rfl : m = 0 := by
      rcases Nat.eq_zero_or_pos m with h0 | h0
      · exact h0
      · obtain ⟨_, e, _⟩ := hr h0; cases e
    obtain rfl : news = [] := List.eq_nil_of_length_eq_zero (by omega)
    have hrun : (Builtin.append_ #[T, T] o.type #[v, .slice none 0 c]).run P wr = .ok v wr := by
      rcases hown.2 with ⟨rfl, rfl⟩ | ⟨g, cap, cur, rfl, _, _, hnc, _⟩
      · simp [Builtin.append_, run_underlying hul, sizeOf, typeInfo, hi, Builtin.lenOf, Builtin.firstCells]
      · simp [Builtin.append_, run_underlying hul, sizeOf, typeInfo, hi, Builtin.lenOf, Builtin.firstCells, hnc, storeCells]
    unfold Oper.wp execOp
    simp only [ho, resolve, invoke, builtin, Sem.run_bind, Sem.run_pure, Result.andThen_ok, List.map_toArray, List.map_cons, List.map_nil, hs, hx, hrun]
    exact h v wr (by simpa using hown) (Keep.refl _ _) (fun j hj => .inl hj)
  · obtain ⟨v', w', hrun, h2, h3, _, h5⟩ := run_append_own_at (P := P) (w := wr) B T o.type U i0 zv z b hul hi hz0 hz1 hz2 L.zs L.z0 v k xs hown ad m c news hl (fun j u hu => by
        have hm : 0 < m := by
          rcases Nat.eq_zero_or_pos m with h0 | h0
          · subst h0
            have : news = [] := List.eq_nil_of_length_eq_zero (by omega)
            subst this; simp at hu
          · exact h0
        obtain ⟨ad', e, hc⟩ := hr hm
        obtain rfl : ad = ad' := by injection e
        exact hc j u hu) h1 (by unfold maxLen; omega) (by omega) hB
    unfold Oper.wp execOp
    simp only [ho, resolve, invoke, builtin, Sem.run_bind, Sem.run_pure, Result.andThen_ok, List.map_toArray, List.map_cons, List.map_nil, hs, hx, hrun]
    refine h v' w' h2 ⟨h3.os, h3.tape, h3.output, h3.size, fun j hj hn => h3.block j hj (fun e => hn e.symm)⟩ (fun j hj => ?_)
    rcases h5 with h5 | h5
    · exact .inl (by rw [← h5]; exact hj)
    · right
      rw [hj] at h5
      injection h5 with h5
      omega
theorem wpList_pushV {P : Program} {T U : TypeId} {z b : Nat} {zv : Value} (L : VT P T U z b zv) {ops : Array Oper} {rest : List Oper} {o : Oper} {a : Act} {Q : Exit → Act → World → Prop} (hgd : o.guard = none) (s x : Operand)
    (ho : o.op = .call { callee := .builtin .append, args := #[s, x], argTypes := #[T, T] }) {B k m c : Nat} {A : Option Addr} {wr : World} {v : Value} {xs news : List Value} (hs : a.eval s = v)
    (hx : a.eval x = .slice A m c) (hown : wr.ownsRow B U z v k xs) (hl : news.length = m * z) (hr : 0 < m → ∃ ad, A = some ad ∧ ∀ j u, news[j]? = some u → wr.cell? (ad.add j) = some u) (h1 : ∀ u ∈ news, u.oneCell' = true)
    (hB : B ≤ wr.heap.size) (hk : (k + m) * (b + 1) ≤ 140737488355328)
    (h : ∀ v' w1, w1.ownsRow B U z v' (k + m) (xs ++ news) → Keep (fun j => v.ownBlock = some j) wr w1 → (∀ j, v'.ownBlock = some j → v.ownBlock = some j ∨ wr.heap.size ≤ j) → wpList P ops Q rest (a.put o.dst v') w1) : wpList P ops Q (o :: rest) a wr :=
  wpList_plain hgd fun K hK => op_pushV L s x ho hs hx hown hl hr h1 hB hk fun v' w1 a1 a2 a3 => hK _ _ (h v' w1 a1 a2 a3)
theorem step_pushV {P : Program} {T U : TypeId} {z b : Nat} {zv : Value} (L : VT P T U z b zv) {ops : Array Oper} {o : Oper} {a : Act} {K : Act → World → Prop} {Q : Exit → Act → World → Prop} {E : Prop} (hgd : o.guard = none) (s x : Operand)
    (ho : o.op = .call { callee := .builtin .append, args := #[s, x], argTypes := #[T, T] }) {B k m c : Nat} {A : Option Addr} {wr : World} {v : Value} {xs news : List Value} (hs : a.eval s = v)
    (hx : a.eval x = .slice A m c) (hown : wr.ownsRow B U z v k xs) (hl : news.length = m * z) (hr : 0 < m → ∃ ad, A = some ad ∧ ∀ j u, news[j]? = some u → wr.cell? (ad.add j) = some u) (h1 : ∀ u ∈ news, u.oneCell' = true)
    (hB : B ≤ wr.heap.size) (hk : (k + m) * (b + 1) ≤ 140737488355328)
    (h : ∀ v' w1, w1.ownsRow B U z v' (k + m) (xs ++ news) → Keep (fun j => v.ownBlock = some j) wr w1 → (∀ j, v'.ownBlock = some j → v.ownBlock = some j ∨ wr.heap.size ≤ j) → K (a.put o.dst v') w1) : if Region.wanted o (yielded ops a.tmps) = true then Oper.wp P o a wr K Q else E := by
  have hw : Region.wanted o (yielded ops a.tmps) = true := by simp [Region.wanted, hgd]
  rw [if_pos hw]
  exact op_pushV L s x ho hs hx hown hl hr h1 hB hk h
/-- A row that nothing is written into stays. -/
theorem own_kv {R : Nat → Prop} {w w' : World} {B z : Nat} {T : TypeId} {v : Value} {n : Nat} {xs : List Value} (h : w.ownsRow B T z v n xs) (hk : Keep R w w') (hn : ∀ b, v.ownBlock = some b → ¬ R b) : w'.ownsRow B T z v n xs := by
  refine ⟨h.1, ?_⟩
  rcases h.2 with h | ⟨g, cap, cur, rfl, hg, hh, h⟩
  · exact .inl h
  · exact .inr ⟨g, cap, cur, rfl, hg, by rw [hk.block g (Array.getElem?_eq_some_iff.1 hh).1 (hn g rfl)]; exact hh, h⟩
theorem own_bv {w w' : World} {B z : Nat} {T : TypeId} {v : Value} {n : Nat} {xs : List Value} (h : w.ownsRow B T z v n xs) (hb : Below w.heap.size w w') : w'.ownsRow B T z v n xs :=
  own_kv (R := fun _ => False) h (Keep.of_below hb) (fun _ _ h => h)
theorem own_slV {w : World} {B z : Nat} {T : TypeId} {v : Value} {n : Nat} {xs : List Value} (h : w.ownsRow B T z v n xs) : ∃ A c, v = .slice A n c := by
  rcases h.2 with ⟨rfl, rfl⟩ | ⟨g, cap, cur, rfl, _⟩
  · exact ⟨_, _, rfl⟩
  · exact ⟨_, _, rfl⟩
theorem own_capV {w : World} {B z : Nat} {T : TypeId} {A : Option Addr} {n m c : Nat} {xs : List Value} (h : w.ownsRow B T z (.slice A m c) n xs) : n = m ∧ n ≤ c ∧ c ≤ 9223372036854775807 := by
  rcases h.2 with ⟨e, h0⟩ | ⟨g, cap, cur, hv, _, _, h1, h2, _⟩
  · simp only [Value.slice.injEq] at e; omega
  · simp only [Value.slice.injEq] at hv; unfold maxLen at h2; omega
theorem own_frV {w : World} {B z : Nat} {T : TypeId} {A : Option Addr} {n c : Nat} {xs : List Value} (h : w.ownsRow B T z (.slice A n c) n xs) (hn : 0 < n) : ∃ g, A = some ⟨g, 0, none⟩ ∧ B ≤ g ∧ g < w.heap.size ∧ (∀ k, w.frozen? ⟨g, k, none⟩ = false) ∧ ∀ j u, xs[j]? = some u → w.cell? ⟨g, j, none⟩ = some u := by
  rcases h.2 with ⟨h, h0⟩ | ⟨g, cap, cur, hv, hg, hh, _⟩
  · omega
  · injection hv with hA
    refine ⟨g, hA, hg, heap_at_lt hh, fun k => by simp [World.frozen?, hh], fun j u hu => ?_⟩
    have := h.cells (g := g) (by rw [hA]; rfl) j u hu
    rwa [show (⟨g, 0, none⟩ : Addr).add j = ⟨g, j, none⟩ by unfold Addr.add; split <;> simp_all] at this
theorem own_nilV {w : World} {T : TypeId} {g B z : Nat} (h : w.heap[g]? = some (.cells #[] T (0, 0))) (hb : B ≤ g) : w.ownsRow B T z (.slice (some ⟨g, 0, none⟩) 0 0) 0 [] :=
  ⟨by simp, .inr ⟨g, 0, #[], rfl, hb, h, Nat.le_refl _, Nat.zero_le _, by simp, by simp⟩⟩
/-- The cells of one after the other, z each. -/
theorem flat_at {α : Type} (f : α → List Value) {z : Nat} (hz : ∀ x, (f x).length = z) : ∀ (l : List α) (j i : Nat) (hj : j < l.length), i < z → (l.flatMap f)[j * z + i]? = (f l[j])[i]?
  | [], j, i, hj, _ => absurd hj (Nat.not_lt_zero _)
  | x :: l, 0, i, _, hi => by
    simp only [List.flatMap_cons, Nat.zero_mul, Nat.zero_add, List.getElem_cons_zero]
    rw [List.getElem?_append_left (by rw [hz]; exact hi)]
  | x :: l, j + 1, i, hj, hi => by
    simp only [List.flatMap_cons, List.getElem_cons_succ]
    rw [List.getElem?_append_right (by rw [hz, Nat.succ_mul]; omega), hz, show (j + 1) * z + i - z = j * z + i by rw [Nat.succ_mul]; omega]
    exact flat_at f hz l j i (by simpa using hj) hi
theorem flat_len {α : Type} (f : α → List Value) {z : Nat} (hz : ∀ x, (f x).length = z) : ∀ l : List α, (l.flatMap f).length = l.length * z
  | [] => by simp
  | x :: l => by rw [List.flatMap_cons, List.length_append, hz, flat_len f hz l, List.length_cons, Nat.succ_mul]; omega
/-- Cell j of the row is cell j % z of its element j / z. -/
theorem flat_of {α : Type} (f : α → List Value) {z : Nat} (h0 : 0 < z) (hz : ∀ x, (f x).length = z) (l : List α) {j : Nat} {u : Value} (h : (l.flatMap f)[j]? = some u) : ∃ hj : j / z < l.length, (f (l[j / z]))[j % z]? = some u := by
  have hlt : j < l.length * z := by
    rcases Nat.lt_or_ge j (l.length * z) with g | g
    · exact g
    · rw [List.getElem?_eq_none (by rw [flat_len f hz]; exact g)] at h; cases h
  have hj : j / z < l.length := Nat.div_lt_of_lt_mul (by rw [Nat.mul_comm]; exact hlt)
  refine ⟨hj, ?_⟩
  rw [← flat_at f hz l (j / z) (j % z) hj (Nat.mod_lt _ h0), Nat.div_add_mod']
  exact h
end Go.Proofs.Ytnaegbnijbdgbaa
