/- Several texts in one (a claim has 60 files at most): RowV, Bx, ChR, InvR. -/
import Derived.Test.YtlmdidblgeeplaaGreatDoorTz
import Derived.Test.YtlmdidblgeeplaaGreatDoorPPadx
import Derived.Deep.AppendLies
import Derived.Maps.AppendAt
import Derived.OrdersHeld
import Derived.Deep.RegionHeld
namespace Go.Proofs.YtlmdidblgeeplaaGreatDoor
set_option maxRecDepth 1000000
set_option maxHeartbeats 8000000
set_option linter.unusedVariables false
set_option linter.unusedSimpArgs false
section
open Go.RowKit
structure VT (P : Program) (T U : TypeId) (z b : Nat) (zv : Value) : Prop where
 ul : P.underlying T = some (.slice U)
 info : (P.info? U).map (fun i => (i.zero, i.size, i.bytes)) = some (some zv, z, b)
 zs : zv.cells.size = z
 z0 : 0 < z
theorem op_pushV {P : Program} {T U : TypeId} {z b : Nat} {zv : Value} (L : VT P T U z b zv) {o : Oper} {a : Act} {K : Act → World → Prop} {Q : Exit → Act → World → Prop} (s x : Operand)
  (ho : o.op = .call { callee := .builtin .append, args := #[s, x], argTypes := #[T, T] }) {B k m c : Nat} {A : Option Addr} {wr : World} {v : Value} {xs news : List Value} (hs : a.eval s = v)
  (hx : a.eval x = .slice A m c) (hown : wr.ownsRow B U z v k xs) (hl : news.length = m * z) (hr : 0 < m → ∃ ad, A = some ad ∧ ∀ j u, news[j]? = some u → wr.cell? (ad.add j) = some u) (h1 : ∀ u ∈ news, u.oneCell' = true)
  (hB : B ≤ wr.heap.size) (hk : (k + m) * (b + 1) ≤ 140737488355328)
  (h : ∀ v' w1, w1.ownsRow B U z v' (k + m) (xs ++ news) → Keep (fun j => v.ownBlock = some j) wr w1 → (∀ j, v'.ownBlock = some j → v.ownBlock = some j ∨ wr.heap.size ≤ j) → K (a.put o.dst v') w1) : o.wp P a wr K Q := by
 obtain ⟨i0, hi, hz0, hz1, hz2⟩ := info_parts L.info
 have hmul : (k + m) * (b + 1) = (k + m) * b + (k + m) := by rw [Nat.mul_add, Nat.mul_one]
 have hul := L.ul
 rcases A with _ | ad
 ·obtain rfl : m = 0 := by
   rcases Nat.eq_zero_or_pos m with h0 | h0
   ·exact h0
   ·obtain ⟨_, e, _⟩ := hr h0; cases e
  obtain rfl : news = [] := List.eq_nil_of_length_eq_zero (by omega)
  have hrun : (Builtin.append_ #[T, T] o.type #[v, .slice none 0 c]).run P wr = .ok v wr := by
   rcases hown.2 with ⟨rfl, rfl⟩ | ⟨g, cap, cur, rfl, _, _, hnc, _⟩
   ·simp [Builtin.append_, run_underlying hul, sizeOf, typeInfo, hi, Builtin.lenOf, Builtin.firstCells]
   ·simp [Builtin.append_, run_underlying hul, sizeOf, typeInfo, hi, Builtin.lenOf, Builtin.firstCells, hnc, storeCells]
  unfold Oper.wp execOp
  simp only [ho, resolve, invoke, builtin, Sem.run_bind, Sem.run_pure, Result.andThen_ok, List.map_toArray, List.map_cons, List.map_nil, hs, hx, hrun]
  exact h v wr (by simpa using hown) (Keep.refl _ _) (fun j hj => .inl hj)
 ·obtain ⟨v', w', hrun, h2, h3, _, h5⟩ := run_append_own_at (P := P) (w := wr) B T o.type U i0 zv z b hul hi hz0 hz1 hz2 L.zs L.z0 v k xs hown ad m c news hl (fun j u hu => by
    have hm : 0 < m := by
     rcases Nat.eq_zero_or_pos m with h0 | h0
     ·subst h0
      have : news = [] := List.eq_nil_of_length_eq_zero (by omega)
      subst this; simp at hu
     ·exact h0
    obtain ⟨ad', e, hc⟩ := hr hm
    obtain rfl : ad = ad' := by injection e
    exact hc j u hu) h1 (by unfold maxLen; omega) (by omega) hB
  unfold Oper.wp execOp
  simp only [ho, resolve, invoke, builtin, Sem.run_bind, Sem.run_pure, Result.andThen_ok, List.map_toArray, List.map_cons, List.map_nil, hs, hx, hrun]
  refine h v' w' h2 ⟨h3.os, h3.tape, h3.output, h3.size, fun j hj hn => h3.block j hj (fun e => hn e.symm)⟩ (fun j hj => ?_)
  rcases h5 with h5 | h5
  ·exact .inl (by rw [← h5]; exact hj)
  ·right
   rw [hj] at h5
   injection h5 with h5
   omega
theorem wpList_pushV {P : Program} {T U : TypeId} {z b : Nat} {zv : Value} (L : VT P T U z b zv) {ops : Array Oper} {rest : List Oper} {o : Oper} {a : Act} {Q : Exit → Act → World → Prop} (hgd : o.guard = none) (s x : Operand)
  (ho : o.op = .call { callee := .builtin .append, args := #[s, x], argTypes := #[T, T] }) {B k m c : Nat} {A : Option Addr} {wr : World} {v : Value} {xs news : List Value} (hs : a.eval s = v)
  (hx : a.eval x = .slice A m c) (hown : wr.ownsRow B U z v k xs) (hl : news.length = m * z) (hr : 0 < m → ∃ ad, A = some ad ∧ ∀ j u, news[j]? = some u → wr.cell? (ad.add j) = some u) (h1 : ∀ u ∈ news, u.oneCell' = true)
  (hB : B ≤ wr.heap.size) (hk : (k + m) * (b + 1) ≤ 140737488355328)
  (h : ∀ v' w1, w1.ownsRow B U z v' (k + m) (xs ++ news) → Keep (fun j => v.ownBlock = some j) wr w1 → (∀ j, v'.ownBlock = some j → v.ownBlock = some j ∨ wr.heap.size ≤ j) → wpList P ops Q rest (a.put o.dst v') w1) : wpList P ops Q (o :: rest) a wr :=
 wpList_plain hgd fun K hK => op_pushV L s x ho hs hx hown hl hr h1 hB hk fun v' w1 a1 a2 a3 => hK _ _ (h v' w1 a1 a2 a3)
theorem step_pushV {P : Program} {T U : TypeId} {z b : Nat} {zv : Value} (L : VT P T U z b zv) {ops : Array Oper} {o : Oper} {a : Act} {K : Act → World → Prop} {Q : Exit → Act → World → Prop} {E : Prop} (hgd : o.guard = none) (s x : Operand)
  (ho : o.op = .call { callee := .builtin .append, args := #[s, x], argTypes := #[T, T] }) {B k m c : Nat} {A : Option Addr} {wr : World} {v : Value} {xs news : List Value} (hs : a.eval s = v)
  (hx : a.eval x = .slice A m c) (hown : wr.ownsRow B U z v k xs) (hl : news.length = m * z) (hr : 0 < m → ∃ ad, A = some ad ∧ ∀ j u, news[j]? = some u → wr.cell? (ad.add j) = some u) (h1 : ∀ u ∈ news, u.oneCell' = true)
  (hB : B ≤ wr.heap.size) (hk : (k + m) * (b + 1) ≤ 140737488355328)
  (h : ∀ v' w1, w1.ownsRow B U z v' (k + m) (xs ++ news) → Keep (fun j => v.ownBlock = some j) wr w1 → (∀ j, v'.ownBlock = some j → v.ownBlock = some j ∨ wr.heap.size ≤ j) → K (a.put o.dst v') w1) : if Region.wanted o (yielded ops a.tmps) = true then Oper.wp P o a wr K Q else E := by
 have hw : Region.wanted o (yielded ops a.tmps) = true := by simp [Region.wanted, hgd]
 rw [if_pos hw]
 exact op_pushV L s x ho hs hx hown hl hr h1 hB hk h
theorem own_kv {R : Nat → Prop} {w w' : World} {B z : Nat} {T : TypeId} {v : Value} {n : Nat} {xs : List Value} (h : w.ownsRow B T z v n xs) (hk : Keep R w w') (hn : ∀ b, v.ownBlock = some b → ¬ R b) : w'.ownsRow B T z v n xs := by
 refine ⟨h.1, ?_⟩
 rcases h.2 with h | ⟨g, cap, cur, rfl, hg, hh, h⟩
 ·exact .inl h
 ·exact .inr ⟨g, cap, cur, rfl, hg, by rw [hk.block g (Array.getElem?_eq_some_iff.1 hh).1 (hn g rfl)]; exact hh, h⟩
theorem own_bv {w w' : World} {B z : Nat} {T : TypeId} {v : Value} {n : Nat} {xs : List Value} (h : w.ownsRow B T z v n xs) (hb : Below w.heap.size w w') : w'.ownsRow B T z v n xs :=
 own_kv (R := fun _ => False) h (Keep.of_below hb) (fun _ _ h => h)
theorem own_slV {w : World} {B z : Nat} {T : TypeId} {v : Value} {n : Nat} {xs : List Value} (h : w.ownsRow B T z v n xs) : ∃ A c, v = .slice A n c := by
 rcases h.2 with ⟨rfl, rfl⟩ | ⟨g, cap, cur, rfl, _⟩
 ·exact ⟨_, _, rfl⟩
 ·exact ⟨_, _, rfl⟩
theorem own_capV {w : World} {B z : Nat} {T : TypeId} {A : Option Addr} {n m c : Nat} {xs : List Value} (h : w.ownsRow B T z (.slice A m c) n xs) : n = m ∧ n ≤ c ∧ c ≤ 9223372036854775807 := by
 rcases h.2 with ⟨e, h0⟩ | ⟨g, cap, cur, hv, _, _, h1, h2, _⟩
 ·simp only [Value.slice.injEq] at e; omega
 ·simp only [Value.slice.injEq] at hv; unfold maxLen at h2; omega
theorem own_frV {w : World} {B z : Nat} {T : TypeId} {A : Option Addr} {n c : Nat} {xs : List Value} (h : w.ownsRow B T z (.slice A n c) n xs) (hn : 0 < n) : ∃ g, A = some ⟨g, 0, none⟩ ∧ B ≤ g ∧ g < w.heap.size ∧ (∀ k, w.frozen? ⟨g, k, none⟩ = false) ∧ ∀ j u, xs[j]? = some u → w.cell? ⟨g, j, none⟩ = some u := by
 rcases h.2 with ⟨h, h0⟩ | ⟨g, cap, cur, hv, hg, hh, _⟩
 ·omega
 ·injection hv with hA
  refine ⟨g, hA, hg, heap_at_lt hh, fun k => by simp [World.frozen?, hh], fun j u hu => ?_⟩
  have := h.cells (g := g) (by rw [hA]; rfl) j u hu
  rwa [show (⟨g, 0, none⟩ : Addr).add j = ⟨g, j, none⟩ by unfold Addr.add; split <;> simp_all] at this
theorem own_nilV {w : World} {T : TypeId} {g B z : Nat} (h : w.heap[g]? = some (.cells #[] T (0, 0))) (hb : B ≤ g) : w.ownsRow B T z (.slice (some ⟨g, 0, none⟩) 0 0) 0 [] :=
 ⟨by simp, .inr ⟨g, 0, #[], rfl, hb, h, Nat.le_refl _, Nat.zero_le _, by simp, by simp⟩⟩
theorem flat_at {α : Type} (f : α → List Value) {z : Nat} (hz : ∀ x, (f x).length = z) : ∀ (l : List α) (j i : Nat) (hj : j < l.length), i < z → (l.flatMap f)[j * z + i]? = (f l[j])[i]?
 | [], j, i, hj, _ => absurd hj (Nat.not_lt_zero _)
 | x :: l, 0, i, _, hi => by
  simp only [List.flatMap_cons, Nat.zero_mul, Nat.zero_add, List.getElem_cons_zero]
  rw [List.getElem?_append_left (by rw [hz]; exact hi)]
 | x :: l, j + 1, i, hj, hi => by
  simp only [List.flatMap_cons, List.getElem_cons_succ]
  rw [List.getElem?_append_right (by rw [hz, Nat.succ_mul]; omega), hz, show (j + 1) * z + i - z = j * z + i by rw [Nat.succ_mul]; omega]
  exact flat_at f hz l j i (by simpa using hj) hi
theorem flat_len {α : Type} (f : α → List Value) {z : Nat} (hz : ∀ x, (f x).length = z) : ∀ l : List α, (l.flatMap f).length = l.length * z
 | [] => by simp
 | x :: l => by rw [List.flatMap_cons, List.length_append, hz, flat_len f hz l, List.length_cons, Nat.succ_mul]; omega
theorem flat_of {α : Type} (f : α → List Value) {z : Nat} (h0 : 0 < z) (hz : ∀ x, (f x).length = z) (l : List α) {j : Nat} {u : Value} (h : (l.flatMap f)[j]? = some u) : ∃ hj : j / z < l.length, (f (l[j / z]))[j % z]? = some u := by
 have hlt : j < l.length * z := by
  rcases Nat.lt_or_ge j (l.length * z) with g | g
  ·exact g
  ·rw [List.getElem?_eq_none (by rw [flat_len f hz]; exact g)] at h; cases h
 have hj : j / z < l.length := Nat.div_lt_of_lt_mul (by rw [Nat.mul_comm]; exact hlt)
 refine ⟨hj, ?_⟩
 rw [← flat_at f hz l (j / z) (j % z) hj (Nat.mod_lt _ h0), Nat.div_add_mod']
 exact h
end
section
open Go.RowKit
def Bx (w : World) (g : Nat) (T : TypeId) (cs : List Value) : Prop := w.heap[g]? = some (.cells cs.toArray T (0, 0))
theorem Bx.lt {w : World} {g : Nat} {T : TypeId} {cs : List Value} (h : Bx w g T cs) : g < w.heap.size := heap_at_lt h
theorem Bx.at {w : World} {g : Nat} {T : TypeId} {cs : List Value} (h : Bx w g T cs) {j : Nat} {v : Value} (hj : cs[j]? = some v) : w.cell? ⟨g, j, none⟩ = some v := by
 have h' : w.heap[g]? = _ := h
 simp [World.cell?, h', hj]
theorem Bx.fz {w : World} {g : Nat} {T : TypeId} {cs : List Value} (h : Bx w g T cs) (j : Nat) : w.frozen? ⟨g, j, none⟩ = false := by
 simp [World.frozen?, show w.heap[g]? = _ from h]
theorem Bx.new (w : World) (T : TypeId) (cs : List Value) : Bx (w.alloc (.cells cs.toArray T)) w.heap.size T cs := by show (w.heap.push _)[w.heap.size]? = _; simp
theorem Bx.kept {R : Nat → Prop} {w w' : World} {g : Nat} {T : TypeId} {cs : List Value} (h : Bx w g T cs) (hk : Keep R w w') (hn : ¬ R g) : Bx w' g T cs := (hk.block g h.lt hn).trans h
theorem Bx.to {w w' : World} {g : Nat} {T : TypeId} {cs : List Value} (h : Bx w g T cs) (hb : Below w.heap.size w w') : Bx w' g T cs := (hb.block g h.lt).trans h
theorem Bx.below {B : Nat} {w w' : World} {g : Nat} {T : TypeId} {cs : List Value} (h : Bx w g T cs) (hg : g < B) (hb : Below B w w') : Bx w' g T cs := (hb.block g hg).trans h
theorem Bx.set {w : World} {g : Nat} {T : TypeId} {cs : List Value} (h : Bx w g T cs) (j : Nat) (u : Value) : Bx (w.setCell ⟨g, j, none⟩ u) g T (cs.set j u) := by
 obtain ⟨hlt, hk⟩ := Array.getElem?_eq_some_iff.1 h
 show (w.heap.modify g _)[g]? = _
 rw [Array.getElem?_eq_getElem (by rw [Array.size_modify]; exact hlt), Array.getElem_modify_self, hk]
 simp
theorem Bx.other {w : World} {g : Nat} {T : TypeId} {cs : List Value} (h : Bx w g T cs) (p : Addr) (u : Value) (hne : g ≠ p.block) : Bx (w.setCell p u) g T cs := (Below.heap_setCell w p u g hne).trans h
def setsC (w : World) (g i : Nat) : List Value → World
 | [] => w
 | v :: vs => setsC (w.setCell ⟨g, i, none⟩ v) g (i + 1) vs
theorem Bx.setsAt {g : Nat} {T : TypeId} : ∀ (vs : List Value) {w : World} {cs : List Value} (i : Nat), Bx w g T cs → i + vs.length ≤ cs.length → Bx (setsC w g i vs) g T (cs.take i ++ vs ++ cs.drop (i + vs.length))
 | [], w, cs, i, h, _ => by simpa [setsC] using h
 | v :: vs, w, cs, i, h, hl => by
  have h1 := Bx.setsAt vs (i + 1) (h.set i v) (by rw [List.length_set]; simp only [List.length_cons] at hl; omega)
  have hi : i < cs.length := by simp only [List.length_cons] at hl; omega
  have e1 : (cs.set i v).take (i + 1) = cs.take i ++ [v] := by
   rw [List.take_succ_eq_append_getElem (by rw [List.length_set]; exact hi), List.take_set_of_le (Nat.le_refl _), List.getElem_set_self]
  have e2 : (cs.set i v).drop (i + 1 + vs.length) = cs.drop (i + (v :: vs).length) := by
   rw [List.drop_set_of_lt (by omega), List.length_cons]; congr 1; omega
  rw [e1, e2] at h1
  simpa [setsC, List.append_assoc] using h1
theorem Bx.sets {w : World} {g : Nat} {T : TypeId} {cs : List Value} (h : Bx w g T cs) (vs : List Value) (hl : vs.length = cs.length) : Bx (setsC w g 0 vs) g T vs := by
 have := Bx.setsAt vs 0 h (by omega)
 rw [Nat.zero_add, hl] at this
 simpa using this
theorem Keep.sets {R : Nat → Prop} {a : World} {g : Nat} (hr : R g) : ∀ (vs : List Value) {w : World} (i : Nat), Keep R a w → Keep R a (setsC w g i vs)
 | [], w, i, h => h
 | v :: vs, w, i, h => Keep.sets hr vs (i + 1) (h.setCell _ _ hr)
theorem below_sets {B : Nat} {a : World} {g : Nat} (hg : B ≤ g) : ∀ (vs : List Value) {w : World} (i : Nat), Below B a w → Below B a (setsC w g i vs)
 | [], w, i, h => h
 | v :: vs, w, i, h => below_sets hg vs (i + 1) (h.setCell (p := ⟨g, i, none⟩) hg v)
end
section
open Go.RowKit
abbrev Row := List UInt8 × Nat
def rowAt (xs : List Row) (j : Nat) : Row := xs.getD j ([], 0)
def ROk (w : World) (B : Nat) (x : Row) (A : Option Addr) (c : Nat) : Prop := OwR w B A x.1.length x.1 ∧ x.2 ≤ x.1.length ∧ x.1.length ≤ c ∧ c ≤ 9223372036854775807
def RowsX (w : World) (B : Nat) (v : Value) (k : Nat) (xs : List Row) : Prop :=
 xs.length = k ∧ ∃ vs, w.ownsRow B 31 1 v k vs ∧ ∀ j, j < k → ∃ A c, vs[j]? = some (.slice A (rowAt xs j).2 c) ∧ ROk w B (rowAt xs j) A c ∧ (0 < (rowAt xs j).1.length → ∀ b o, A = some ⟨b, o, none⟩ → v.ownBlock ≠ some b)
theorem slices_info : (Tryz.prog.info? 31).map (fun i => (i.zero, i.size, i.bytes)) = some (some (.slice none 0 0), 1, 24) := by kernel_rfl
end
section
open Go Go.RowKit
section
variable {P : Program} {md : Region.Mode} {ops : Array Oper} {Q : Exit → Act → World → Prop}
def Xs (a : Act) : List Tmp → List Value → Act
 | d :: ds, x :: xs => Xs { a with tmps := a.tmps.setIfInBounds d x } ds xs
 | _, _ => a
def StepI (P : Program) (md : Region.Mode) (ops : Array Oper) (Q : Exit → Act → World → Prop) (S : World → Prop) (ds : List Tmp) (spec : Nat → Value → World → Prop) (a : Act) (j : Nat) : Prop :=
 ∀ (xs : List Value) (w : World), xs.length = ds.length → S w → (∀ o, ops[j]? = some o → ∀ e ∈ o.after, Region.binds md e = true → spec e.on (xs.getD e.on undef) w) →
  wpOp P ops Q j (fun a1 w1 => ∃ v, a1 = Xs a ds (xs.set j v) ∧ S w1 ∧ spec j v w1 ∧ Below w.heap.size w w1) (Xs a ds xs) w
theorem StepI.mk {S : World → Prop} {ds : List Tmp} {spec : Nat → Value → World → Prop} {a : Act} {j : Nat} {o : Oper} (ho : ops[j]? = some o)
  (h : ∀ (xs : List Value) (w : World), xs.length = ds.length → S w → (∀ e ∈ o.after, Region.binds md e = true → spec e.on (xs.getD e.on undef) w) →
   ∀ K' : Act → World → Prop, Shut (∀ v w1, S w1 → spec j v w1 → Below w.heap.size w w1 → K' (Xs a ds (xs.set j v)) w1) → if Region.wanted o (yielded ops (Xs a ds xs).tmps) = true then Oper.wp P o (Xs a ds xs) w K' Q else K' ((Xs a ds xs).put o.dst undef) w) : StepI P md ops Q S ds spec a j :=
 fun xs w hl hS hd => wpOp_step ho (fun K' hK => h xs w hl hS (fun e he hb => hd o ho e he hb) K' (fun v w1 h1 h2 h3 => hK _ _ ⟨v, rfl, h1, h2, h3⟩))
def leftN (L : Array Bool) : Nat → Nat
 | 0 => 0
 | n + 1 => leftN L n + (if L.getD n false = true then 0 else 1)
theorem leftN_zero {L : Array Bool} : ∀ {n : Nat}, leftN L n = 0 → ∀ j, j < n → L.getD j false = true
 | 0, _, j, hj => absurd hj (Nat.not_lt_zero _)
 | n + 1, h, j, hj => by
  rw [leftN] at h
  rcases Nat.lt_or_ge j n with g | g
  ·exact leftN_zero (by omega) j g
  ·obtain rfl : j = n := by omega
   cases e : L.getD j false with
   | true => rfl
   | false => rw [e] at h; simp at h
theorem leftN_set {L : Array Bool} {i : Nat} (hi : L.getD i true = false) : ∀ {n : Nat}, leftN (L.setIfInBounds i true) n + (if i < n then 1 else 0) = leftN L n
 | 0 => rfl
 | n + 1 => by
  have ih := leftN_set (L := L) (i := i) hi (n := n)
  have hlt : i < L.size := by
   rcases Nat.lt_or_ge i L.size with h | h
   ·exact h
   ·simp [Array.getElem?_eq_none h] at hi
  rw [leftN, leftN]
  by_cases hin : i = n
  ·subst hin
   have e1 : (L.setIfInBounds i true).getD i false = true := by simp [hlt]
   have e2 : ¬ L.getD i false = true := by
    simp only [Array.getD_eq_getD_getElem?, Array.getElem?_eq_getElem hlt, Option.getD_some] at hi ⊢
    simp [hi]
   rw [if_pos e1, if_neg e2, if_pos (Nat.lt_succ_self _)]
   rw [if_neg (Nat.lt_irrefl _)] at ih
   omega
  ·rw [getD_set_ne false hin]
   generalize (if L.getD n false = true then 0 else 1) = z
   by_cases h : i < n
   ·rw [if_pos h] at ih
    rw [if_pos (by omega)]
    omega
   ·rw [if_neg h] at ih
    rw [if_neg (by omega)]
    omega
theorem leftN_pos {L : Array Bool} : ∀ {n : Nat}, 0 < leftN L n → ∃ j, j < n ∧ L.getD j false = false ∧ ∀ i, i < j → L.getD i false = true
 | 0, h => absurd h (Nat.lt_irrefl 0)
 | n + 1, h => by
  by_cases h0 : 0 < leftN L n
  ·obtain ⟨j, hj, h1, h2⟩ := leftN_pos h0
   exact ⟨j, by omega, h1, h2⟩
  ·rw [leftN] at h
   have hz : leftN L n = 0 := by omega
   refine ⟨n, Nat.lt_succ_self _, ?_, leftN_zero hz⟩
   cases e : L.getD n false with
   | false => rfl
   | true => rw [e] at h; simp at h; omega
def depsB (md : Region.Mode) (ops : Array Oper) (n : Nat) : Bool := (List.range n).all fun j => match ops[j]? with | some o => o.after.all fun e => !Region.binds md e || decide (e.on < j) | none => false
def depsOf (md : Region.Mode) (ops : Array Oper) (i : Nat) : List Nat := match ops[i]? with | some o => (o.after.toList.filter (Region.binds md)).map (·.on) | none => []
def lastB (md : Region.Mode) (ops : Array Oper) (n : Nat) : Bool := (List.range ops.size).all fun j => decide (j < n) || (List.range n).all fun i => (depsOf md ops j).any fun m => m == i || (depsOf md ops m).contains i
def Closed (md : Region.Mode) (ops : Array Oper) (L : Array Bool) : Prop := ∀ i, L.getD i false = true → ∀ k ∈ depsOf md ops i, L.getD k false = true
theorem mem_depsOf {i k : Nat} {o : Oper} (ho : ops[i]? = some o) : k ∈ depsOf md ops i ↔ ∃ e ∈ o.after, Region.binds md e = true ∧ e.on = k := by
 unfold depsOf
 rw [ho]
 simp [List.mem_map, List.mem_filter, and_assoc]
theorem Closed.set {L : Array Bool} {j : Nat} (h : Closed md ops L) (hj : j ∈ Region.ready md ops L) : Closed md ops (L.setIfInBounds j true) := fun i hi k hk => by
 by_cases hij : i = j
 ·subst hij
  obtain ⟨_, o, ho, hall⟩ := mem_ready.1 hj
  obtain ⟨e, he, hb, rfl⟩ := (mem_depsOf ho).1 hk
  exact getD_set_true (hall e he hb)
 ·rw [getD_set_ne false (Ne.symm hij)] at hi
  exact getD_set_true (h i hi k hk)
theorem last_not {n j j0 : Nat} {L : Array Bool} (hlast : lastB md ops n = true) (hc : Closed md ops L) (hj : j ∈ Region.ready md ops L) (hj0 : j0 < n) (hu : L.getD j0 false = false) : j < n := by
 obtain ⟨_, o, ho, hall⟩ := mem_ready.1 hj
 have hjlt : j < ops.size := (Array.getElem?_eq_some_iff.1 ho).1
 rcases Nat.lt_or_ge j n with g | g
 ·exact g
 ·unfold lastB at hlast
  rw [List.all_eq_true] at hlast
  have := hlast j (List.mem_range.2 hjlt)
  rw [decide_eq_false (by omega), Bool.false_or, List.all_eq_true] at this
  have h1 := this j0 (List.mem_range.2 hj0)
  rw [List.any_eq_true] at h1
  obtain ⟨m, hm, h2⟩ := h1
  obtain ⟨e, he, hb, rfl⟩ := (mem_depsOf ho).1 hm
  have hl := hall e he hb
  rw [Bool.or_eq_true, beq_iff_eq, List.contains_iff_mem] at h2
  rcases h2 with h2 | h2
  ·rw [h2, hu] at hl; cases hl
  ·have := hc _ hl _ h2
   rw [hu] at this; cases this
def listB (m n : Nat) (L : Array Bool) : Bool := L.size == m && (List.range m).all fun j => L.getD j true == decide (j < n)
theorem getD_in {L : Array Bool} {j : Nat} (h : j < L.size) : L.getD j true = L.getD j false := by simp [Array.getElem?_eq_getElem h]
theorem wpAny_inv {n : Nat} {ds : List Tmp} {spec : Nat → Value → World → Prop} {S : World → Prop} {a : Act} {Lf : Array Bool} (hn : n ≤ ops.size) (hlen : ds.length = n) (hdep : depsB md ops n = true) (hlast : lastB md ops n = true) (hLf : listB ops.size n Lf = true)
  (mono : ∀ i v w w1, i < n → spec i v w → Below w.heap.size w w1 → spec i v w1) (step : ∀ j, j < n → StepI P md ops Q S ds spec a j)
  (fin : ∀ xs w, xs.length = n → S w → (∀ i, i < n → spec i (xs.getD i undef) w) → wpAny P md ops Q (ops.size - n) Lf (Xs a ds xs) w) :
  ∀ (c : Nat) (L : Array Bool) (xs : List Value) (w : World), Closed md ops L → L.size = ops.size → (∀ j, n ≤ j → j < ops.size → L.getD j false = false) → leftN L n = c → xs.length = n → S w → (∀ i, i < n → L.getD i false = true → spec i (xs.getD i undef) w) →
   wpAny P md ops Q (c + (ops.size - n)) L (Xs a ds xs) w
 | 0, L, xs, w, _, hs, hl, hc, hx, hS, hi => by
  have hall := leftN_zero hc
  have e : L = Lf := by
   unfold listB at hLf
   simp only [Bool.and_eq_true, beq_iff_eq, List.all_eq_true, List.mem_range] at hLf
   refine Array.ext (by rw [hs, hLf.1]) (fun j h1 h2 => ?_)
   have h3 := hLf.2 j (by omega)
   have e1 : L[j] = L.getD j false := by simp [Array.getElem?_eq_getElem h1]
   have e2 : Lf[j] = Lf.getD j true := by simp [Array.getElem?_eq_getElem h2]
   rw [e1, e2, h3]
   by_cases hj : j < n
   ·rw [hall j hj, decide_eq_true hj]
   ·rw [hl j (by omega) (by omega), decide_eq_false hj]
  rw [e, Nat.zero_add]
  exact fin xs w hx hS (fun i hin => hi i hin (hall i hin))
 | c + 1, L, xs, w, hcl, hs, hl, hc, hx, hS, hi => by
  obtain ⟨j0, hj0, hu0, hb0⟩ := leftN_pos (L := L) (n := n) (by omega)
  have hr0 : j0 ∈ Region.ready md ops L := by
   have hlt : j0 < ops.size := by omega
   refine mem_ready.2 ⟨by rw [getD_in (by omega)]; exact hu0, ops[j0], Array.getElem?_eq_getElem hlt, fun e he hb => hb0 _ ?_⟩
   unfold depsB at hdep
   rw [List.all_eq_true] at hdep
   have := hdep j0 (List.mem_range.2 hj0)
   rw [Array.getElem?_eq_getElem hlt] at this
   simp only [Array.all_eq_true_iff_forall_mem, Bool.or_eq_true, Bool.not_eq_true', decide_eq_true_eq] at this
   rcases this e he with h | h
   ·rw [hb] at h; cases h
   ·exact h
  rw [show c + 1 + (ops.size - n) = (c + (ops.size - n)) + 1 by omega]
  refine ⟨fun h => absurd hr0 (by rw [h]; exact List.not_mem_nil), fun j hj => ?_⟩
  obtain ⟨hju, o, ho, hjd⟩ := mem_ready.1 hj
  have hjlt : j < ops.size := (Array.getElem?_eq_some_iff.1 ho).1
  have hjn : j < n := last_not hlast hcl hj hj0 hu0
  refine wpOp_mono ?_ (step j hjn xs w (by omega) hS (fun o' ho' e he hb => ?_))
  ·rintro a1 w1 ⟨v, rfl, hS1, hsp, hbel⟩
   refine wpAny_inv hn hlen hdep hlast hLf mono step fin c (L.setIfInBounds j true) (xs.set j v) w1 (hcl.set hj) (by simpa using hs) (fun i h1 h2 => ?_) ?_ (by simpa using hx) hS1 (fun i hin hli => ?_)
   ·rw [getD_set_ne false (by omega)]; exact hl i h1 h2
   ·have := leftN_set (L := L) hju (n := n)
    rw [if_pos hjn] at this
    omega
   ·by_cases hij : i = j
    ·subst hij
     have : (xs.set i v).getD i undef = v := by simp [List.getD, hx, hin]
     rw [this]; exact hsp
    ·have : (xs.set j v).getD i undef = xs.getD i undef := by simp [List.getD, List.getElem?_set_ne (Ne.symm hij)]
     rw [this]
     rw [getD_set_ne false (Ne.symm hij)] at hli
     exact mono i _ w w1 hin (hi i hin hli) hbel
  ·rw [ho] at ho'
   obtain rfl : o = o' := by injection ho'
   have h2 := hjd e he hb
   have hen : e.on < n := by
    unfold depsB at hdep
    rw [List.all_eq_true] at hdep
    have := hdep j (List.mem_range.2 hjn)
    rw [ho] at this
    simp only [Array.all_eq_true_iff_forall_mem, Bool.or_eq_true, Bool.not_eq_true', decide_eq_true_eq] at this
    rcases this e he with h | h
    ·rw [hb] at h; cases h
    ·omega
   exact hi _ hen h2
theorem leftN_false {m : Nat} : ∀ {n : Nat}, leftN (Array.replicate m false) n = n
 | 0 => rfl
 | n + 1 => by
  rw [leftN, leftN_false, if_neg]
  simp [Array.getElem?_replicate]
  split <;> simp
theorem region_inv {id n : Nat} {ds : List Tmp} {S : World → Prop} {a : Act} {w : World} (spec : Nat → Value → World → Prop) (Lf : Array Bool) (xs0 : List Value) (hm : P.follows .mixedOrders = true) (hn : n ≤ ops.size) (hlen : ds.length = n) (hdep : depsB .any ops n = true) (hlast : lastB .any ops n = true) (hLf : listB ops.size n Lf = true)
  (h0 : Xs a ds xs0 = a) (hl0 : xs0.length = n) (hS : S w.drew) (mono : ∀ i v w w1, i < n → spec i v w → Below w.heap.size w w1 → spec i v w1) (step : ∀ j, j < n → StepI P .any ops Q S ds spec a j)
  (fin : ∀ xs w, xs.length = n → S w → (∀ i, i < n → spec i (xs.getD i undef) w) → wpAny P .any ops Q (ops.size - n) Lf (Xs a ds xs) w) : (Code.region id ops true).wp P Q a w := by
 refine wp_region_any hm ?_
 have := wpAny_inv hn hlen hdep hlast hLf mono step fin n (Array.replicate ops.size false) xs0 w.drew (fun i hi => by simp [Array.getElem?_replicate] at hi; split at hi <;> simp at hi) (by simp) (fun j _ _ => by simp [Array.getElem?_replicate]; split <;> simp) leftN_false hl0 hS (fun i _ h => by simp [Array.getElem?_replicate] at h; split at h <;> simp at h)
 rw [h0, show n + (ops.size - n) = ops.size by omega] at this
 exact this
def StepJ (P : Program) (md : Region.Mode) (ops : Array Oper) (Q : Exit → Act → World → Prop) (n : Nat) (S : World → Prop) (ds : List Tmp) (spec : Nat → Value → World → Prop) (rel : Nat → Value → Nat → Value → Prop) (a : Act) (j : Nat) : Prop :=
 ∀ (xs : List Value) (w : World), xs.length = ds.length → S w → (∀ o, ops[j]? = some o → ∀ e ∈ o.after, Region.binds md e = true → spec e.on (xs.getD e.on undef) w) →
  wpOp P ops Q j (fun a1 w1 => ∃ v, a1 = Xs a ds (xs.set j v) ∧ S w1 ∧ spec j v w1 ∧ (∀ i u, i < n → i ≠ j → spec i u w → rel i u j v) ∧ Below w.heap.size w w1) (Xs a ds xs) w
theorem StepJ.mk {n : Nat} {S : World → Prop} {ds : List Tmp} {spec : Nat → Value → World → Prop} {rel : Nat → Value → Nat → Value → Prop} {a : Act} {j : Nat} {o : Oper} (ho : ops[j]? = some o)
  (h : ∀ (xs : List Value) (w : World), xs.length = ds.length → S w → (∀ e ∈ o.after, Region.binds md e = true → spec e.on (xs.getD e.on undef) w) →
   ∀ K' : Act → World → Prop, Shut (∀ v w1, S w1 → spec j v w1 → (∀ i u, i < n → i ≠ j → spec i u w → rel i u j v) → Below w.heap.size w w1 → K' (Xs a ds (xs.set j v)) w1) → if Region.wanted o (yielded ops (Xs a ds xs).tmps) = true then Oper.wp P o (Xs a ds xs) w K' Q else K' ((Xs a ds xs).put o.dst undef) w) : StepJ P md ops Q n S ds spec rel a j :=
 fun xs w hl hS hd => wpOp_step ho (fun K' hK => h xs w hl hS (fun e he hb => hd o ho e he hb) K' (fun v w1 h1 h2 h4 h3 => hK _ _ ⟨v, rfl, h1, h2, h4, h3⟩))
theorem wpAny_invR {n : Nat} {ds : List Tmp} {spec : Nat → Value → World → Prop} {rel : Nat → Value → Nat → Value → Prop} {S : World → Prop} {a : Act} {Lf : Array Bool} (hn : n ≤ ops.size) (hlen : ds.length = n) (hdep : depsB md ops n = true) (hlast : lastB md ops n = true) (hLf : listB ops.size n Lf = true)
  (mono : ∀ i v w w1, i < n → spec i v w → Below w.heap.size w w1 → spec i v w1) (step : ∀ j, j < n → StepJ P md ops Q n S ds spec rel a j)
  (fin : ∀ xs w, xs.length = n → S w → (∀ i, i < n → spec i (xs.getD i undef) w) → (∀ i j, i < n → j < n → i ≠ j → rel i (xs.getD i undef) j (xs.getD j undef) ∨ rel j (xs.getD j undef) i (xs.getD i undef)) → wpAny P md ops Q (ops.size - n) Lf (Xs a ds xs) w) :
  ∀ (c : Nat) (L : Array Bool) (xs : List Value) (w : World), Closed md ops L → L.size = ops.size → (∀ j, n ≤ j → j < ops.size → L.getD j false = false) → leftN L n = c → xs.length = n → S w → (∀ i, i < n → L.getD i false = true → spec i (xs.getD i undef) w) →
   (∀ i j, i < n → j < n → i ≠ j → L.getD i false = true → L.getD j false = true → rel i (xs.getD i undef) j (xs.getD j undef) ∨ rel j (xs.getD j undef) i (xs.getD i undef)) → wpAny P md ops Q (c + (ops.size - n)) L (Xs a ds xs) w
 | 0, L, xs, w, _, hs, hl, hc, hx, hS, hi, hr => by
  have hall := leftN_zero hc
  have e : L = Lf := by
   unfold listB at hLf
   simp only [Bool.and_eq_true, beq_iff_eq, List.all_eq_true, List.mem_range] at hLf
   refine Array.ext (by rw [hs, hLf.1]) (fun j h1 h2 => ?_)
   have h3 := hLf.2 j (by omega)
   have e1 : L[j] = L.getD j false := by simp [Array.getElem?_eq_getElem h1]
   have e2 : Lf[j] = Lf.getD j true := by simp [Array.getElem?_eq_getElem h2]
   rw [e1, e2, h3]
   by_cases hj : j < n
   ·rw [hall j hj, decide_eq_true hj]
   ·rw [hl j (by omega) (by omega), decide_eq_false hj]
  rw [e, Nat.zero_add]
  exact fin xs w hx hS (fun i hin => hi i hin (hall i hin)) (fun i j h1 h2 h3 => hr i j h1 h2 h3 (hall i h1) (hall j h2))
 | c + 1, L, xs, w, hcl, hs, hl, hc, hx, hS, hi, hr => by
  obtain ⟨j0, hj0, hu0, hb0⟩ := leftN_pos (L := L) (n := n) (by omega)
  have hr0 : j0 ∈ Region.ready md ops L := by
   have hlt : j0 < ops.size := by omega
   refine mem_ready.2 ⟨by rw [getD_in (by omega)]; exact hu0, ops[j0], Array.getElem?_eq_getElem hlt, fun e he hb => hb0 _ ?_⟩
   unfold depsB at hdep
   rw [List.all_eq_true] at hdep
   have := hdep j0 (List.mem_range.2 hj0)
   rw [Array.getElem?_eq_getElem hlt] at this
   simp only [Array.all_eq_true_iff_forall_mem, Bool.or_eq_true, Bool.not_eq_true', decide_eq_true_eq] at this
   rcases this e he with h | h
   ·rw [hb] at h; cases h
   ·exact h
  rw [show c + 1 + (ops.size - n) = (c + (ops.size - n)) + 1 by omega]
  refine ⟨fun h => absurd hr0 (by rw [h]; exact List.not_mem_nil), fun j hj => ?_⟩
  obtain ⟨hju, o, ho, hjd⟩ := mem_ready.1 hj
  have hjlt : j < ops.size := (Array.getElem?_eq_some_iff.1 ho).1
  have hjn : j < n := last_not hlast hcl hj hj0 hu0
  refine wpOp_mono ?_ (step j hjn xs w (by omega) hS (fun o' ho' e he hb => ?_))
  ·rintro a1 w1 ⟨v, rfl, hS1, hsp, hrl, hbel⟩
   have same : (xs.set j v).getD j undef = v := by simp [List.getD, hx, hjn]
   have other : ∀ i, i ≠ j → (xs.set j v).getD i undef = xs.getD i undef := fun i hij => by simp [List.getD, List.getElem?_set_ne (Ne.symm hij)]
   have listed : ∀ i, i ≠ j → (L.setIfInBounds j true).getD i false = true → L.getD i false = true := fun i hij h => by rwa [getD_set_ne false (Ne.symm hij)] at h
   refine wpAny_invR hn hlen hdep hlast hLf mono step fin c (L.setIfInBounds j true) (xs.set j v) w1 (hcl.set hj) (by simpa using hs) (fun i h1 h2 => ?_) ?_ (by simpa using hx) hS1 (fun i hin hli => ?_) (fun i k h1 h2 h3 h4 h5 => ?_)
   ·rw [getD_set_ne false (by omega)]; exact hl i h1 h2
   ·have := leftN_set (L := L) hju (n := n)
    rw [if_pos hjn] at this
    omega
   ·by_cases hij : i = j
    ·subst hij
     rw [same]; exact hsp
    ·rw [other i hij]
     exact mono i _ w w1 hin (hi i hin (listed i hij hli)) hbel
   ·by_cases hij : i = j
    ·subst hij
     rw [same, other k (Ne.symm h3)]
     exact .inr (hrl k _ h2 (Ne.symm h3) (hi k h2 (listed k (Ne.symm h3) h5)))
    ·by_cases hkj : k = j
     ·subst hkj
      rw [same, other i hij]
      exact .inl (hrl i _ h1 hij (hi i h1 (listed i hij h4)))
     ·rw [other i hij, other k hkj]
      exact hr i k h1 h2 h3 (listed i hij h4) (listed k hkj h5)
  ·rw [ho] at ho'
   obtain rfl : o = o' := by injection ho'
   have h2 := hjd e he hb
   have hen : e.on < n := by
    unfold depsB at hdep
    rw [List.all_eq_true] at hdep
    have := hdep j (List.mem_range.2 hjn)
    rw [ho] at this
    simp only [Array.all_eq_true_iff_forall_mem, Bool.or_eq_true, Bool.not_eq_true', decide_eq_true_eq] at this
    rcases this e he with h | h
    ·rw [hb] at h; cases h
    ·omega
   exact hi _ hen h2
theorem region_invR {id n : Nat} {ds : List Tmp} {S : World → Prop} {a : Act} {w : World} (spec : Nat → Value → World → Prop) (rel : Nat → Value → Nat → Value → Prop) (Lf : Array Bool) (xs0 : List Value) (hm : P.follows .mixedOrders = true) (hn : n ≤ ops.size) (hlen : ds.length = n) (hdep : depsB .any ops n = true) (hlast : lastB .any ops n = true) (hLf : listB ops.size n Lf = true)
  (h0 : Xs a ds xs0 = a) (hl0 : xs0.length = n) (hS : S w.drew) (mono : ∀ i v w w1, i < n → spec i v w → Below w.heap.size w w1 → spec i v w1) (step : ∀ j, j < n → StepJ P .any ops Q n S ds spec rel a j)
  (fin : ∀ xs w, xs.length = n → S w → (∀ i, i < n → spec i (xs.getD i undef) w) → (∀ i j, i < n → j < n → i ≠ j → rel i (xs.getD i undef) j (xs.getD j undef) ∨ rel j (xs.getD j undef) i (xs.getD i undef)) → wpAny P .any ops Q (ops.size - n) Lf (Xs a ds xs) w) : (Code.region id ops true).wp P Q a w := by
 refine wp_region_any hm ?_
 have hno : ∀ i, (Array.replicate ops.size false).getD i false = true → False := fun i h => by simp [Array.getElem?_replicate] at h; split at h <;> simp at h
 have := wpAny_invR hn hlen hdep hlast hLf mono step fin n (Array.replicate ops.size false) xs0 w.drew (fun i hi => by simp [Array.getElem?_replicate] at hi; split at hi <;> simp at hi) (by simp) (fun j _ _ => by simp [Array.getElem?_replicate]; split <;> simp) leftN_false hl0 hS (fun i _ h => (hno i h).elim) (fun i _ _ _ _ h => (hno i h).elim)
 rw [h0, show n + (ops.size - n) = ops.size by omega] at this
 exact this
theorem len4 {xs : List Value} (h : xs.length = 4) : ∃ x0 x1 x2 x3, xs = [x0, x1, x2, x3] :=
 match xs, h with
 | [x0, x1, x2, x3], _ => ⟨x0, x1, x2, x3, rfl⟩
theorem len5 {xs : List Value} (h : xs.length = 5) : ∃ x0 x1 x2 x3 x4, xs = [x0, x1, x2, x3, x4] :=
 match xs, h with
 | [x0, x1, x2, x3, x4], _ => ⟨x0, x1, x2, x3, x4, rfl⟩
theorem len6 {xs : List Value} (h : xs.length = 6) : ∃ x0 x1 x2 x3 x4 x5, xs = [x0, x1, x2, x3, x4, x5] :=
 match xs, h with
 | [x0, x1, x2, x3, x4, x5], _ => ⟨x0, x1, x2, x3, x4, x5, rfl⟩
theorem len7 {xs : List Value} (h : xs.length = 7) : ∃ x0 x1 x2 x3 x4 x5 x6, xs = [x0, x1, x2, x3, x4, x5, x6] :=
 match xs, h with
 | [x0, x1, x2, x3, x4, x5, x6], _ => ⟨x0, x1, x2, x3, x4, x5, x6, rfl⟩
theorem len8 {xs : List Value} (h : xs.length = 8) : ∃ x0 x1 x2 x3 x4 x5 x6 x7, xs = [x0, x1, x2, x3, x4, x5, x6, x7] :=
 match xs, h with
 | [x0, x1, x2, x3, x4, x5, x6, x7], _ => ⟨x0, x1, x2, x3, x4, x5, x6, x7, rfl⟩
theorem len9 {xs : List Value} (h : xs.length = 9) : ∃ x0 x1 x2 x3 x4 x5 x6 x7 x8, xs = [x0, x1, x2, x3, x4, x5, x6, x7, x8] :=
 match xs, h with
 | [x0, x1, x2, x3, x4, x5, x6, x7, x8], _ => ⟨x0, x1, x2, x3, x4, x5, x6, x7, x8, rfl⟩
theorem len10 {xs : List Value} (h : xs.length = 10) : ∃ x0 x1 x2 x3 x4 x5 x6 x7 x8 x9, xs = [x0, x1, x2, x3, x4, x5, x6, x7, x8, x9] :=
 match xs, h with
 | [x0, x1, x2, x3, x4, x5, x6, x7, x8, x9], _ => ⟨x0, x1, x2, x3, x4, x5, x6, x7, x8, x9, rfl⟩
theorem len11 {xs : List Value} (h : xs.length = 11) : ∃ x0 x1 x2 x3 x4 x5 x6 x7 x8 x9 x10, xs = [x0, x1, x2, x3, x4, x5, x6, x7, x8, x9, x10] :=
 match xs, h with
 | [x0, x1, x2, x3, x4, x5, x6, x7, x8, x9, x10], _ => ⟨x0, x1, x2, x3, x4, x5, x6, x7, x8, x9, x10, rfl⟩
theorem len12 {xs : List Value} (h : xs.length = 12) : ∃ x0 x1 x2 x3 x4 x5 x6 x7 x8 x9 x10 x11, xs = [x0, x1, x2, x3, x4, x5, x6, x7, x8, x9, x10, x11] :=
 match xs, h with
 | [x0, x1, x2, x3, x4, x5, x6, x7, x8, x9, x10, x11], _ => ⟨x0, x1, x2, x3, x4, x5, x6, x7, x8, x9, x10, x11, rfl⟩
theorem len13 {xs : List Value} (h : xs.length = 13) : ∃ x0 x1 x2 x3 x4 x5 x6 x7 x8 x9 x10 x11 x12, xs = [x0, x1, x2, x3, x4, x5, x6, x7, x8, x9, x10, x11, x12] :=
 match xs, h with
 | [x0, x1, x2, x3, x4, x5, x6, x7, x8, x9, x10, x11, x12], _ => ⟨x0, x1, x2, x3, x4, x5, x6, x7, x8, x9, x10, x11, x12, rfl⟩
theorem len14 {xs : List Value} (h : xs.length = 14) : ∃ x0 x1 x2 x3 x4 x5 x6 x7 x8 x9 x10 x11 x12 x13, xs = [x0, x1, x2, x3, x4, x5, x6, x7, x8, x9, x10, x11, x12, x13] :=
 match xs, h with
 | [x0, x1, x2, x3, x4, x5, x6, x7, x8, x9, x10, x11, x12, x13], _ => ⟨x0, x1, x2, x3, x4, x5, x6, x7, x8, x9, x10, x11, x12, x13, rfl⟩
theorem lt_cases {p : Nat → Prop} : ∀ {n : Nat}, (∀ j, j < n → p j) → p n → ∀ j, j < n + 1 → p j := fun h hn j hj => by
 rcases Nat.lt_or_ge j _ with g | g
 ·exact h j g
 ·obtain rfl : j = _ := Nat.le_antisymm (Nat.lt_succ_iff.1 hj) g
  exact hn
theorem lt_none {p : Nat → Prop} : ∀ j, j < 0 → p j := fun j hj => absurd hj (Nat.not_lt_zero _)
theorem setSame (t : Array Value) (d : Nat) : t.setIfInBounds d (t.getD d undef) = t := by
 refine Array.ext (by simp) (fun i h1 h2 => ?_)
 rw [Array.getElem_setIfInBounds]
 split
 ·rename_i e; subst e; simp [Array.getElem?_eq_getElem h2]
 ·rfl
theorem wpAnyH_pair {S : World → Prop} {i j di dj : Nat} {oi oj : Oper} (si sj : Value → World → Prop) {f : Nat} {L L2 : Array Bool} {a : Act} {w : World} (hoi : ops[i]? = some oi) (hoj : ops[j]? = some oj) (hdi : oi.dst = some di) (hdj : oj.dst = some dj) (hne : di ≠ dj)
  (hr : Region.ready md ops L = [i, j]) (hri : Region.ready md ops (L.setIfInBounds i true) = [j]) (hrj : Region.ready md ops (L.setIfInBounds j true) = [i]) (h2 : (L.setIfInBounds i true).setIfInBounds j true = L2) (h3 : (L.setIfInBounds j true).setIfInBounds i true = L2) (hS : S w)
  (mi : ∀ v w w1, si v w → Below w.heap.size w w1 → si v w1) (mj : ∀ v w w1, sj v w → Below w.heap.size w w1 → sj v w1)
  (hi : ∀ u w0, S w0 → ∀ K : Act → World → Prop, Shut (∀ v w1, S w1 → si v w1 → Below w0.heap.size w0 w1 → K { a with tmps := (a.tmps.setIfInBounds dj u).setIfInBounds di v } w1) → if Region.wanted oi (yielded ops (a.tmps.setIfInBounds dj u)) = true then Oper.wp P oi { a with tmps := a.tmps.setIfInBounds dj u } w0 K Q else K { a with tmps := (a.tmps.setIfInBounds dj u).setIfInBounds di undef } w0)
  (hj : ∀ u w0, S w0 → ∀ K : Act → World → Prop, Shut (∀ v w1, S w1 → sj v w1 → Below w0.heap.size w0 w1 → K { a with tmps := (a.tmps.setIfInBounds di u).setIfInBounds dj v } w1) → if Region.wanted oj (yielded ops (a.tmps.setIfInBounds di u)) = true then Oper.wp P oj { a with tmps := a.tmps.setIfInBounds di u } w0 K Q else K { a with tmps := (a.tmps.setIfInBounds di u).setIfInBounds dj undef } w0)
  (h : ∀ vi vj w1, S w1 → si vi w1 → sj vj w1 → wpAnyH P md ops Q S f L2 { a with tmps := (a.tmps.setIfInBounds di vi).setIfInBounds dj vj } w1) : wpAnyH P md ops Q S (f + 2) L a w := by
 have hsw : ∀ vi vj, (a.tmps.setIfInBounds dj vj).setIfInBounds di vi = (a.tmps.setIfInBounds di vi).setIfInBounds dj vj := fun vi vj => Array.setIfInBounds_comm _ _ (Ne.symm hne)
 have ha : ∀ d, ({ a with tmps := a.tmps.setIfInBounds d (a.tmps.getD d undef) } : Act) = a := fun d => by rw [setSame]
 refine wpAnyH_ready hr (by simp) (AllReadyH.cons hoi (fun K hK => ?_) (AllReadyH.cons hoj (fun K hK => ?_) AllReadyH.nil))
 ·have := hi (a.tmps.getD dj undef) w hS K (fun v w1 hS1 hs1 hb1 => hK.out _ _ hS1 (fun _ => ?_))
  ·rw [setSame] at this
   rw [hdi]
   exact this
  ·refine wpAnyH_ready hri (by simp) (AllReadyH.cons hoj (fun K2 hK2 => ?_) AllReadyH.nil)
   have := hj v w1 hS1 K2 (fun u w2 hS2 hs2 hb2 => hK2.out _ _ hS2 (fun _ => by rw [h2]; exact h v u w2 hS2 (mi v w1 w2 hs1 hb2) hs2))
   rw [setSame] at *
   rw [hdj]
   exact this
 ·have := hj (a.tmps.getD di undef) w hS K (fun v w1 hS1 hs1 hb1 => hK.out _ _ hS1 (fun _ => ?_))
  ·rw [setSame] at this
   rw [hdj]
   exact this
  ·refine wpAnyH_ready hrj (by simp) (AllReadyH.cons hoi (fun K2 hK2 => ?_) AllReadyH.nil)
   have := hi v w1 hS1 K2 (fun u w2 hS2 hs2 hb2 => hK2.out _ _ hS2 (fun _ => by rw [h3, hsw]; exact h u v w2 hS2 hs2 (mj v w1 w2 hs1 hb2)))
   rw [setSame] at *
   rw [hdi]
   exact this
end
end
end Go.Proofs.YtlmdidblgeeplaaGreatDoor