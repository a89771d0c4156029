/- Rows of numbers of one kind (RdK), as XBase has them for bytes: a slice value that reads as a list of numbers, what is handed back, append and store; and byte arrays in a block of their own. -/
import Derived.Test.YtffdjnhhmfpkgaaGreatTz
import Derived.Test.YtffdjnhhmfpkgaaGreatR0
import Derived.Deep.RegionLaw
namespace Go.Proofs.YtffdjnhhmfpkgaaGreat
set_option maxRecDepth 1000000
set_option maxHeartbeats 8000000
open Go.RowKit
set_option linter.unusedVariables false
theorem heap_at_lt {w : World} {g : Nat} {o : Obj} (h : w.heap[g]? = some o) : g < w.heap.size := (Array.getElem?_eq_some_iff.1 h).1
def kv (k : IntKind) (x : Nat) : Value := .int k (x : Int)
def nx (xs : List Nat) (j : Nat) : Nat := xs.getD j 0
theorem nx_of_lt {xs : List Nat} {j : Nat} (h : j < xs.length) : nx xs j = xs[j] := by simp [nx, List.getD, List.getElem?_eq_getElem h]
theorem nx_left {xs ys : List Nat} {j : Nat} (h : j < xs.length) : nx (xs ++ ys) j = nx xs j := by simp [nx, List.getD, List.getElem?_append_left h]
theorem nx_last (xs : List Nat) (y : Nat) : nx (xs ++ [y]) xs.length = y := by simp [nx, List.getD]
def RdK (k : IntKind) (w : World) (B : Nat) (A : Option Addr) (n : Nat) (xs : List Nat) : Prop :=
 xs.length = n ∧ (0 < n → ∃ b o, A = some ⟨b, o, none⟩ ∧ b < B ∧ ∀ j, j < n → w.cell? ⟨b, o + j, none⟩ = some (.int k (nx xs j : Int)))
theorem RdK.nil (k : IntKind) (w : World) (B : Nat) (A : Option Addr) : RdK k w B A 0 [] := ⟨rfl, fun h => absurd h (Nat.lt_irrefl 0)⟩
theorem RdK.keep {k : IntKind} {w w' : World} {B n : Nat} {A : Option Addr} {xs : List Nat} (h : RdK k w B A n xs) (hk : ∀ p : Addr, p.block < B → w'.cell? p = w.cell? p) : RdK k w' B A n xs :=
 ⟨h.1, fun hn => by
  obtain ⟨b, o, e, hb, hc⟩ := h.2 hn
  exact ⟨b, o, e, hb, fun j hj => (hk _ hb).trans (hc j hj)⟩⟩
theorem RdK.more {k : IntKind} {w : World} {B B' n : Nat} {A : Option Addr} {xs : List Nat} (h : RdK k w B A n xs) (hB : B ≤ B') : RdK k w B' A n xs :=
 ⟨h.1, fun hn => by
  obtain ⟨b, o, e, hb, hc⟩ := h.2 hn
  exact ⟨b, o, e, by omega, hc⟩⟩
theorem RdK.below {k : IntKind} {w w' : World} {B n : Nat} {A : Option Addr} {xs : List Nat} (h : RdK k w B A n xs) (hb : Below B w w') : RdK k w' B A n xs := h.keep fun _ hp => hb.cell hp
theorem RdK.to {k : IntKind} {w w' : World} {n : Nat} {A : Option Addr} {xs : List Nat} (h : RdK k w w.heap.size A n xs) (hb : Below w.heap.size w w') : RdK k w' w'.heap.size A n xs := (h.below hb).more hb.size
theorem RdK.drew' {k : IntKind} {w : World} {n : Nat} {A : Option Addr} {xs : List Nat} (h : RdK k w w.heap.size A n xs) : RdK k w.drew w.drew.heap.size A n xs := h
theorem RdK.at {k : IntKind} {w : World} {B n b o : Nat} {xs : List Nat} (h : RdK k w B (some ⟨b, o, none⟩) n xs) {j : Nat} (hj : j < n) : w.cell? ⟨b, o + j, none⟩ = some (.int k (nx xs j : Int)) := by
 obtain ⟨b', o', e, hb, hc⟩ := h.2 (by omega)
 injection e with e; injection e with e1 e2
 subst e1; subst e2
 exact hc j hj
theorem RdK.of_own {k : IntKind} {w : World} {base : Nat} {T : TypeId} {A : Option Addr} {n c : Nat} {xs : List Nat} (h : w.ownsRow base T 1 (.slice A n c) n (xs.map (kv k))) : RdK k w w.heap.size A n xs := by
 have hl : xs.length = n := by simpa using h.1
 refine ⟨hl, fun hn => ?_⟩
 obtain ⟨g, cap, hv, _, hlt⟩ := h.form hn
 have hA : A = some ⟨g, 0, none⟩ := by injection hv
 subst hA
 refine ⟨g, 0, rfl, hlt, fun j hj => ?_⟩
 have hj' : j < xs.length := by omega
 have := h.cells (g := g) rfl j (kv k xs[j]) (by simp [List.getElem?_eq_getElem hj'])
 rw [nx_of_lt hj']
 have e : (⟨g, 0, none⟩ : Addr).add j = ⟨g, 0 + j, none⟩ := by unfold Addr.add; split <;> simp_all
 rw [← e]; exact this
def RetK (k : IntKind) (T : TypeId) (w : World) (xs : List Nat) (e : Ending) (w' : World) : Prop :=
 ∃ A n c, e = .returned (.slice A n c) ∧ w'.ownsRow w.heap.size T 1 (.slice A n c) n (xs.map (kv k)) ∧ Below w.heap.size w w'
theorem RetK.mk {k : IntKind} {T : TypeId} {w w' : World} {xs : List Nat} {v : Value} {n : Nat} (h : w'.ownsRow w.heap.size T 1 v n (xs.map (kv k))) (hb : Below w.heap.size w w') : RetK k T w xs (.returned v) w' := by
 obtain ⟨A, c, rfl⟩ := own_slice h
 exact ⟨A, n, c, rfl, h, hb⟩
theorem own_top {w : World} {B : Nat} (vs : List Value) (T : TypeId) (hB : B ≤ w.heap.size) (h1 : ∀ u ∈ vs, u.oneCell' = true) (hn : vs.length ≤ 1000) :
  (w.alloc (.cells vs.toArray T)).ownsRow B T 1 (.slice (some ⟨w.heap.size, 0, none⟩) vs.length vs.length) vs.length vs := by
 refine ⟨by simp, .inr ⟨w.heap.size, vs.length, vs.toArray, rfl, hB, heap_alloc_last w _, ?_⟩⟩
 refine ⟨Nat.le_refl _, by unfold maxLen; omega, by simp, ?_⟩
 simp
structure KT (P : Program) (T U : TypeId) (k : IntKind) (bytes : Nat) : Prop where
 ul : P.underlying T = some (.slice U)
 info : (P.info? U).map (fun i => (i.zero, i.size, i.bytes)) = some (some (.int k 0), 1, bytes)
 small : bytes ≤ 8
theorem kvs_one (k : IntKind) (xs : List Nat) : ∀ u ∈ xs.map (kv k), u.oneCell' = true := by
 intro u hu
 obtain ⟨b, _, rfl⟩ := List.mem_map.1 hu
 rfl
theorem wpList_pushK {P : Program} {T U : TypeId} {k : IntKind} {bytes : Nat} (L : KT P T U k bytes) {ops : Array Oper} {rest : List Oper} {o : Oper} {a : Act} {Q : Exit → Act → World → Prop} (hgd : o.guard = none) (s x : Operand)
  (ho : o.op = .call { callee := .builtin .append, args := #[s, x], argTypes := #[T, T] }) {B n : Nat} {w wr : World} {v : Value} {xs : List Nat} {z : Int} (hs : a.eval s = v)
  (hx : a.eval x = .slice (some ⟨wr.heap.size, 0, none⟩) 1 1) (hown : wr.ownsRow B U 1 v n (xs.map (kv k))) (hb : Below B w wr) (hB : B ≤ wr.heap.size) (hk : n + 1 ≤ 17592186044416)
  (y : Nat) (hz : z = (y : Int))
  (h : ∀ v' w1, w1.ownsRow B U 1 v' (n + 1) ((xs ++ [y]).map (kv k)) → Below B w w1 → wr.heap.size ≤ w1.heap.size → wpList P ops Q rest (a.put o.dst v') w1) : wpList P ops Q (o :: rest) a (wr.alloc (.cells #[.int k z] U)) := by
 obtain ⟨i0, hi, hz0, hz1, hz2⟩ := info_parts L.info
 refine wpList_append_own _ hgd s x T ho B U i0 (.int k 0) 1 bytes L.ul hi hz0 hz1 hz2 rfl (by decide) v n _ hs (hown.alloc _) ⟨wr.heap.size, 0, none⟩ 1 1 [.int k z] hx rfl (cell_one_new _ _ _) ?_ ?_ ?_ ?_ ?_
 ·intro u hu; simp at hu; subst hu; rfl
 ·unfold maxLen; omega
 ·have := L.small
  have := Nat.mul_le_mul hk this
  omega
 ·simp; omega
 ·intro v' w1 hown' hgrow _
  have hz' := hgrow.size
  simp at hz'
  refine h v' w1 (by rw [List.map_append]; subst hz; exact hown') ((hb.alloc hB _).grown hgrow (by simp; omega) (fun j hj => (hown.lt j hj).1)) (by omega)
theorem step_pushK {P : Program} {T U : TypeId} {k : IntKind} {bytes : Nat} (L : KT P T U k bytes) {ops : Array Oper} {o : Oper} {a : Act} {K : Act → World → Prop} {Q : Exit → Act → World → Prop} {E : Prop} (hgd : o.guard = none) (s x : Operand)
  (ho : o.op = .call { callee := .builtin .append, args := #[s, x], argTypes := #[T, T] }) {B n g : Nat} {w wx : World} {v : Value} {xs : List Nat} {z : Int} (hs : a.eval s = v)
  (hx : a.eval x = .slice (some ⟨g, 0, none⟩) 1 1) (hblk : wx.heap[g]? = some (.cells #[.int k z] U (0, 0))) (hown : wx.ownsRow B U 1 v n (xs.map (kv k))) (hb : Below B w wx) (hB : B ≤ wx.heap.size) (hk : n + 1 ≤ 17592186044416)
  (y : Nat) (hz : z = (y : Int))
  (h : ∀ v' w1, w1.ownsRow B U 1 v' (n + 1) ((xs ++ [y]).map (kv k)) → Below B w w1 → wx.heap.size ≤ w1.heap.size → K (a.put o.dst v') w1) :
  if Region.wanted o (yielded ops a.tmps) = true then Oper.wp P o a wx K Q else E := by
 obtain ⟨i0, hi, hz0, hz1, hz2⟩ := info_parts L.info
 refine step_append_lies wx hgd s x T ho B U i0 (.int k 0) 1 bytes L.ul hi hz0 hz1 hz2 rfl (by decide) v n _ hs hown ⟨g, 0, none⟩ 1 1 [.int k z] hx rfl (World.news_of_block hblk) ?_ (by decide) ?_ ?_ hB _ rfl ?_
 ·intro u hu; simp at hu; subst hu; rfl
 ·unfold maxLen; omega
 ·have := L.small
  have := Nat.mul_le_mul hk this
  omega
 ·intro g' cap w1 hown' hgrow _ _
  exact h _ w1 (by rw [List.map_append]; subst hz; exact hown') (hb.grown hgrow hB (fun j hj => (hown.lt j hj).1)) hgrow.size
theorem own_cellK {k : IntKind} {wr : World} {B g n cap j : Nat} {U : TypeId} {xs : List Nat} (h : wr.ownsRow B U 1 (.slice (some ⟨g, 0, none⟩) n cap) n (xs.map (kv k))) (hj : j < n) :
  wr.cell? ⟨g, j, none⟩ = some (.int k (nx xs j : Int)) ∧ wr.frozen? ⟨g, j, none⟩ = false := by
 refine ⟨?_, h.frozenAt j⟩
 have hl : xs.length = n := by simpa using h.1
 rw [h.cellAt j (by omega), List.getElem?_map, List.getElem?_eq_getElem (by omega), nx_of_lt (by omega)]
 rfl
def arrB (bs : List UInt8) : Array Value := (bs.map bval).toArray
theorem arrB_size (bs : List UInt8) : (arrB bs).size = bs.length := by simp [arrB]
theorem arrB_set (bs : List UInt8) (j : Nat) (y : UInt8) : (arrB bs).setIfInBounds j (.int .u8 (y.toNat : Int)) = arrB (bs.set j y) := by
 unfold arrB
 rw [List.setIfInBounds_toArray, List.map_set]; rfl
theorem arrB_at {bs : List UInt8} {j : Nat} (h : j < bs.length) : (arrB bs)[j]? = some (.int .u8 (nth bs j : Int)) := by
 simp [arrB, h, nth_of_lt h, bval]
theorem arrB_one (bs : List UInt8) : (arrB bs).all (·.oneCell') = true := by
 rw [Array.all_eq_true]
 intro i hi
 simp [arrB, bval_one]
end Go.Proofs.YtffdjnhhmfpkgaaGreat