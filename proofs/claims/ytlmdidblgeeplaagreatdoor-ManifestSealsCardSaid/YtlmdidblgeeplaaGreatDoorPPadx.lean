/- Several texts in one (a claim has 60 files at most): Base, RefA, Bytes, Kit, Row, Slice, KitO, Open, ArrEq, Pad. -/
import Derived.Test.YtlmdidblgeeplaaGreatDoorTz
import Derived.WalkKit
import Derived.Handy
import Derived.Below
import Derived.Laws.OwnMore
import Derived.Maps.AppendAt
import Derived.Deep.AppendLies
import Derived.Deep.Draws
import Derived.Deep.QuietTactic
import Derived.BigQuiet
import Derived.Lib.Hide
import Derived.ProofKit
import Derived.OpenShut
import Derived.Deep.DeepMust
import Derived.Deep.DeepFit
import Derived.Test.YtlmdidblgeeplaaGreatDoorChecked
import Derived.Laws.BytesArg
import Derived.Laws.BytesString
import Derived.Lib.BytesEntry
import Derived.Lib.Bytealg
import Derived.Deep.WholeRow
import Derived.Deep.RegionLaw
import Derived.Lib.ConvBytes
import Derived.Lib.SmallJoins
import Derived.ChangeShapes
import Derived.WideShapes
import Derived.Deep.Matrix
import Derived.SizedLaws
import Derived.Laws.StructEq
import Derived.Shelf.Bytes.SlEqualAll
namespace Go.Proofs.YtlmdidblgeeplaaGreatDoor
set_option maxRecDepth 1000000
set_option maxHeartbeats 8000000
set_option linter.unusedVariables false
set_option linter.unusedSimpArgs false
section
open Go.RowKit
def nth (bs : List UInt8) (j : Nat) : Nat := (bs.getD j 0).toNat
theorem nth_lt (bs : List UInt8) (j : Nat) : nth bs j < 256 := by
 unfold nth; exact (bs.getD j 0).toNat_lt
theorem nth_of_lt {bs : List UInt8} {j : Nat} (h : j < bs.length) : nth bs j = bs[j].toNat := by
 simp [nth, List.getD, List.getElem?_eq_getElem h]
theorem u8_mod (y : Nat) : ((y : Int) % 256) = ((UInt8.ofNat y).toNat : Int) := by
 have e : (UInt8.ofNat y).toNat = y % 256 := UInt8.toNat_ofNat'
 rw [e]; omega
def bval (b : UInt8) : Value := .int .u8 (b.toNat : Int)
theorem take_snoc_b {bs : List UInt8} {k : Nat} (h : k < bs.length) : bs.take (k + 1) = bs.take k ++ [bs[k]] := by
 rw [List.take_succ_eq_append_getElem h]
theorem take_snoc_getD {bs : List UInt8} {k : Nat} (h : k < bs.length) : bs.take (k + 1) = bs.take k ++ [bs.getD k 0] := by
 rw [take_snoc_b h]; simp [List.getD, List.getElem?_eq_getElem h]
theorem rev_getD {bs : List UInt8} {i j : Nat} (h : i + j + 1 = bs.length) : bs.reverse.getD i 0 = bs.getD j 0 := by
 have h1 : i < bs.length := by omega
 have h2 : bs.length - 1 - i = j := by omega
 simp only [List.getD, List.getElem?_reverse h1, h2]
theorem bval_one (b : UInt8) : (bval b).oneCell' = true := rfl
theorem bvals_one (bs : List UInt8) : ∀ u ∈ bs.map bval, u.oneCell' = true := by
 intro u hu
 obtain ⟨b, _, rfl⟩ := List.mem_map.1 hu
 rfl
def Rd (w : World) (B : Nat) (A : Option Addr) (n : Nat) (bs : List UInt8) : Prop :=
 bs.length = n ∧ (0 < n → ∃ b o, A = some ⟨b, o, none⟩ ∧ b < B ∧ ∀ j, j < n → w.cell? ⟨b, o + j, none⟩ = some (.int .u8 (nth bs j : Int)))
theorem Rd.nil (w : World) (B : Nat) (A : Option Addr) : Rd w B A 0 [] := ⟨rfl, fun h => absurd h (Nat.lt_irrefl 0)⟩
theorem Rd.keep {w w' : World} {B n : Nat} {A : Option Addr} {bs : List UInt8} (h : Rd w B A n bs) (hk : ∀ p : Addr, p.block < B → w'.cell? p = w.cell? p) : Rd w' B A n bs :=
 ⟨h.1, fun hn => by
  obtain ⟨b, o, e, hb, hc⟩ := h.2 hn
  exact ⟨b, o, e, hb, fun j hj => (hk _ hb).trans (hc j hj)⟩⟩
theorem Rd.more {w : World} {B B' n : Nat} {A : Option Addr} {bs : List UInt8} (h : Rd w B A n bs) (hB : B ≤ B') : Rd w B' A n bs :=
 ⟨h.1, fun hn => by
  obtain ⟨b, o, e, hb, hc⟩ := h.2 hn
  exact ⟨b, o, e, by omega, hc⟩⟩
theorem Rd.below {w w' : World} {B n : Nat} {A : Option Addr} {bs : List UInt8} (h : Rd w B A n bs) (hb : Below B w w') : Rd w' B A n bs := h.keep fun _ hp => hb.cell hp
theorem Rd.to {w w' : World} {n : Nat} {A : Option Addr} {bs : List UInt8} (h : Rd w w.heap.size A n bs) (hb : Below w.heap.size w w') : Rd w' w'.heap.size A n bs := (h.below hb).more hb.size
theorem Rd.cut {w : World} {B n : Nat} {b o : Nat} {bs : List UInt8} (h : Rd w B (some ⟨b, o, none⟩) n bs) {l k : Nat} (hl : l ≤ k) (hk : k ≤ n) :
  Rd w B (some ⟨b, o + l, none⟩) (k - l) ((bs.take k).drop l) := by
 refine ⟨by simp [h.1, Nat.min_eq_left hk], fun hn => ?_⟩
 obtain ⟨b', o', e, hb, hc⟩ := h.2 (by omega)
 simp only [Option.some.injEq, Addr.mk.injEq, and_true] at e
 obtain ⟨rfl, rfl⟩ := e
 refine ⟨_, _, rfl, hb, fun j hj => ?_⟩
 rw [Nat.add_assoc, hc (l + j) (by omega)]
 congr 3
 unfold nth
 have : l + j < k := by omega
 simp [List.getD, List.getElem?_drop, this]
def RetB (T : TypeId) (w : World) (bs : List UInt8) (e : Ending) (w' : World) : Prop :=
 ∃ A n c, e = .returned (.slice A n c) ∧ w'.ownsRow w.heap.size T 1 (.slice A n c) n (bs.map bval) ∧ Below w.heap.size w w'
theorem ret_int {k : IntKind} {a b : Int} (h : a = b) : Ending.returned (.int k a) = .returned (.int k b) := by rw [h]
theorem ret_bool {a b : Bool} (h : a = b) : Ending.returned (.bool a) = .returned (.bool b) := by rw [h]
theorem own_slice {w : World} {base : Nat} {T : TypeId} {v : Value} {n : Nat} {xs : List Value} (h : w.ownsRow base T 1 v n xs) : ∃ A c, v = .slice A n c := by
 rcases h.2 with ⟨rfl, rfl⟩ | ⟨g, cap, cur, rfl, _⟩
 ·exact ⟨_, _, rfl⟩
 ·exact ⟨_, _, rfl⟩
theorem own_mono {w : World} {B B' : Nat} {T : TypeId} {v : Value} {n : Nat} {xs : List Value} (h : w.ownsRow B T 1 v n xs) (hB : B' ≤ B) : w.ownsRow B' T 1 v n xs := by
 refine ⟨h.1, ?_⟩
 rcases h.2 with h | ⟨g, cap, cur, e, hg, h⟩
 ·exact .inl h
 ·exact .inr ⟨g, cap, cur, e, by omega, h⟩
theorem RetB.mk {T : TypeId} {w w' : World} {bs : List UInt8} {v : Value} {n : Nat} (h : w'.ownsRow w.heap.size T 1 v n (bs.map bval)) (hb : Below w.heap.size w w') : RetB T w bs (.returned v) w' := by
 obtain ⟨A, c, rfl⟩ := own_slice h
 exact ⟨A, n, c, rfl, h, hb⟩
theorem Rd.of_own {w : World} {base : Nat} {T : TypeId} {A : Option Addr} {n c : Nat} {bs : List UInt8} (h : w.ownsRow base T 1 (.slice A n c) n (bs.map bval)) : Rd w w.heap.size A n bs := by
 have hl : bs.length = n := by simpa using h.1
 refine ⟨hl, fun hn => ?_⟩
 obtain ⟨g, cap, hv, _, hlt⟩ := h.form hn
 have hA : A = some ⟨g, 0, none⟩ := by injection hv
 subst hA
 refine ⟨g, 0, rfl, hlt, fun j hj => ?_⟩
 have hj' : j < bs.length := by omega
 have := h.cells (g := g) rfl j (bval bs[j]) (by simp [List.getElem?_eq_getElem hj'])
 rw [nth_of_lt hj']
 have e : (⟨g, 0, none⟩ : Addr).add j = ⟨g, 0 + j, none⟩ := by unfold Addr.add; split <;> simp_all
 rw [← e]; exact this
structure U8 (P : Program) (T U : TypeId) : Prop where
 ul : P.underlying T = some (.slice U)
 info : (P.info? U).map (fun i => (i.zero, i.size, i.bytes)) = some (some (.int .u8 0), 1, 1)
theorem wpList_push {P : Program} {T U : TypeId} (L : U8 P T U) {ops : Array Oper} {rest : List Oper} {o : Oper} {a : Act} {Q : Exit → Act → World → Prop} (hgd : o.guard = none) (s x : Operand)
  (ho : o.op = .call { callee := .builtin .append, args := #[s, x], argTypes := #[T, T] }) {B k : Nat} {w wr : World} {v : Value} {bs : List UInt8} {z : Int} (hs : a.eval s = v)
  (hx : a.eval x = .slice (some ⟨wr.heap.size, 0, none⟩) 1 1) (hown : wr.ownsRow B U 1 v k (bs.map bval)) (hb : Below B w wr) (hB : B ≤ wr.heap.size) (hk : k + 1 ≤ 140737488355328)
  (y : UInt8) (hz : z = (y.toNat : Int))
  (h : ∀ v' w1, w1.ownsRow B U 1 v' (k + 1) ((bs ++ [y]).map bval) → Below B w w1 → wr.heap.size ≤ w1.heap.size → wpList P ops Q rest (a.put o.dst v') w1) : wpList P ops Q (o :: rest) a (wr.alloc (.cells #[.int .u8 z] U)) := by
 obtain ⟨i0, hi, hz0, hz1, hz2⟩ := info_parts L.info
 refine wpList_append_own _ hgd s x T ho B U i0 (.int .u8 0) 1 1 L.ul hi hz0 hz1 hz2 rfl (by decide) v k _ hs (hown.alloc _) ⟨wr.heap.size, 0, none⟩ 1 1 [.int .u8 z] hx rfl (cell_one_new _ _ _) ?_ ?_ ?_ ?_ ?_
 ·intro u hu; simp at hu; subst hu; rfl
 ·unfold maxLen; omega
 ·omega
 ·simp; omega
 ·intro v' w1 hown' hgrow _
  have hz' := hgrow.size
  simp at hz'
  refine h v' w1 (by rw [List.map_append]; subst hz; exact hown') ((hb.alloc hB _).grown hgrow (by simp; omega) (fun j hj => (hown.lt j hj).1)) (by omega)
theorem wpList_makeB {P : Program} {T U : TypeId} (L : U8 P T U) {w wr : World} {ops : Array Oper} {rest : List Oper} {o : Oper} {a : Act} {Q : Exit → Act → World → Prop}
  (hg : o.guard = none) (l c : Operand) (hop : o.op = Op.makeSlice T l c) {B : Nat} {kl kc : IntKind} {I C : Int} (n : Nat) (hl : a.eval l = .int kl I) (hc : a.eval c = .int kc C) (hI : I = (n : Int)) (hC : C = (n : Int))
  (hn : n ≤ 281474976710656) (hb : Below B w wr) (hB : B ≤ wr.heap.size)
  (hK : ∀ w1, w1.ownsRow B U 1 (.slice (some ⟨wr.heap.size, 0, none⟩) n n) n ((List.replicate n 0).map bval) → Below B w w1 → wr.heap.size < w1.heap.size → wpList P ops Q rest (a.put o.dst (.slice (some ⟨wr.heap.size, 0, none⟩) n n)) w1) :
  wpList P ops Q (o :: rest) a wr := by
 obtain ⟨i0, hi, hz0, hz1, hz2⟩ := info_parts L.info
 refine wpList_make_full wr hg l c T hop B U i0 (.int .u8 0) 1 L.ul hi hz0 hz1 kl kc I C n hl hc hI hC (by rw [hz2]; omega) (by unfold maxLen; omega) hB fun w1 hown hgr => ?_
 have e : (madeCells (Value.int .u8 0).cells (n * 1)).toList = (List.replicate n (0 : UInt8)).map bval := by
  rw [Nat.mul_one, List.map_replicate]
  exact toList_madeCells_one _ _
 rw [e] at hown
 refine hK w1 hown (hb.grown hgr hB (fun k hk => by cases hk)) ?_
 rcases hown.2 with ⟨h, _⟩ | ⟨g, cap, cur, hv, _, hh, _⟩
 ·simp at h
 ·simp only [Value.slice.injEq, Option.some.injEq, Addr.mk.injEq, and_true, true_and] at hv
  obtain ⟨rfl, rfl⟩ := hv
  rcases Nat.lt_or_ge wr.heap.size w1.heap.size with h | h
  ·exact h
  ·rw [Array.getElem?_eq_none h] at hh; cases hh
theorem wpList_makeB0 {P : Program} {T U : TypeId} (L : U8 P T U) {w wr : World} {ops : Array Oper} {rest : List Oper} {o : Oper} {a : Act} {Q : Exit → Act → World → Prop}
  (hg : o.guard = none) (l c : Operand) (hop : o.op = Op.makeSlice T l c) {B : Nat} {kl kc : IntKind} {C : Int} (n : Nat) (hl : a.eval l = .int kl 0) (hc : a.eval c = .int kc C) (hC : C = (n : Int))
  (hn : n ≤ 281474976710656) (hb : Below B w wr) (hB : B ≤ wr.heap.size)
  (hK : ∀ w1, w1.ownsRow B U 1 (.slice (some ⟨wr.heap.size, 0, none⟩) 0 n) 0 (([] : List UInt8).map bval) → Below B w w1 → wr.heap.size ≤ w1.heap.size → wpList P ops Q rest (a.put o.dst (.slice (some ⟨wr.heap.size, 0, none⟩) 0 n)) w1) :
  wpList P ops Q (o :: rest) a wr := by
 obtain ⟨i0, hi, hz0, hz1, hz2⟩ := info_parts L.info
 exact wpList_make_own wr hg l c T hop B U i0 (.int .u8 0) 1 L.ul hi hz0 hz1 kl kc C n hl hc hC (by rw [hz2]; omega) (by unfold maxLen; omega) hB fun w1 hown hgr => hK w1 hown (hb.grown hgr hB (fun k hk => by cases hk)) hgr.size
theorem own_set {w wr : World} {B g n cap j : Nat} {U : TypeId} {bs : List UInt8} (h : wr.ownsRow B U 1 (.slice (some ⟨g, 0, none⟩) n cap) n (bs.map bval)) (hb : Below B w wr) (y : UInt8) {z : Int} (hz : z = (y.toNat : Int)) (hg : B ≤ g) :
  (wr.setCell ⟨g, j, none⟩ (.int .u8 z)).ownsRow B U 1 (.slice (some ⟨g, 0, none⟩) n cap) n ((bs.set j y).map bval) ∧ Below B w (wr.setCell ⟨g, j, none⟩ (.int .u8 z)) := by
 subst hz
 have h1 := (h.stored j (.int .u8 (y.toNat : Int))).1
 rw [List.map_set]
 exact ⟨h1, hb.setCell hg _⟩
theorem own_cell {wr : World} {B g n cap j : Nat} {U : TypeId} {bs : List UInt8} (h : wr.ownsRow B U 1 (.slice (some ⟨g, 0, none⟩) n cap) n (bs.map bval)) (hj : j < n) :
  wr.cell? ⟨g, j, none⟩ = some (.int .u8 (nth bs j : Int)) ∧ wr.frozen? ⟨g, j, none⟩ = false := by
 refine ⟨?_, h.frozenAt j⟩
 have hl : bs.length = n := by simpa using h.1
 rw [h.cellAt j (by omega), List.getElem?_map, List.getElem?_eq_getElem (by omega), nth_of_lt (by omega)]
 rfl
theorem wpList_pushAll {P : Program} {T U : TypeId} (L : U8 P T U) {ops : Array Oper} {rest : List Oper} {o : Oper} {a : Act} {Q : Exit → Act → World → Prop} (hgd : o.guard = none) (s x : Operand)
  (ho : o.op = .call { callee := .builtin .append, args := #[s, x], argTypes := #[T, T] }) {B B' k m c : Nat} {A : Option Addr} {w wr : World} {v : Value} {bs news : List UInt8} (hs : a.eval s = v)
  (hx : a.eval x = .slice A m c) (hown : wr.ownsRow B U 1 v k (bs.map bval)) (hr : Rd wr B' A m news) (hb : Below B w wr) (hB : B ≤ wr.heap.size) (hk : k + m ≤ 140737488355328)
  (h : ∀ v' w1, w1.ownsRow B U 1 v' (k + m) ((bs ++ news).map bval) → Below B w w1 → wr.heap.size ≤ w1.heap.size → wpList P ops Q rest (a.put o.dst v') w1) : wpList P ops Q (o :: rest) a wr := by
 obtain ⟨i0, hi, hz0, hz1, hz2⟩ := info_parts L.info
 have hlen : news.length = m := hr.1
 rcases A with _ | ad
 ·obtain rfl : m = 0 := by
   rcases Nat.eq_zero_or_pos m with h0 | h0
   ·exact h0
   ·obtain ⟨_, _, e, _⟩ := hr.2 h0; cases e
  obtain rfl : news = [] := List.eq_nil_of_length_eq_zero hlen
  have hrun : (Builtin.append_ #[T, T] o.type #[v, .slice none 0 c]).run P wr = .ok v wr := by
   have hul := L.ul
   rcases hown.2 with ⟨rfl, rfl⟩ | ⟨g, cap, cur, rfl, _, _, hnc, _⟩
   ·simp [Builtin.append_, run_underlying hul, sizeOf, typeInfo, hi, Builtin.lenOf, Builtin.firstCells]
   ·simp [Builtin.append_, run_underlying hul, sizeOf, typeInfo, hi, Builtin.lenOf, Builtin.firstCells, hnc, storeCells]
  refine wpList_plain hgd fun K hK => ?_
  unfold Oper.wp execOp
  simp only [ho, resolve, invoke, builtin, Sem.run_bind, Sem.run_pure, Result.andThen_ok, List.map_toArray, List.map_cons, List.map_nil, hs, hx, hrun]
  exact hK _ _ (h v wr (by simpa using hown) hb (Nat.le_refl _))
 ·refine wpList_append_own _ hgd s x T ho B U i0 (.int .u8 0) 1 1 L.ul hi hz0 hz1 hz2 rfl (by decide) v k _ hs hown ad m c (news.map bval) hx (by simpa using hlen) ?_ (bvals_one _) ?_ ?_ hB ?_
  ·intro j u hu
   have hj : j < m := by
    rcases Nat.lt_or_ge j m with g | g
    ·exact g
    ·rw [List.getElem?_eq_none (by simpa [hlen] using g)] at hu; cases hu
   obtain ⟨b, of, e, _, hc⟩ := hr.2 (by omega)
   obtain rfl : ad = ⟨b, of, none⟩ := by injection e
   have e : (⟨b, of, none⟩ : Addr).add j = ⟨b, of + j, none⟩ := by unfold Addr.add; split <;> simp_all
   rw [e, hc j hj, ← hu, List.getElem?_map, List.getElem?_eq_getElem (by omega), nth_of_lt (by omega)]
   rfl
  ·unfold maxLen; omega
  ·omega
  ·intro v' w1 hown' hgrow _
   exact h v' w1 (by rw [List.map_append]; exact hown') (hb.grown hgrow hB (fun j hj => (hown.lt j hj).1)) hgrow.size
theorem wf_u8 {x : Int} (h : (Lit.int .u8 x).wf = true) : 0 ≤ x ∧ x < 256 := by
 have h1 : IntKind.u8.min = 0 := rfl
 have h2 : IntKind.u8.max = 255 := rfl
 simp only [Lit.wf, Bool.and_eq_true, decide_eq_true_eq, h1, h2] at h
 omega
def IsRow (k : IntKind) (w : World) (a : Option Addr) (len cap : Nat) (zs : List Int) : Prop :=
 (a = none ∧ len = 0 ∧ cap = 0 ∧ zs = []) ∨
 ∃ x, a = some x ∧ len ≤ cap ∧ cap ≤ maxLen ∧ zs.length = cap ∧ (∀ i, i < zs.length → w.cell? (x.add i) = some (.int k (zs.getD i 0))) ∧ ∀ n ∈ zs, (Lit.int k n).wf = true
def bytesIn (zs : List Int) : List UInt8 := zs.map fun n => UInt8.ofNat n.toNat
theorem IsRow.rd {w : World} {a : Option Addr} {len cap : Nat} {zs : List Int} (h : IsRow .u8 w a len cap zs) :
  Rd w w.heap.size a len (bytesIn (zs.take len)) ∧ len ≤ cap ∧ cap ≤ 9223372036854775807 := by
 rcases h with ⟨rfl, rfl, rfl, rfl⟩ | ⟨x, rfl, hl, hm, hz, hc, hwf⟩
 ·exact ⟨Rd.nil _ _ _, by omega, by omega⟩
 ·refine ⟨⟨by simp [bytesIn]; omega, fun hn => ?_⟩, hl, by unfold maxLen at hm; omega⟩
  obtain ⟨b, o, s⟩ := x
  have h0 := hc 0 (by omega)
  obtain rfl : s = none := by simpa [Addr.add] using World.cell?_spot h0
  refine ⟨b, o, rfl, ?_, fun j hj => ?_⟩
  ·rcases Nat.lt_or_ge b w.heap.size with g | g
   ·exact g
   ·have e : w.cell? ⟨b, o, none⟩ = none := by simp [World.cell?, Array.getElem?_eq_none g]
    rw [show (⟨b, o, none⟩ : Addr).add 0 = ⟨b, o, none⟩ from by simp [Addr.add]] at h0
    rw [e] at h0; cases h0
  ·have hjz : j < zs.length := by omega
   have hb := wf_u8 (hwf zs[j] (List.getElem_mem hjz))
   have e : (⟨b, o, none⟩ : Addr).add j = ⟨b, o + j, none⟩ := by unfold Addr.add; split <;> simp_all
   have hlen : j < (bytesIn (zs.take len)).length := by simp [bytesIn]; omega
   have hn : nth (bytesIn (zs.take len)) j = zs[j].toNat := by
    rw [nth_of_lt hlen]
    simp only [bytesIn, List.getElem_map, List.getElem_take]
    have : (UInt8.ofNat zs[j].toNat).toNat = zs[j].toNat % 256 := UInt8.toNat_ofNat'
    omega
   rw [← e, hc j hjz, hn]
   simp only [List.getD, List.getElem?_eq_getElem hjz, Option.getD_some]
   congr 2
   omega
theorem own_cap {w : World} {B : Nat} {T : TypeId} {A : Option Addr} {n c : Nat} {xs : List Value} (h : w.ownsRow B T 1 (.slice A n c) n xs) : n ≤ c ∧ c ≤ 9223372036854775807 := by
 rcases h.2 with ⟨h, rfl⟩ | ⟨g, cap, cur, hv, _, _, h1, h2, _⟩
 ·injection h with _ _ h; omega
 ·injection hv with _ _ hv; subst hv; unfold maxLen at h2; omega
theorem wf_i64 {x : Int} (h : (Lit.int .i64 x).wf = true) : -9223372036854775808 ≤ x ∧ x ≤ 9223372036854775807 := by
 have h1 : IntKind.i64.min = -9223372036854775808 := rfl
 have h2 : IntKind.i64.max = 9223372036854775807 := rfl
 simp only [Lit.wf, Bool.and_eq_true, decide_eq_true_eq, h1, h2] at h
 omega
theorem below_drewN {B : Nat} {a w : World} (h : Below B a w) (n : Nat) : Below B a (w.drewN n) := ⟨h.os, h.tape, h.output, h.size, h.block⟩
theorem own_below {w w' : World} {B : Nat} {T : TypeId} {v : Value} {n : Nat} {xs : List Value} (h : w.ownsRow B T 1 v n xs) (hb : Below w.heap.size w w') : w'.ownsRow B T 1 v n xs := by
 refine ⟨h.1, ?_⟩
 rcases h.2 with h | ⟨g, cap, cur, e, hg, hh, h⟩
 ·exact .inl h
 ·refine .inr ⟨g, cap, cur, e, hg, ?_, h⟩
  rw [hb.block g ?_]; exact hh
  rcases Nat.lt_or_ge g w.heap.size with h | h
  ·exact h
  ·rw [Array.getElem?_eq_none h] at hh; cases hh
theorem own_drewN {w : World} {B : Nat} {T : TypeId} {v : Value} {n : Nat} {xs : List Value} (h : w.ownsRow B T 1 v n xs) (k : Nat) : (w.drewN k).ownsRow B T 1 v n xs := h
theorem own_head {w : World} {B : Nat} {T : TypeId} {A : Option Addr} {n c : Nat} {xs : List Value} (h : w.ownsRow B T 1 (.slice A n c) n xs) (hn : 0 < n) : ∃ g, A = some ⟨g, 0, none⟩ ∧ B ≤ g := by
 rcases h.2 with ⟨_, rfl⟩ | ⟨g, cap, cur, hv, hg, _⟩
 ·omega
 ·injection hv with h1; exact ⟨g, h1, hg⟩
end
section
open Go.RowKit
theorem isU8 : U8 Tryz.prog 31 5 := ⟨Tryz.underlying31, by kernel_rfl⟩
def CatRel (B n p : Nat) (w : World) (pre bs : List UInt8) (v i : Value) (wr : World) : Prop :=
 ∃ k : Nat, k ≤ n ∧ i = .int .i64 k ∧ wr.ownsRow B 5 1 v (p + k) ((pre ++ bs.take k).map bval) ∧ Below B w wr
theorem refCat (A A' : Option Addr) (n m c d : Nat) (xs ys : List UInt8) (w : World) (ha : Rd w w.heap.size A n xs) (hb : Rd w w.heap.size A' m ys) (hn : n + m ≤ 140737488355328) :
  Calls Tryz.prog 81 #[.slice A n c, .slice A' m d] w fun e w' => RetB 5 w (xs ++ ys) e w' := by
 have HA := qH ha
 have HB := qH hb
 clear ha hb
 go_enter Tryz.func81, Tryz.ntmps81
 go_wp2
 go_loopw [5, 6] (fun v i wr => CatRel w.heap.size n 0 w [] xs v i wr) (fun _ i _ => n - (intOf i).toNat)
 case atStart => exact ⟨0, Nat.zero_le _, rfl, by simpa using World.ownsRow_nil w w.heap.size 5 1, Below.refl _ _⟩
 case round =>
  obtain ⟨k, hk, rfl, hown, hbel⟩ := hrel
  have hsz := hbel.size
  by_cases hlt : k < n
  ·obtain ⟨b, o, rfl, hbo, hc⟩ := HA.out.2 (by omega)
   have hcell : wr.cell? ⟨b, o + k, none⟩ = some (.int .u8 (nth xs k : Int)) := (hbel.cell hbo).trans (hc k hlt)
   clear hc
   go_wp2_with (at_builtin; refine wpList_push isU8 rfl _ _ rfl rfl rfl hown hbel hsz (by omega) (xs.getD k 0) rfl ?_; intro v1 w1 hown1 hbel1 hsz1)
   go_roundw
   case rel => exact ⟨k + 1, by omega, by go_num, by rw [take_snoc_getD (by rw [HA.out.1]; omega), ← List.append_assoc]; exact hown1, hbel1⟩
   case measure => simp [intOf]; omega
  ·obtain rfl : k = n := by omega
   go_wp2
   go_loopw [5, 7] (fun v i wr => CatRel w.heap.size m k w xs ys v i wr) (fun _ i _ => m - (intOf i).toNat)
   case atStart => exact ⟨0, Nat.zero_le _, rfl, by simpa [← HA.out.1] using hown, hbel⟩
   case round =>
    obtain ⟨j, hj, rfl, hown, hbel⟩ := hrel
    have hsz := hbel.size
    by_cases hlt : j < m
    ·obtain ⟨b, o, rfl, hbo, hc⟩ := HB.out.2 (by omega)
     have hcell : wr.cell? ⟨b, o + j, none⟩ = some (.int .u8 (nth ys j : Int)) := (hbel.cell hbo).trans (hc j hlt)
     clear hc
     go_wp2_with (at_builtin; refine wpList_push isU8 rfl _ _ rfl rfl rfl hown hbel hsz (by omega) (ys.getD j 0) rfl ?_; intro v1 w1 hown1 hbel1 hsz1)
     go_roundw
     case rel => exact ⟨j + 1, by omega, by go_num, by rw [take_snoc_getD (by rw [HB.out.1]; omega), ← List.append_assoc]; exact hown1, hbel1⟩
     case measure => simp [intOf]; omega
    ·obtain rfl : j = m := by omega
     go_wp2
     go_ret
     exact RetB.mk (by rw [List.take_of_length_le (by rw [HB.out.1]; exact Nat.le_refl _)] at hown; exact hown) hbel
theorem refCopy (A : Option Addr) (n c : Nat) (xs : List UInt8) (w : World) (ha : Rd w w.heap.size A n xs) (hn : n ≤ 140737488355328) :
  Calls Tryz.prog 107 #[.slice A n c] w fun e w' => RetB 5 w xs e w' := by
 have HA := qH ha
 clear ha
 go_enter Tryz.func107, Tryz.ntmps107
 go_wp2_with fail
 refine (refCat none A 0 n 0 c [] xs _ (Rd.nil _ _ _) HA.out (by omega)).mono ?_
 rintro e w1 ⟨A1, n1, c1, rfl, hown, hbel⟩
 go_wp2
 go_ret
 exact RetB.mk hown hbel
end
section
open Go.RowKit
def numsOf (bs : List UInt8) : List Int := bs.map fun b => (b.toNat : Int)
theorem bytesOf_numsOf (bs : List UInt8) : Lib.bytesOf (numsOf bs) = bs := by
 unfold Lib.bytesOf numsOf
 rw [List.map_map]
 have : ((fun n : Int => UInt8.ofNat n.toNat) ∘ fun b : UInt8 => (b.toNat : Int)) = id := by funext b; simp
 rw [this, List.map_id]
theorem Rd.conv {P : Program} {w : World} {B n : Nat} {A : Option Addr} {bs : List UInt8} (h : Rd w B A n bs) (c : Nat) (src e dst : TypeId) (hs : P.underlying src = some (.slice e)) (he : P.underlying e = some (.int .u8)) (hd : P.underlying dst = some .string) :
  (convert src dst (.slice A n c)).run P w = .ok (.string (strOfNums (numsOf bs))) w := by
 rcases Nat.eq_zero_or_pos n with rfl | hn
 ·obtain rfl : bs = [] := List.eq_nil_of_length_eq_zero h.1
  rw [run_convert_bytes_string w src dst e _ 0 c hs he hd]
  cases A <;> simp [Conv.bytesToString, loadCells, numsOf] <;> rfl
 ·obtain ⟨b, o, rfl, _, hc⟩ := h.2 hn
  refine run_convert_bytes_arg (P := P) w src e hs he b o n c (numsOf bs) (by simp [numsOf, h.1]) (fun i hi => ?_) dst hd
  have hl : i < bs.length := by rw [h.1]; exact hi
  rw [hc i hi, nth_of_lt hl]
  simp [numsOf, List.getD, List.getElem?_eq_getElem hl]
theorem bEqual (A A' : Option Addr) (n m c d B : Nat) (xs ys : List UInt8) (w : World) (ha : Rd w B A n xs) (hb : Rd w B A' m ys) :
  Calls Tryz.prog 164 #[.slice A n c, .slice A' m d] w fun e w' => e = .returned (.bool (decide (xs = ys))) ∧ w = w' := by
 have h1 := ha.conv c 31 5 9 Tryz.underlying31 Tryz.underlying5 Tryz.underlying9
 have h2 := hb.conv d 31 5 9 Tryz.underlying31 Tryz.underlying5 Tryz.underlying9
 have e1 : (strOfNums (numsOf xs)).toList = xs := by rw [Lib.strOfNums_toList, bytesOf_numsOf]
 have e2 : (strOfNums (numsOf ys)).toList = ys := by rw [Lib.strOfNums_toList, bytesOf_numsOf]
 generalize strOfNums (numsOf xs) = s1 at *
 generalize strOfNums (numsOf ys) = s2 at *
 have E1 := qH e1
 have E2 := qH e2
 clear e1 e2 ha hb
 go_enter Tryz.func164, Tryz.ntmps164
 go_wp2
 go_ret
 refine ⟨ret_bool ?_, rfl⟩
 rw [E1.out, E2.out]
 rw [Bool.eq_iff_iff]; simp
def RdS (w : World) (B : Nat) (A : Option Addr) (n : Nat) (bss : List (List UInt8)) : Prop :=
 bss.length = n ∧ (0 < n → ∃ b o, A = some ⟨b, o, none⟩ ∧ b < B ∧ ∀ j, j < n → ∃ A' m c, w.cell? ⟨b, o + j, none⟩ = some (.slice A' m c) ∧ Rd w B A' m (bss.getD j []))
def tot (bss : List (List UInt8)) (k : Nat) : Nat := (bss.take k).flatten.length
theorem take_snoc_rows {bss : List (List UInt8)} {k : Nat} (h : k < bss.length) : (bss.take (k + 1)).flatten = (bss.take k).flatten ++ bss.getD k [] := by
 rw [List.take_succ_eq_append_getElem h, List.flatten_append]; simp [List.getD, List.getElem?_eq_getElem h]
theorem tot_succ {bss : List (List UInt8)} {k : Nat} (h : k < bss.length) : tot bss (k + 1) = tot bss k + (bss.getD k []).length := by
 unfold tot; rw [take_snoc_rows h, List.length_append]
theorem tot_le (bss : List (List UInt8)) (k : Nat) : tot bss k ≤ bss.flatten.length := by
 have h : bss.flatten = (bss.take k).flatten ++ (bss.drop k).flatten := by rw [← List.flatten_append, List.take_append_drop]
 unfold tot; rw [h, List.length_append]; omega
def SizeRel (n : Nat) (bss : List (List UInt8)) (s i : Value) : Prop :=
 ∃ k : Nat, k ≤ n ∧ i = .int .i64 (k : Int) ∧ s = .int .i64 ((tot bss k : Nat) : Int)
def CatAllRel (B n : Nat) (w : World) (bss : List (List UInt8)) (v i : Value) (wr : World) : Prop :=
 ∃ k : Nat, k ≤ n ∧ i = .int .i64 (k : Int) ∧ wr.ownsRow B 5 1 v (tot bss k) (((bss.take k).flatten).map bval) ∧ Below B w wr
theorem wCat (A : Option Addr) (n c : Nat) (bss : List (List UInt8)) (w : World) (ha : RdS w w.heap.size A n bss) (hn : n ≤ 140737488355328) (ht : bss.flatten.length ≤ 140737488355328) :
  Calls Tryz.prog 76 #[.slice A n c] w fun e w' => RetB 5 w bss.flatten e w' := by
 have HA := qH ha
 clear ha
 go_enter Tryz.func76, Tryz.ntmps76
 go_wp2
 go_loop [3, 11] (fun s i => SizeRel n bss s i) (fun _ i => n - (intOf i).toNat)
 case atStart => exact ⟨0, Nat.zero_le _, rfl, by simp [tot]⟩
 case round =>
  obtain ⟨k, hk, rfl, rfl⟩ := hrel
  by_cases hlt : k < n
  ·obtain ⟨b, o, rfl, hbo, hc⟩ := HA.out.2 (by omega)
   obtain ⟨A', m, c', hcell, hrd⟩ := hc k hlt
   have ht0 : tot bss k ≤ 140737488355328 := Nat.le_trans (tot_le _ _) ht
   have ht1 : tot bss k + m ≤ 140737488355328 := by
    have h := tot_le bss (k + 1)
    rw [tot_succ (by rw [HA.out.1]; exact hlt), hrd.1] at h; omega
   have HT : Hid (tot bss (k + 1) = tot bss k + m) := by
    have := tot_succ (bss := bss) (k := k) (by rw [HA.out.1]; exact hlt)
    rw [hrd.1] at this; exact this
   clear hc hrd
   generalize tot bss k = t0 at *
   go_wp2
   go_round
   case rel => exact ⟨k + 1, by omega, by go_num, by rw [HT.out]; go_num⟩
   case measure => simp [intOf]; omega
  ·obtain rfl : k = n := by omega
   have ht0 : tot bss k ≤ 140737488355328 := Nat.le_trans (tot_le _ _) ht
   generalize htk : tot bss k = t0 at *
   clear htk
   go_wp2_with (at_make; refine wpList_makeB0 isU8 rfl _ _ rfl t0 rfl rfl rfl (by omega) (Below.refl w.heap.size w) (Nat.le_refl _) ?_; intro w0 hown0 hbel0 hsz0)
   go_loopw [6, 24] (fun v i wr => CatAllRel w.heap.size k w bss v i wr) (fun _ i _ => k - (intOf i).toNat)
   case atStart => exact ⟨0, Nat.zero_le _, rfl, by simpa [tot] using hown0, hbel0⟩
   case round =>
    obtain ⟨j, hj, rfl, hown, hbel⟩ := hrel
    have hsz := hbel.size
    by_cases hlt : j < k
    ·obtain ⟨b, o, rfl, hbo, hc⟩ := HA.out.2 (by omega)
     obtain ⟨A', m, c', hcell0, hrd⟩ := hc j hlt
     have hcell : wr.cell? ⟨b, o + j, none⟩ = some (.slice A' m c') := (hbel.cell hbo).trans hcell0
     have ht1 : tot bss j + m ≤ 140737488355328 := by
      have h := tot_le bss (j + 1)
      rw [tot_succ (by rw [HA.out.1]; exact hlt), hrd.1] at h; omega
     have HR := qH (hrd.below hbel)
     have HT : Hid (tot bss (j + 1) = tot bss j + m) := by
      have := tot_succ (bss := bss) (k := j) (by rw [HA.out.1]; exact hlt)
      rw [hrd.1] at this; exact this
     clear hc hrd hcell0
     go_wp2_with (at_builtin; refine wpList_pushAll isU8 rfl _ _ rfl rfl rfl hown HR.out hbel hsz ht1 ?_; intro v1 w1 hown1 hbel1 hsz1)
     go_roundw
     case rel => exact ⟨j + 1, by omega, by go_num, by rw [HT.out, take_snoc_rows (by rw [HA.out.1]; exact hlt)]; exact hown1, hbel1⟩
     case measure => simp [intOf]; omega
    ·obtain rfl : j = k := by omega
     go_wp2
     go_ret
     exact RetB.mk (by rw [List.take_of_length_le (by rw [HA.out.1]; exact Nat.le_refl _)] at hown; exact hown) hbel
theorem RdS.lit {w : World} (vs : List Value) (T : TypeId) (bss : List (List UInt8)) (hl : bss.length = vs.length)
  (h : ∀ j, j < vs.length → ∃ A m c, vs[j]? = some (.slice A m c) ∧ Rd w w.heap.size A m (bss.getD j [])) :
  RdS (w.alloc (.cells vs.toArray T)) (w.heap.size + 1) (some ⟨w.heap.size, 0, none⟩) vs.length bss := by
 refine ⟨hl, fun _ => ⟨w.heap.size, 0, rfl, by omega, fun j hj => ?_⟩⟩
 obtain ⟨A, m, c, hv, hr⟩ := h j hj
 refine ⟨A, m, c, ?_, ((hr.below ((Below.refl _ _).alloc (Nat.le_refl _) _)).more (by omega))⟩
 rw [World.cell?_alloc_at _ _ _ _ (by rfl)]
 simpa using hv
end
section
open Go.RowKit
theorem Rd.lit {w : World} (bs : List UInt8) (vs : List Value) (T : TypeId) (h : bs.map bval = vs) : Rd (w.alloc (.cells vs.toArray T)) (w.heap.size + 1) (some ⟨w.heap.size, 0, none⟩) vs.length bs := by
 subst h
 refine ⟨by simp, fun hn => ⟨w.heap.size, 0, rfl, by omega, fun j hj => ?_⟩⟩
 have hl : j < bs.length := by simpa using hj
 rw [World.cell?_alloc_at _ _ _ _ (by rfl), nth_of_lt hl]
 simp [hl, bval]
theorem Rd.front {w : World} {B n : Nat} {A : Option Addr} {bs : List UInt8} (h : Rd w B A n bs) {k : Nat} (hk : k ≤ n) : Rd w B A k (bs.take k) := by
 refine ⟨by simp [h.1]; omega, fun h0 => ?_⟩
 obtain ⟨b, o, e, hb, hc⟩ := h.2 (by omega)
 refine ⟨b, o, e, hb, fun j hj => ?_⟩
 rw [hc j (by omega)]
 simp [nth, List.getD, hj]
theorem Rd.grow {w : World} {n : Nat} {A : Option Addr} {bs : List UInt8} (h : Rd w w.heap.size A n bs) (o : Obj) : Rd (w.alloc o) (w.alloc o).heap.size A n bs := h.to ((Below.refl _ _).alloc (Nat.le_refl _) o)
theorem two_blocks (w : World) (c c' : Array Value) (t : TypeId) : ((w.alloc (.cells c t)).alloc (.cells c' t)).heap[w.heap.size]? = some (.cells c t (0, 0)) ∧ ((w.alloc (.cells c t)).alloc (.cells c' t)).heap[w.heap.size + 1]? = some (.cells c' t (0, 0)) := by
 refine ⟨(Below.heap_alloc (w.alloc _) _ w.heap.size (by simp)).trans (heap_alloc_last w _), ?_⟩
 have h := heap_alloc_last (w.alloc (.cells c t)) (.cells c' t)
 rwa [show (w.alloc (.cells c t)).heap.size = w.heap.size + 1 from by simp] at h
theorem below_setRow {B g : Nat} {a w : World} (h : Below B a w) (hg : B ≤ g) (cs : Array Value) : Below B a (w.setRow g cs) :=
 ⟨h.os, h.tape, h.output, by rw [setRow_size]; exact h.size, fun k hk => (setRow_other w g k cs (by omega)).trans (h.block k hk)⟩
theorem RetB.from {T : TypeId} {w0 w w' : World} {bs : List UInt8} {e : Ending} (hb : Below w0.heap.size w0 w) (h : RetB T w bs e w') : RetB T w0 bs e w' := by
 obtain ⟨A, n, c, rfl, hown, hbel⟩ := h
 exact ⟨A, n, c, rfl, own_mono hown hb.size, hb.trans (hbel.mono hb.size)⟩
theorem RetB.is {T : TypeId} {w w' : World} {bs bs' : List UInt8} {e : Ending} (h : RetB T w bs e w') (hb : bs = bs') : RetB T w bs' e w' := hb ▸ h
theorem wCat1 (A : Option Addr) (n c : Nat) (xs : List UInt8) (w : World) (ha : Rd w w.heap.size A n xs) (hn : n ≤ 140737488355328) :
  Calls Tryz.prog 76 #[.slice (some ⟨w.heap.size, 0, none⟩) 1 1] (w.alloc (.cells #[.slice A n c] 31)) fun e w' => RetB 5 w xs e w' := by
 have S := RdS.lit (w := w) [.slice A n c] 31 [xs] rfl (fun j hj => by
  rcases j with _ | j
  ·exact ⟨_, _, _, rfl, ha⟩
  ·simp at hj)
 have hl := ha.1
 exact (wCat _ 1 1 [xs] (w.alloc (.cells #[.slice A n c] 31)) (by simpa using S) (by decide) (by simp; omega)).mono fun e w' h => (h.from ((Below.refl _ _).alloc (Nat.le_refl _) _)).is (by simp)
theorem wCat2 (A A' : Option Addr) (n m c d : Nat) (xs ys : List UInt8) (w : World) (ha : Rd w w.heap.size A n xs) (hb : Rd w w.heap.size A' m ys) (hn : n + m ≤ 140737488355328) :
  Calls Tryz.prog 76 #[.slice (some ⟨w.heap.size, 0, none⟩) 2 2] (w.alloc (.cells #[.slice A n c, .slice A' m d] 31)) fun e w' => RetB 5 w (xs ++ ys) e w' := by
 have S := RdS.lit (w := w) [.slice A n c, .slice A' m d] 31 [xs, ys] rfl (fun j hj => by
  rcases j with _ | _ | j
  ·exact ⟨_, _, _, rfl, ha⟩
  ·exact ⟨_, _, _, rfl, hb⟩
  ·simp at hj; omega)
 have hl := ha.1
 have hl' := hb.1
 exact (wCat _ 2 2 [xs, ys] (w.alloc (.cells #[.slice A n c, .slice A' m d] 31)) (by simpa using S) (by decide) (by simp; omega)).mono fun e w' h => (h.from ((Below.refl _ _).alloc (Nat.le_refl _) _)).is (by simp)
end
section
open Go.RowKit
theorem heap_at_lt {w : World} {g : Nat} {o : Obj} (h : w.heap[g]? = some o) : g < w.heap.size := (Array.getElem?_eq_some_iff.1 h).1
def kv (k : IntKind) (x : Nat) : Value := .int k (x : Int)
def nx (xs : List Nat) (j : Nat) : Nat := xs.getD j 0
theorem nx_of_lt {xs : List Nat} {j : Nat} (h : j < xs.length) : nx xs j = xs[j] := by simp [nx, List.getD, List.getElem?_eq_getElem h]
theorem nx_left {xs ys : List Nat} {j : Nat} (h : j < xs.length) : nx (xs ++ ys) j = nx xs j := by simp [nx, List.getD, List.getElem?_append_left h]
theorem nx_last (xs : List Nat) (y : Nat) : nx (xs ++ [y]) xs.length = y := by simp [nx, List.getD]
def RdK (k : IntKind) (w : World) (B : Nat) (A : Option Addr) (n : Nat) (xs : List Nat) : Prop :=
 xs.length = n ∧ (0 < n → ∃ b o, A = some ⟨b, o, none⟩ ∧ b < B ∧ ∀ j, j < n → w.cell? ⟨b, o + j, none⟩ = some (.int k (nx xs j : Int)))
theorem RdK.keep {k : IntKind} {w w' : World} {B n : Nat} {A : Option Addr} {xs : List Nat} (h : RdK k w B A n xs) (hk : ∀ p : Addr, p.block < B → w'.cell? p = w.cell? p) : RdK k w' B A n xs :=
 ⟨h.1, fun hn => by
  obtain ⟨b, o, e, hb, hc⟩ := h.2 hn
  exact ⟨b, o, e, hb, fun j hj => (hk _ hb).trans (hc j hj)⟩⟩
theorem RdK.more {k : IntKind} {w : World} {B B' n : Nat} {A : Option Addr} {xs : List Nat} (h : RdK k w B A n xs) (hB : B ≤ B') : RdK k w B' A n xs :=
 ⟨h.1, fun hn => by
  obtain ⟨b, o, e, hb, hc⟩ := h.2 hn
  exact ⟨b, o, e, by omega, hc⟩⟩
theorem RdK.below {k : IntKind} {w w' : World} {B n : Nat} {A : Option Addr} {xs : List Nat} (h : RdK k w B A n xs) (hb : Below B w w') : RdK k w' B A n xs := h.keep fun _ hp => hb.cell hp
theorem RdK.to {k : IntKind} {w w' : World} {n : Nat} {A : Option Addr} {xs : List Nat} (h : RdK k w w.heap.size A n xs) (hb : Below w.heap.size w w') : RdK k w' w'.heap.size A n xs := (h.below hb).more hb.size
theorem RdK.of_own {k : IntKind} {w : World} {base : Nat} {T : TypeId} {A : Option Addr} {n c : Nat} {xs : List Nat} (h : w.ownsRow base T 1 (.slice A n c) n (xs.map (kv k))) : RdK k w w.heap.size A n xs := by
 have hl : xs.length = n := by simpa using h.1
 refine ⟨hl, fun hn => ?_⟩
 obtain ⟨g, cap, hv, _, hlt⟩ := h.form hn
 have hA : A = some ⟨g, 0, none⟩ := by injection hv
 subst hA
 refine ⟨g, 0, rfl, hlt, fun j hj => ?_⟩
 have hj' : j < xs.length := by omega
 have := h.cells (g := g) rfl j (kv k xs[j]) (by simp [List.getElem?_eq_getElem hj'])
 rw [nx_of_lt hj']
 have e : (⟨g, 0, none⟩ : Addr).add j = ⟨g, 0 + j, none⟩ := by unfold Addr.add; split <;> simp_all
 rw [← e]; exact this
def RetK (k : IntKind) (T : TypeId) (w : World) (xs : List Nat) (e : Ending) (w' : World) : Prop :=
 ∃ A n c, e = .returned (.slice A n c) ∧ w'.ownsRow w.heap.size T 1 (.slice A n c) n (xs.map (kv k)) ∧ Below w.heap.size w w'
theorem RetK.mk {k : IntKind} {T : TypeId} {w w' : World} {xs : List Nat} {v : Value} {n : Nat} (h : w'.ownsRow w.heap.size T 1 v n (xs.map (kv k))) (hb : Below w.heap.size w w') : RetK k T w xs (.returned v) w' := by
 obtain ⟨A, c, rfl⟩ := own_slice h
 exact ⟨A, n, c, rfl, h, hb⟩
theorem own_top {w : World} {B : Nat} (vs : List Value) (T : TypeId) (hB : B ≤ w.heap.size) (h1 : ∀ u ∈ vs, u.oneCell' = true) (hn : vs.length ≤ 1000) :
  (w.alloc (.cells vs.toArray T)).ownsRow B T 1 (.slice (some ⟨w.heap.size, 0, none⟩) vs.length vs.length) vs.length vs := by
 refine ⟨by simp, .inr ⟨w.heap.size, vs.length, vs.toArray, rfl, hB, heap_alloc_last w _, ?_⟩⟩
 refine ⟨Nat.le_refl _, by unfold maxLen; omega, by simp, ?_⟩
 simp
structure KT (P : Program) (T U : TypeId) (k : IntKind) (bytes : Nat) : Prop where
 ul : P.underlying T = some (.slice U)
 info : (P.info? U).map (fun i => (i.zero, i.size, i.bytes)) = some (some (.int k 0), 1, bytes)
 small : bytes ≤ 8
theorem kvs_one (k : IntKind) (xs : List Nat) : ∀ u ∈ xs.map (kv k), u.oneCell' = true := by
 intro u hu
 obtain ⟨b, _, rfl⟩ := List.mem_map.1 hu
 rfl
theorem wpList_pushK {P : Program} {T U : TypeId} {k : IntKind} {bytes : Nat} (L : KT P T U k bytes) {ops : Array Oper} {rest : List Oper} {o : Oper} {a : Act} {Q : Exit → Act → World → Prop} (hgd : o.guard = none) (s x : Operand)
  (ho : o.op = .call { callee := .builtin .append, args := #[s, x], argTypes := #[T, T] }) {B n : Nat} {w wr : World} {v : Value} {xs : List Nat} {z : Int} (hs : a.eval s = v)
  (hx : a.eval x = .slice (some ⟨wr.heap.size, 0, none⟩) 1 1) (hown : wr.ownsRow B U 1 v n (xs.map (kv k))) (hb : Below B w wr) (hB : B ≤ wr.heap.size) (hk : n + 1 ≤ 17592186044416)
  (y : Nat) (hz : z = (y : Int))
  (h : ∀ v' w1, w1.ownsRow B U 1 v' (n + 1) ((xs ++ [y]).map (kv k)) → Below B w w1 → wr.heap.size ≤ w1.heap.size → wpList P ops Q rest (a.put o.dst v') w1) : wpList P ops Q (o :: rest) a (wr.alloc (.cells #[.int k z] U)) := by
 obtain ⟨i0, hi, hz0, hz1, hz2⟩ := info_parts L.info
 refine wpList_append_own _ hgd s x T ho B U i0 (.int k 0) 1 bytes L.ul hi hz0 hz1 hz2 rfl (by decide) v n _ hs (hown.alloc _) ⟨wr.heap.size, 0, none⟩ 1 1 [.int k z] hx rfl (cell_one_new _ _ _) ?_ ?_ ?_ ?_ ?_
 ·intro u hu; simp at hu; subst hu; rfl
 ·unfold maxLen; omega
 ·have := L.small
  have := Nat.mul_le_mul hk this
  omega
 ·simp; omega
 ·intro v' w1 hown' hgrow _
  have hz' := hgrow.size
  simp at hz'
  refine h v' w1 (by rw [List.map_append]; subst hz; exact hown') ((hb.alloc hB _).grown hgrow (by simp; omega) (fun j hj => (hown.lt j hj).1)) (by omega)
theorem step_pushK {P : Program} {T U : TypeId} {k : IntKind} {bytes : Nat} (L : KT P T U k bytes) {ops : Array Oper} {o : Oper} {a : Act} {K : Act → World → Prop} {Q : Exit → Act → World → Prop} {E : Prop} (hgd : o.guard = none) (s x : Operand)
  (ho : o.op = .call { callee := .builtin .append, args := #[s, x], argTypes := #[T, T] }) {B n g : Nat} {w wx : World} {v : Value} {xs : List Nat} {z : Int} (hs : a.eval s = v)
  (hx : a.eval x = .slice (some ⟨g, 0, none⟩) 1 1) (hblk : wx.heap[g]? = some (.cells #[.int k z] U (0, 0))) (hown : wx.ownsRow B U 1 v n (xs.map (kv k))) (hb : Below B w wx) (hB : B ≤ wx.heap.size) (hk : n + 1 ≤ 17592186044416)
  (y : Nat) (hz : z = (y : Int))
  (h : ∀ v' w1, w1.ownsRow B U 1 v' (n + 1) ((xs ++ [y]).map (kv k)) → Below B w w1 → wx.heap.size ≤ w1.heap.size → K (a.put o.dst v') w1) :
  if Region.wanted o (yielded ops a.tmps) = true then Oper.wp P o a wx K Q else E := by
 obtain ⟨i0, hi, hz0, hz1, hz2⟩ := info_parts L.info
 refine step_append_lies wx hgd s x T ho B U i0 (.int k 0) 1 bytes L.ul hi hz0 hz1 hz2 rfl (by decide) v n _ hs hown ⟨g, 0, none⟩ 1 1 [.int k z] hx rfl (World.news_of_block hblk) ?_ (by decide) ?_ ?_ hB _ rfl ?_
 ·intro u hu; simp at hu; subst hu; rfl
 ·unfold maxLen; omega
 ·have := L.small
  have := Nat.mul_le_mul hk this
  omega
 ·intro g' cap w1 hown' hgrow _ _
  exact h _ w1 (by rw [List.map_append]; subst hz; exact hown') (hb.grown hgrow hB (fun j hj => (hown.lt j hj).1)) hgrow.size
theorem own_cellK {k : IntKind} {wr : World} {B g n cap j : Nat} {U : TypeId} {xs : List Nat} (h : wr.ownsRow B U 1 (.slice (some ⟨g, 0, none⟩) n cap) n (xs.map (kv k))) (hj : j < n) :
  wr.cell? ⟨g, j, none⟩ = some (.int k (nx xs j : Int)) ∧ wr.frozen? ⟨g, j, none⟩ = false := by
 refine ⟨?_, h.frozenAt j⟩
 have hl : xs.length = n := by simpa using h.1
 rw [h.cellAt j (by omega), List.getElem?_map, List.getElem?_eq_getElem (by omega), nx_of_lt (by omega)]
 rfl
def arrB (bs : List UInt8) : Array Value := (bs.map bval).toArray
theorem arrB_size (bs : List UInt8) : (arrB bs).size = bs.length := by simp [arrB]
theorem arrB_set (bs : List UInt8) (j : Nat) (y : UInt8) : (arrB bs).setIfInBounds j (.int .u8 (y.toNat : Int)) = arrB (bs.set j y) := by
 unfold arrB
 rw [List.setIfInBounds_toArray, List.map_set]; rfl
theorem arrB_at {bs : List UInt8} {j : Nat} (h : j < bs.length) : (arrB bs)[j]? = some (.int .u8 (nth bs j : Int)) := by
 simp [arrB, h, nth_of_lt h, bval]
theorem arrB_one (bs : List UInt8) : (arrB bs).all (·.oneCell') = true := by
 rw [Array.all_eq_true]
 intro i hi
 simp [arrB, bval_one]
end
section
open Go.RowKit
theorem Rd.drew' {w : World} {n : Nat} {A : Option Addr} {bs : List UInt8} (h : Rd w w.heap.size A n bs) : Rd w.drew w.drew.heap.size A n bs := h
theorem Rd.setOther {w : World} {B n b o : Nat} {bs : List UInt8} (h : Rd w B (some ⟨b, o, none⟩) n bs) (a : Addr) (u : Value) (hne : b ≠ a.block) : Rd (w.setCell a u) B (some ⟨b, o, none⟩) n bs := by
 refine ⟨h.1, fun hn => ?_⟩
 obtain ⟨b', o', e, hb, hc⟩ := h.2 hn
 refine ⟨b', o', e, hb, fun j hj => ?_⟩
 rw [← hc j hj]
 injection e with e; injection e with e1 e2
 exact World.cell?_of_block (Below.heap_setCell w a u b' (by rw [← e1]; exact hne))
theorem Rd.at {w : World} {B n b o : Nat} {bs : List UInt8} (h : Rd w B (some ⟨b, o, none⟩) n bs) {j : Nat} (hj : j < n) : w.cell? ⟨b, o + j, none⟩ = some (.int .u8 (nth bs j : Int)) := by
 obtain ⟨b', o', e, hb, hc⟩ := h.2 (by omega)
 injection e with e; injection e with e1 e2
 subst e1; subst e2
 exact hc j hj
theorem addr_add_zero (a : Addr) : a.add 0 = a := by
 unfold Addr.add; split <;> simp_all
theorem u8_size {P : Program} {T U : TypeId} (L : U8 P T U) (w : World) : (sizeOf U).run P w = .ok 1 w := by
 obtain ⟨i0, hi, hz0, hz1, hz2⟩ := info_parts L.info
 simp [sizeOf, typeInfo, hi, hz1]
theorem u8_elem {P : Program} {T U : TypeId} (L : U8 P T U) : P.elem T = U := by
 simp [Program.elem, L.ul]
theorem slice_lh {P : Program} {T U : TypeId} (L : U8 P T U) (A : Option Addr) {n c l h : Nat} (h1 : l ≤ h) (h2 : h ≤ n) (hc : n ≤ c) :
  ∃ A' c', (∀ (k k' : IntKind) (w : World), (Instr.slice T (.slice A n c) (some (.int k (l : Int))) (some (.int k' (h : Int))) none).run P w = .ok (.slice A' (h - l) c') w) ∧
   (∀ (w : World) (B : Nat) (bs : List UInt8), Rd w B A n bs → Rd w B A' (h - l) ((bs.take h).drop l)) ∧ h - l ≤ c' ∧ c' ≤ c := by
 refine ⟨if c = l then A else A.map (·.add l), c - l, fun k k' w => ?_, fun w B bs hr => ?_, by omega, by omega⟩
 ·rw [run_slice_lh (ht := by rw [u8_elem L]; exact L.ul) (kl := k) (kh := k') (l := (l : Int)) (h := (h : Int)) (h0 := by omega) (h1 := by omega) (h2 := by omega), u8_elem L, u8_size L]
  simp [Result.andThen, sliced]
 ·refine ⟨by simp [hr.1]; omega, fun h0 => ?_⟩
  obtain ⟨b, o, rfl, hb, _⟩ := hr.2 (by omega)
  have := hr.cut (l := l) (k := h) h1 h2
  obtain ⟨b', o', e, hb', hc'⟩ := this.2 h0
  refine ⟨b', o', ?_, hb', hc'⟩
  rw [if_neg (by omega), ← e]
  simp [Addr.add]
theorem slice_h {P : Program} {T U : TypeId} (L : U8 P T U) (A : Option Addr) {n c h : Nat} (h2 : h ≤ n) (hc : n ≤ c) :
  ∀ (k' : IntKind) (w : World), (Instr.slice T (.slice A n c) none (some (.int k' (h : Int))) none).run P w = .ok (.slice A h c) w := by
 intro k' w
 rw [run_slice_h (ht := by rw [u8_elem L]; exact L.ul) (kh := k') (h := (h : Int)) (h0 := by omega) (h2 := by omega), u8_elem L, u8_size L]
 simp only [Result.andThen, sliced]
 congr 1
 cases A with
 | none => simp
 | some a => simp [addr_add_zero]
theorem slice_l {P : Program} {T U : TypeId} (L : U8 P T U) (A : Option Addr) {n c l : Nat} (h2 : l ≤ n) (hc : n ≤ c) :
  ∃ A' c', (∀ (k : IntKind) (w : World), (Instr.slice T (.slice A n c) (some (.int k (l : Int))) none none).run P w = .ok (.slice A' (n - l) c') w) ∧
   (∀ (w : World) (B : Nat) (bs : List UInt8), Rd w B A n bs → Rd w B A' (n - l) (bs.drop l)) ∧ n - l ≤ c' ∧ c' ≤ c := by
 refine ⟨if c = l then A else A.map (·.add l), c - l, fun k w => ?_, fun w B bs hr => ?_, by omega, by omega⟩
 ·rw [run_slice_l (ht := by rw [u8_elem L]; exact L.ul) (kl := k) (l := (l : Int)) (h0 := by omega) (h1 := by omega), u8_elem L, u8_size L]
  simp [Result.andThen, sliced]
 ·refine ⟨by simp [hr.1], fun h0 => ?_⟩
  obtain ⟨b, o, rfl, hb, _⟩ := hr.2 (by omega)
  have := hr.cut (l := l) (k := n) h2 (Nat.le_refl _)
  rw [List.take_of_length_le (by rw [hr.1]; exact Nat.le_refl _)] at this
  obtain ⟨b', o', e, hb', hc'⟩ := this.2 h0
  refine ⟨b', o', ?_, hb', hc'⟩
  rw [if_neg (by omega), ← e]
  simp [Addr.add]
end
section
open Go.RowKit
theorem xor_u8 (a b : UInt8) : bits .xor .u8 (a.toNat : Int) (b.toNat : Int) = ((a ^^^ b).toNat : Int) := by
 rw [UInt8.toNat_xor]
 exact u8_xor_nat _ _ a.toNat_lt b.toNat_lt
theorem u8_of {z : Int} (h0 : 0 ≤ z) (h : z < 256) : ∃ x : UInt8, z = (x.toNat : Int) := by
 refine ⟨UInt8.ofNat z.toNat, ?_⟩
 rw [← u8_mod]
 omega
def OwR (w : World) (B : Nat) (A : Option Addr) (n : Nat) (bs : List UInt8) : Prop :=
 Rd w w.heap.size A n bs ∧ (0 < n → ∃ b o, A = some ⟨b, o, none⟩ ∧ B ≤ b ∧ ∀ j, j < n → w.frozen? ⟨b, o + j, none⟩ = false)
def RetR (w : World) (bs : List UInt8) (e : Ending) (w' : World) : Prop :=
 ∃ A n c, e = .returned (.slice A n c) ∧ OwR w' w.heap.size A n bs ∧ n ≤ c ∧ c ≤ 9223372036854775807 ∧ Below w.heap.size w w'
theorem OwR.of_own {w : World} {B : Nat} {T : TypeId} {A : Option Addr} {n c : Nat} {bs : List UInt8} (h : w.ownsRow B T 1 (.slice A n c) n (bs.map bval)) : OwR w B A n bs := by
 refine ⟨Rd.of_own h, fun hn => ?_⟩
 obtain ⟨g, rfl, hg⟩ := own_head h hn
 exact ⟨g, 0, rfl, hg, fun j hj => by rw [Nat.zero_add]; exact (own_cell h hj).2⟩
theorem RetB.toR {T : TypeId} {w w' : World} {bs : List UInt8} {e : Ending} (h : RetB T w bs e w') : RetR w bs e w' := by
 obtain ⟨A, n, c, rfl, hown, hb⟩ := h
 obtain ⟨h1, h2⟩ := own_cap hown
 exact ⟨A, n, c, rfl, OwR.of_own hown, h1, h2, hb⟩
theorem OwR.mono {w : World} {B B' n : Nat} {A : Option Addr} {bs : List UInt8} (h : OwR w B A n bs) (hB : B' ≤ B) : OwR w B' A n bs :=
 ⟨h.1, fun hn => by obtain ⟨b, o, e, hb, hf⟩ := h.2 hn; exact ⟨b, o, e, by omega, hf⟩⟩
theorem frozen_below {B : Nat} {w w' : World} {a : Addr} (hb : Below B w w') (h : a.block < B) : w'.frozen? a = w.frozen? a := World.frozen?_of_block (hb.block a.block h)
theorem OwR.to {w w' : World} {B n : Nat} {A : Option Addr} {bs : List UInt8} (h : OwR w B A n bs) (hb : Below w.heap.size w w') : OwR w' B A n bs :=
 ⟨h.1.to hb, fun hn => by
  obtain ⟨b, o, e, hB, hf⟩ := h.2 hn
  obtain ⟨b', o', e', hlt, _⟩ := h.1.2 hn
  rw [e] at e'
  injection e' with e'; injection e' with e1 e2
  subst e1
  exact ⟨b, o, e, hB, fun j hj => (frozen_below hb hlt).trans (hf j hj)⟩⟩
theorem data_len (s : ByteArray) : s.data.toList.length = s.size := by
 rw [Array.length_toList]; rfl
theorem rd_bytesWorld (w : World) (e : TypeId) (s : ByteArray) : Rd (Lib.bytesWorld w e s) (Lib.bytesWorld w e s).heap.size (some ⟨w.heap.size, 0, none⟩) s.size s.data.toList := by
 refine ⟨data_len s, fun hn => ⟨w.heap.size, 0, rfl, by rw [Lib.bytesWorld_size]; omega, fun j hj => ?_⟩⟩
 rw [Nat.zero_add, Lib.bytesWorld_cell w e s j hj]
 rfl
def OwnG (w : World) (B : Nat) (U : TypeId) (v : Value) (n : Nat) (bs : List UInt8) : Prop :=
 bs.length = n ∧ ∃ g cap cur fz, v = .slice (some ⟨g, 0, none⟩) n cap ∧ B ≤ g ∧ w.heap[g]? = some (.cells cur U fz) ∧ (cur.size ≤ fz.1 ∨ fz.2 = 0) ∧ n ≤ cap ∧ cap ≤ maxLen ∧ cur.size = cap ∧ cur.toList.take n = bs.map bval
theorem OwnG.bytesWorld {P : Program} (w : World) (B : Nat) (U : TypeId) (s : ByteArray) (hs : s.size ≤ 1000000) (hB : B ≤ w.heap.size) :
  OwnG (Lib.bytesWorld w U s) B U (.slice (some ⟨w.heap.size, 0, none⟩) s.size (grownCap w s.size 0 U)) s.size s.data.toList := by
 have h1 := grownCap_ge w s.size 0 U
 have h2 := grownCap_le_maxLen w s.size 0 U (by unfold maxLen; omega)
 refine ⟨data_len s, w.heap.size, _, _, _, rfl, hB, Lib.bytesWorld_at_new w U s, .inl (Nat.le_refl _), h1, h2, ?_, ?_⟩
 ·simp only [Lib.bytesCells, Array.size_append, Array.size_map, Array.size_replicate]
  have : s.data.size = s.size := rfl
  omega
 ·simp only [Lib.bytesCells, Array.toList_append, Array.toList_map]
  rw [List.take_left' (by rw [List.length_map, data_len])]
  rfl
theorem OwnG.rd {w : World} {B n : Nat} {U : TypeId} {A : Option Addr} {c : Nat} {bs : List UInt8} (h : OwnG w B U (.slice A n c) n bs) : Rd w w.heap.size A n bs ∧ n ≤ c ∧ c ≤ 9223372036854775807 := by
 obtain ⟨hl, g, cap, cur, fz, e, hB, hg, hz, h1, h2, h3, h4⟩ := h
 injection e with e1 e2 e3
 subst e1; subst e3
 refine ⟨⟨hl, fun hn => ⟨g, 0, rfl, heap_at_lt hg, fun j hj => ?_⟩⟩, h1, by unfold maxLen at h2; omega⟩
 rw [Nat.zero_add, cell_of_row _ _ j _ _ fz hg]
 have hj' : j < bs.length := by omega
 have := congrArg (fun l => l[j]?) h4
 simp only [List.getElem?_take, if_pos hj, List.getElem?_map, List.getElem?_eq_getElem hj', Option.map_some] at this
 rw [← Array.getElem?_toList, this, nth_of_lt hj']
 rfl
theorem OwnG.below {w w' : World} {B n : Nat} {U : TypeId} {v : Value} {bs : List UInt8} (h : OwnG w B U v n bs) (hb : Below w.heap.size w w') : OwnG w' B U v n bs := by
 obtain ⟨hl, g, cap, cur, fz, e, hB, hg, rest⟩ := h
 exact ⟨hl, g, cap, cur, fz, e, hB, (hb.block g (heap_at_lt hg)).trans hg, rest⟩
theorem OwnG.slice {w : World} {B n : Nat} {U : TypeId} {v : Value} {bs : List UInt8} (h : OwnG w B U v n bs) : ∃ A c, v = .slice A n c := by
 obtain ⟨hl, g, cap, cur, fz, e, _⟩ := h
 exact ⟨_, _, e⟩
theorem run_storeCells_g (P : Program) (g o : Nat) (t : TypeId) (fz : Nat × Nat) : ∀ (vs : List Value) (i : Nat) (cur : Array Value) (w : World), w.heap[g]? = some (.cells cur t fz) → (cur.size ≤ fz.1 ∨ fz.2 = 0) → o + i + vs.length ≤ cur.size → (∀ v ∈ vs, v.oneCell' = true) →
  (storeCells ⟨g, o, none⟩ vs i).run P w = .ok () (w.setRow g (cur.toList.take (o + i) ++ vs ++ cur.toList.drop (o + i + vs.length)).toArray)
 | [], i, cur, w, hg, _, _, _ => by
  simp only [storeCells, List.append_nil, List.length_nil, Nat.add_zero, List.take_append_drop, Array.toArray_toList]
  rw [setRow_self w g cur t fz hg]
  rfl
 | v :: rest, i, cur, w, hg, hfz, hl, h1 => by
  have hi : o + i < cur.size := by simp at hl; omega
  have hadd : (⟨g, o, none⟩ : Addr).add i = ⟨g, o + i, none⟩ := by unfold Addr.add; split <;> simp_all
  have hcell : w.cell? ⟨g, o + i, none⟩ = some cur[o + i] := by simp [World.cell?, hg, hi]
  have hfro : w.frozen? ⟨g, o + i, none⟩ = false := by
   obtain ⟨lo, hi'⟩ := fz
   simp only [World.frozen?, hg, Bool.and_eq_false_iff, decide_eq_false_iff_not]
   simp only at hfz
   omega
  have hst : (store ((⟨g, o, none⟩ : Addr).add i) v).run P w = .ok () (w.setRow g (cur.setIfInBounds (o + i) v)) := by
   rw [hadd, run_store P w _ v _ (h1 v (by simp)), hcell]
   simp [hfro, setCell_eq_setRow w g (o + i) cur t fz v hg]
  have ih := run_storeCells_g P g o t fz rest (i + 1) (cur.setIfInBounds (o + i) v) (w.setRow g (cur.setIfInBounds (o + i) v)) (setRow_heap w g cur _ t _ hg) (by simpa using hfz) (by simp at hl ⊢; omega) (fun x hx => h1 x (by simp [hx]))
  simp only [storeCells, Sem.run_bind, hst, Result.andThen_ok, ih, setRow_setRow]
  congr 3
  have e := list_seg_step cur.toList (o + i) v rest (by simp at hl ⊢; omega)
  simpa [Array.toList_setIfInBounds, Nat.add_assoc] using e
theorem run_append_g {P : Program} {T U : TypeId} (L : U8 P T U) (ty : TypeId) {w : World} {B n m c : Nat} {v : Value} {bs news : List UInt8} {ad : Addr} (hown : OwnG w B U v n bs)
  (hl : news.length = m) (hnews : ∀ j u, (news.map bval)[j]? = some u → w.cell? (ad.add j) = some u) (hB : B ≤ w.heap.size) (hk : n + m ≤ 140737488355328) :
  ∃ v' w', (Builtin.append_ #[T, T] ty #[v, .slice (some ad) m c]).run P w = .ok v' w' ∧ OwnG w' B U v' (n + m) (bs ++ news) ∧ Below B w w' ∧ w.heap.size ≤ w'.heap.size := by
 obtain ⟨i0, hi, hz0, hz1, hz2⟩ := info_parts L.info
 obtain ⟨hlen, g, cap, cur, fz, rfl, hBg, hg, hfz, h1, h2, h3, h4⟩ := hown
 have hml : (news.map bval).length = m := by simpa using hl
 have hbl : (bs.map bval).length = n := by simpa using hlen
 by_cases hroom : n + m ≤ cap
 ·have hf := run_firstCells_some (P := P) w 1 m ad m c (news.map bval) (by simpa using hml) hnews
  have hst := run_storeCells_g P g n U fz (news.map bval) 0 cur w hg hfz (by rw [hml]; omega) (bvals_one _)
  simp only [Nat.add_zero] at hst
  refine ⟨.slice (some ⟨g, 0, none⟩) (n + m) cap, w.setRow g (cur.toList.take n ++ news.map bval ++ cur.toList.drop (n + (news.map bval).length)).toArray, ?_, ⟨by rw [List.length_append, hlen, hl], g, cap, (cur.toList.take n ++ news.map bval ++ cur.toList.drop (n + (news.map bval).length)).toArray, fz, rfl, hBg, setRow_heap w g cur _ U fz hg, ?_, hroom, h2, ?_, ?_⟩, ⟨rfl, rfl, rfl, by simp, fun k hk => setRow_other w g k _ (by omega)⟩, by simp⟩
  ·simp [Builtin.append_, run_underlying L.ul, sizeOf, typeInfo, hi, hz1, Builtin.lenOf, hroom, hf, Addr.add_lit, hst]
  ·rcases hfz with h | h
   ·left
    simp only [List.size_toArray, List.length_append, List.length_take, List.length_drop, Array.length_toList, hml]
    omega
   ·exact .inr h
  ·simp only [List.size_toArray, List.length_append, List.length_take, List.length_drop, Array.length_toList, hml]
   omega
  ·show List.take (n + m) _ = _
   rw [h4, List.map_append]
   exact List.take_left' (by rw [List.length_append, hbl, hml])
 ·have holds : ∀ j u, (bs.map bval)[j]? = some u → w.cell? ((⟨g, 0, none⟩ : Addr).add j) = some u := by
   intro j u hu
   have hadd : (⟨g, 0, none⟩ : Addr).add j = ⟨g, j, none⟩ := by unfold Addr.add; split <;> simp_all
   rw [hadd, cell_of_row w g j cur U fz hg]
   rw [← h4, List.getElem?_take] at hu
   split at hu
   ·simpa using hu
   ·cases hu
  have hr := run_append_grow (P := P) w T ty U i0 (.int .u8 0) L.ul hi hz0 ⟨g, 0, none⟩ n cap (bs.map bval) (by rw [hz1]; simpa using hbl) holds ad m c (news.map bval) (by rw [hz1]; simpa using hml) hnews (by omega) (by omega) (by rw [hz2]; exact growslice_fits (by omega) (by omega))
  have hge := grownCap_ge w (n + m) cap U
  have hcm2 : grownCap w (n + m) cap U ≤ maxLen := grownCap_le_maxLen w (n + m) cap U (by unfold maxLen; omega)
  refine ⟨_, _, hr, ⟨by rw [List.length_append, hlen, hl], w.heap.size, _, _, (0, 0), rfl, hB, heap_alloc_new w.drew _, .inr rfl, hge, hcm2, ?_, ?_⟩, ⟨rfl, rfl, rfl, by simp, fun k hk => Below.heap_alloc w.drew _ k (Nat.lt_of_lt_of_le hk hB)⟩, by simp⟩
  ·have hz1 : (Value.int IntKind.u8 0).cells.size = 1 := rfl
   simp only [Array.size_append, List.size_toArray, size_zeroCells, hz1, hbl, hml]
   omega
  ·simp only [Array.toList_append, List.append_assoc]
   rw [← List.append_assoc, List.map_append]
   exact List.take_left' (by rw [List.length_append]; simp [hlen, hl])
theorem wpList_pushG {P : Program} {T U : TypeId} (L : U8 P T U) {ops : Array Oper} {rest : List Oper} {o : Oper} {a : Act} {Q : Exit → Act → World → Prop} (hgd : o.guard = none) (s x : Operand)
  (ho : o.op = .call { callee := .builtin .append, args := #[s, x], argTypes := #[T, T] }) {B B' n m c : Nat} {A : Option Addr} {w wr : World} {v : Value} {bs news : List UInt8} (hs : a.eval s = v)
  (hx : a.eval x = .slice A m c) (hm : 0 < m) (hown : OwnG wr B U v n bs) (hr : Rd wr B' A m news) (hb : Below B w wr) (hB : B ≤ wr.heap.size) (hk : n + m ≤ 140737488355328)
  (h : ∀ v' w1, OwnG w1 B U v' (n + m) (bs ++ news) → Below B w w1 → wr.heap.size ≤ w1.heap.size → wpList P ops Q rest (a.put o.dst v') w1) : wpList P ops Q (o :: rest) a wr := by
 obtain ⟨b, of, rfl, _, hc⟩ := hr.2 hm
 have hlen : news.length = m := hr.1
 obtain ⟨v', w', hrun, h2, h3, h4⟩ := run_append_g L o.type (c := c) (ad := ⟨b, of, none⟩) hown hlen (fun j u hu => by
  have hj : j < m := by
   rcases Nat.lt_or_ge j m with g | g
   ·exact g
   ·rw [List.getElem?_eq_none (by simpa [hlen] using g)] at hu; cases hu
  have e : (⟨b, of, none⟩ : Addr).add j = ⟨b, of + j, none⟩ := by unfold Addr.add; split <;> simp_all
  rw [e, hc j hj, ← hu, List.getElem?_map, List.getElem?_eq_getElem (by omega), nth_of_lt (by omega)]
  rfl) hB hk
 refine wpList_plain hgd fun K hK => ?_
 unfold Oper.wp execOp
 simp only [ho, resolve, invoke, builtin, Sem.run_bind, Sem.run_pure, Result.andThen_ok, List.map_toArray, List.map_cons, List.map_nil, hs, hx, hrun]
 exact hK _ _ (h v' w' h2 (hb.trans h3) h4)
structure Keep (R : Nat → Prop) (w w' : World) : Prop where
 os : w'.os = w.os
 tape : w'.tape = w.tape
 output : w'.output = w.output
 size : w.heap.size ≤ w'.heap.size
 block : ∀ k, k < w.heap.size → ¬ R k → w'.heap[k]? = w.heap[k]?
theorem Keep.refl (R : Nat → Prop) (w : World) : Keep R w w := ⟨rfl, rfl, rfl, Nat.le_refl _, fun _ _ _ => rfl⟩
theorem Keep.trans {R : Nat → Prop} {a b c : World} (h : Keep R a b) (h' : Keep R b c) : Keep R a c :=
 ⟨h'.os.trans h.os, h'.tape.trans h.tape, h'.output.trans h.output, Nat.le_trans h.size h'.size, fun k hk hr => (h'.block k (Nat.lt_of_lt_of_le hk h.size) hr).trans (h.block k hk hr)⟩
theorem Keep.of_below {R : Nat → Prop} {w w' : World} (h : Below w.heap.size w w') : Keep R w w' := ⟨h.os, h.tape, h.output, h.size, fun k hk _ => h.block k hk⟩
theorem Keep.more {R R' : Nat → Prop} {w w' : World} (h : Keep R w w') (hr : ∀ k, R k → R' k) : Keep R' w w' := ⟨h.os, h.tape, h.output, h.size, fun k hk hn => h.block k hk (fun h => hn (hr k h))⟩
theorem Keep.below {R : Nat → Prop} {B : Nat} {a w w' : World} (hb : Below B a w) (h : Keep R w w') (hB : B ≤ w.heap.size) (hr : ∀ k, R k → B ≤ k) : Below B a w' :=
 hb.trans ⟨h.os, h.tape, h.output, h.size, fun k hk => h.block k (Nat.lt_of_lt_of_le hk hB) (fun hk' => by have := hr k hk'; omega)⟩
theorem Keep.new {R : Nat → Prop} {a w w' : World} (h : Keep R a w) (h' : Keep (fun k => R k ∨ a.heap.size ≤ k) w w') : Keep R a w' :=
 ⟨h'.os.trans h.os, h'.tape.trans h.tape, h'.output.trans h.output, Nat.le_trans h.size h'.size, fun k hk hr =>
  (h'.block k (Nat.lt_of_lt_of_le hk h.size) (fun h => by rcases h with h | h; exact hr h; omega)).trans (h.block k hk hr)⟩
theorem Keep.setCell {R : Nat → Prop} {a w : World} (h : Keep R a w) (p : Addr) (v : Value) (hr : R p.block) : Keep R a (w.setCell p v) :=
 ⟨h.os, h.tape, h.output, by simpa using h.size, fun k hk hn => (Below.heap_setCell w p v k (by intro e; subst e; exact hn hr)).trans (h.block k hk hn)⟩
theorem Keep.drewN {R : Nat → Prop} {a w : World} (h : Keep R a w) (n : Nat) : Keep R a (w.drewN n) := ⟨h.os, h.tape, h.output, h.size, h.block⟩
theorem Keep.drew {R : Nat → Prop} {a w : World} (h : Keep R a w) : Keep R a w.drew := ⟨h.os, h.tape, h.output, h.size, h.block⟩
theorem Keep.cell {R : Nat → Prop} {w w' : World} (h : Keep R w w') {a : Addr} (hl : a.block < w.heap.size) (hn : ¬ R a.block) : w'.cell? a = w.cell? a := World.cell?_of_block (h.block _ hl hn)
def Off (A : Option Addr) (n : Nat) (R : Nat → Prop) : Prop := 0 < n → ∀ b o, A = some ⟨b, o, none⟩ → ¬ R b
theorem Rd.kept {R : Nat → Prop} {w w' : World} {n : Nat} {A : Option Addr} {bs : List UInt8} (h : Rd w w.heap.size A n bs) (hk : Keep R w w') (ho : Off A n R) : Rd w' w'.heap.size A n bs :=
 ⟨h.1, fun hn => by
  obtain ⟨b, o, e, hb, hc⟩ := h.2 hn
  exact ⟨b, o, e, Nat.lt_of_lt_of_le hb hk.size, fun j hj => by rw [← hc j hj]; exact hk.cell hb (ho hn b o e)⟩⟩
theorem OwR.kept {R : Nat → Prop} {w w' : World} {B n : Nat} {A : Option Addr} {bs : List UInt8} (h : OwR w B A n bs) (hk : Keep R w w') (ho : Off A n R) : OwR w' B A n bs :=
 ⟨h.1.kept hk ho, fun hn => by
  obtain ⟨b, o, e, hB, hf⟩ := h.2 hn
  obtain ⟨b', o', e', hlt, _⟩ := h.1.2 hn
  rw [e] at e'
  injection e' with e'; injection e' with e1 e2
  subst e1
  exact ⟨b, o, e, hB, fun j hj => (World.frozen?_of_block (hk.block _ hlt (ho hn b o e))).trans (hf j hj)⟩⟩
theorem OwR.off {w : World} {B n : Nat} {A : Option Addr} {bs : List UInt8} (h : OwR w B A n bs) {R : Nat → Prop} (hr : ∀ k, R k → k < B) : Off A n R := fun hn b o e hb => by
 obtain ⟨b', o', e', hB, _⟩ := h.2 hn
 rw [e] at e'
 injection e' with e'; injection e' with e1 _
 have := hr b hb
 omega
theorem Rd.off {w : World} {n : Nat} {A : Option Addr} {bs : List UInt8} {B : Nat} (h : Rd w B A n bs) {R : Nat → Prop} (hr : ∀ k, R k → B ≤ k) : Off A n R := fun hn b o e hb => by
 obtain ⟨b', o', e', hB, _⟩ := h.2 hn
 rw [e] at e'
 injection e' with e'; injection e' with e1 _
 have := hr b hb
 omega
end
section
open Go.RowKit Go.ChangeShapes Go.WideShapes Go.Deep
theorem add_none {b o j : Nat} : (⟨b, o, none⟩ : Addr).add j = ⟨b, o + j, none⟩ := by unfold Addr.add; split <;> simp_all
theorem cell_block {w : World} {a : Addr} {v : Value} (h : w.cell? a = some v) : a.block < w.heap.size := by
 rcases Nat.lt_or_ge a.block w.heap.size with g | g
 ·exact g
 ·have e : w.cell? a = none := by
   obtain ⟨b, o, s⟩ := a
   simp only [World.cell?]
   simp only at g
   rw [Array.getElem?_eq_none g]
  rw [e] at h; cases h
theorem mem_weightsAll {H : Type} {P : Program} {e : TypeId} {x : Nat} : ∀ {l : List (DataW H)} {d : DataW H}, d ∈ l → x ∈ d.weights P e → x ∈ DataW.weightsAll P e l
 | y :: l, d, hd, hx => by
  rcases List.mem_cons.1 hd with rfl | hd
  ·simp [DataW.weightsAll, hx]
  ·have := mem_weightsAll hd hx
   simp [DataW.weightsAll, this]
end
section
open Go.RowKit
theorem run_part {P : Program} {w : World} {e : TypeId} {k : IntKind} (he : P.underlying e = some (.int k)) (cs : Array Value) (i : Nat) (v : Value) (hv : cs[i]? = some v) :
  (part e cs i).run P w = .ok v w := by
 simp [part, isAgg, Sem.run_bind, run_underlying he, Result.andThen, hv]
theorem run_eqLoop {P : Program} {e : TypeId} {k k' : IntKind} (he : P.underlying e = some (.int k)) (d : Nat) (xs ys : Array Value) (X Y : List Nat) (hX : ∀ i, i < X.length → xs[i]? = some (.int k' (nx X i : Int))) (hY : ∀ i, i < Y.length → ys[i]? = some (.int k' (nx Y i : Int)))
  (hl : X.length = Y.length) (w : World) :
  ∀ (l : List Nat), (∀ i ∈ l, i < X.length) →
  ((forIn l ((none, ()) : Option Bool × Unit) (fun i _ => do
    if (!(← Op.equalIn (d + 1) e (← part e xs (i * 1)) (← part e ys (i * 1)))) = true then pure (ForInStep.done (some false, ()))
    else pure (ForInStep.yield (none, ())))) : Sem (Option Bool × Unit)).run P w =
   .ok (if l.all (fun i => nx X i == nx Y i) then (none, ()) else (some false, ())) w := by
 intro l
 induction l with
 | nil => intro _; simp [Sem.run_pure]
 | cons i l ih =>
  intro h
  have hi : i < X.length := h i (by simp)
  have h1 := run_part (w := w) he xs i _ (hX i hi)
  have h2 := run_part (w := w) he ys i _ (hY i (by omega))
  simp only [List.forIn_cons, Sem.run_bind, Nat.mul_one, h1, h2, Result.andThen, run_equalIn_int w d e k' k _ _ he]
  by_cases hxy : nx X i = nx Y i
  ·have ih' := ih (fun j hj => h j (by simp [hj]))
   simp at ih'
   simp [hxy, Sem.run_pure]
   exact ih'
  ·have : ((nx X i : Int) == (nx Y i : Int)) = false := by simp; omega
   simp [this, hxy, Sem.run_pure]
theorem all_nx {X Y : List Nat} {n : Nat} (hl : X.length = n) (hl' : Y.length = n) : (List.range n).all (fun i => nx X i == nx Y i) = decide (X = Y) := by
 rw [Bool.eq_iff_iff]
 simp only [List.all_eq_true, List.mem_range, beq_iff_eq, decide_eq_true_eq]
 constructor
 ·intro h
  refine List.ext_getElem (by omega) fun i h1 h2 => ?_
  have := h i (by omega)
  rwa [nx_of_lt h1, nx_of_lt h2] at this
 ·rintro rfl i _; rfl
theorem run_equalIn_arr {P : Program} {t e : TypeId} {n : Nat} {k : IntKind} (ht : P.underlying t = some (.array n e)) (he : P.underlying e = some (.int k)) (hs : ∀ w : World, (sizeOf e).run P w = .ok 1 w) (d : Nat) (xs ys : Array Value) (k' : IntKind) (X Y : List Nat)
  (hX : ∀ i, i < X.length → xs[i]? = some (.int k' (nx X i : Int))) (hY : ∀ i, i < Y.length → ys[i]? = some (.int k' (nx Y i : Int))) (hl : X.length = n) (hl' : Y.length = n) (w : World) :
  (Op.equalIn (d + 2) t (.agg xs) (.agg ys)).run P w = .ok (decide (X = Y)) w := by
 have h := run_eqLoop he d xs ys X Y hX hY (by omega) w (List.range n) (fun i hi => by simpa [hl] using hi)
 rw [all_nx hl hl'] at h
 generalize hd : d + 1 = d1 at h
 rw [show d + 2 = d1 + 1 from by omega]
 simp only [Op.equalIn, Sem.run_bind, run_underlying ht, Result.andThen_ok, hs]
 rw [Std.Legacy.Range.forIn_eq_forIn_range']
 simp only [Std.Legacy.Range.size, Nat.sub_zero, Nat.add_sub_cancel, Nat.div_one, List.range_eq_range'] at h ⊢
 rw [h]
 simp only [Result.andThen]
 by_cases e : X = Y
 ·simp [e, Sem.run_pure]
 ·simp [e, Sem.run_pure]
theorem run_eql_arr {P : Program} {t e : TypeId} {n : Nat} {k : IntKind} (ht : P.underlying t = some (.array n e)) (he : P.underlying e = some (.int k)) (hs : ∀ w : World, (sizeOf e).run P w = .ok 1 w) (xs ys : Array Value) (k' : IntKind) (X Y : List Nat)
  (hX : ∀ i, i < X.length → xs[i]? = some (.int k' (nx X i : Int))) (hY : ∀ i, i < Y.length → ys[i]? = some (.int k' (nx Y i : Int))) (hl : X.length = n) (hl' : Y.length = n) (w : World) :
  (Op.equalIn 10000 t (.agg xs) (.agg ys)).run P w = .ok (decide (X = Y)) w := run_equalIn_arr ht he hs 9998 xs ys k' X Y hX hY hl hl' w
theorem run_eql_arrB {P : Program} {t e : TypeId} {n : Nat} (ht : P.underlying t = some (.array n e)) (he : P.underlying e = some (.int .u8)) (hs : ∀ w : World, (sizeOf e).run P w = .ok 1 w) (a b : List UInt8) (ha : a.length = n) (hb : b.length = n) (w : World) :
  (Op.equalIn 10000 t (.agg (arrB a)) (.agg (arrB b))).run P w = .ok (decide (a = b)) w := by
 have hX : ∀ c : List UInt8, ∀ i, i < (c.map UInt8.toNat).length → (arrB c)[i]? = some (.int .u8 (nx (c.map UInt8.toNat) i : Int)) := fun c i hi => by
  have hi' : i < c.length := by simpa using hi
  rw [arrB_at hi', nx_of_lt hi, nth_of_lt hi']
  simp
 rw [run_eql_arr ht he hs _ _ .u8 (a.map UInt8.toNat) (b.map UInt8.toNat) (hX a) (hX b) (by simpa using ha) (by simpa using hb)]
 congr 1
 rw [Bool.eq_iff_iff]
 simp only [decide_eq_true_eq]
 constructor
 ·intro h
  exact (List.map_inj_right (fun x y hxy => UInt8.toNat_inj.1 hxy)).1 h
 ·rintro rfl; rfl
theorem sizeOf_one {P : Program} {e : TypeId} (h : (P.info? e).map (·.size) = some 1) (w : World) : (sizeOf e).run P w = .ok 1 w := by
 cases hi : P.info? e with
 | none => rw [hi] at h; cases h
 | some i => rw [hi] at h; simp at h; simp [sizeOf, typeInfo, hi, h]
theorem run_index_arr {P : Program} {t e : TypeId} {n : Nat} {k : IntKind} (ht : P.underlying t = some (.array n e)) (he : P.underlying e = some (.int k)) (hs : ∀ w : World, (sizeOf e).run P w = .ok 1 w) (cs : Array Value) (j : Nat) (hj : j < n) (v : Value) (hv : cs[j]? = some v) (w : World) :
  (Instr.index t (.agg cs) (.int .i64 (j : Int))).run P w = .ok v w := by
 have h1 : (0 : Int) ≤ (j : Int) ∧ (j : Int) < (n : Int) := by omega
 simp [Instr.index, Sem.run_bind, run_underlying ht, Result.andThen, asIntOf, hs, hj, run_part he cs j v hv]
end
section
open Go.RowKit
def padTo (bs : List UInt8) (k : Int) : List UInt8 := bs ++ List.replicate ((min k 65536).toNat - bs.length) 0
theorem wPadded (A : Option Addr) (n c : Nat) (k : Int) (bs : List UInt8) (w : World) (ha : Rd w w.heap.size A n bs) (hn : n ≤ 1000000) (hk : -9223372036854775808 ≤ k) (hk' : k ≤ 9223372036854775807) :
  Calls Tryz.prog 182 #[.slice A n c, .int .i64 k] w fun e w' => RetB 5 w (padTo bs k) e w' := by
 obtain ⟨s, hs, hs1, hs2, hs3⟩ : ∃ s : Nat, max (n : Int) (min k 65536) = (s : Int) ∧ n ≤ s ∧ s ≤ 1065536 ∧ s - n = (min k 65536).toNat - n := by
  refine ⟨(max (n : Int) (min k 65536)).toNat, ?_, ?_, ?_, ?_⟩ <;> omega
 have HA := qH ha
 have HS3 := qH hs3
 clear ha hs3
 go_enter Tryz.func182, Tryz.ntmps182
 go_wp2_with (at_make; refine wpList_makeB isU8 rfl _ _ rfl (s - n) rfl rfl (by omega) (by omega) (by omega) (Below.refl w.heap.size w) (Nat.le_refl _) ?_; intro w1 hown1 hbel1 hsz1)
 have R1 := qH (Rd.of_own hown1)
 have A1 := qH (HA.out.to hbel1)
 clear hown1
 have S2 := RdS.lit (w := w1) [.slice A n c, .slice (some ⟨w.heap.size, 0, none⟩) (s - n) (s - n)] 31 [bs, List.replicate (s - n) 0] rfl (fun j hj => by
  rcases j with _ | _ | j
  ·exact ⟨_, _, _, rfl, A1.out⟩
  ·exact ⟨_, _, _, rfl, R1.out⟩
  ·simp at hj; omega)
 have hf : [bs, List.replicate (s - n) (0 : UInt8)].flatten = bs ++ List.replicate (s - n) 0 := by simp
 have hlen : (bs ++ List.replicate (s - n) (0 : UInt8)).length ≤ 1065536 := by
  have := HA.out.1; simp; omega
 have hb2 : Below w.heap.size w (w1.alloc (.cells #[.slice A n c, .slice (some ⟨w.heap.size, 0, none⟩) (s - n) (s - n)] 31)) := hbel1.alloc hbel1.size _
 have HB2 := qH hb2
 have HF := qH hf
 clear hb2 hf
 refine (wCat _ 2 2 [bs, List.replicate (s - n) 0] _ (by simpa using S2) (by decide) (by rw [HF.out]; omega)).mono ?_
 generalize w1.alloc (.cells #[.slice A n c, .slice (some ⟨w.heap.size, 0, none⟩) (s - n) (s - n)] 31) = w2 at *
 rintro e w3 ⟨A3, n3, c3, rfl, hown3, hbel3⟩
 rw [HF.out] at hown3
 have O3 := qH (RetB.mk (own_mono hown3 HB2.out.size) (HB2.out.trans (hbel3.mono HB2.out.size)))
 clear hown3 hbel3
 go_wp2
 go_ret
 have h := O3.out
 rw [HS3.out, ← HA.out.1] at h
 exact h
end
end Go.Proofs.YtlmdidblgeeplaaGreatDoor