/- Plain words for byte slices: a slice value that reads as a list of bytes (Rd), what a function hands back in new memory (RetB), and small lemmas on them. No program is named here but by the type number of uint8 as a parameter. -/
import Derived.Test.YtffdjnhhmfpkgaaGreatTz
import Derived.WalkKit
import Derived.Handy
import Derived.Below
import Derived.Laws.OwnMore
import Derived.Maps.AppendAt
import Derived.Deep.AppendLies
import Derived.Deep.Draws
import Derived.Deep.QuietTactic
import Derived.BigQuiet
import Derived.Lib.Hide
import Derived.ProofKit
import Derived.OpenShut
import Derived.Deep.DeepMust
import Derived.Deep.DeepFit
namespace Go.Proofs.YtffdjnhhmfpkgaaGreat
set_option maxRecDepth 1000000
set_option maxHeartbeats 8000000
open Go.RowKit
set_option linter.unusedVariables false
def nth (bs : List UInt8) (j : Nat) : Nat := (bs.getD j 0).toNat
theorem nth_lt (bs : List UInt8) (j : Nat) : nth bs j < 256 := by
 unfold nth; exact (bs.getD j 0).toNat_lt
theorem nth_of_lt {bs : List UInt8} {j : Nat} (h : j < bs.length) : nth bs j = bs[j].toNat := by
 simp [nth, List.getD, List.getElem?_eq_getElem h]
theorem u8_mod (y : Nat) : ((y : Int) % 256) = ((UInt8.ofNat y).toNat : Int) := by
 have e : (UInt8.ofNat y).toNat = y % 256 := UInt8.toNat_ofNat'
 rw [e]; omega
def bval (b : UInt8) : Value := .int .u8 (b.toNat : Int)
theorem take_snoc_b {bs : List UInt8} {k : Nat} (h : k < bs.length) : bs.take (k + 1) = bs.take k ++ [bs[k]] := by
 rw [List.take_succ_eq_append_getElem h]
theorem take_snoc_bval {bs : List UInt8} {k : Nat} (h : k < bs.length) :
  (bs.take (k + 1)).map bval = (bs.take k).map bval ++ [.int .u8 (nth bs k : Int)] := by
 rw [take_snoc_b h, nth_of_lt h, List.map_append]; rfl
theorem take_snoc_getD {bs : List UInt8} {k : Nat} (h : k < bs.length) : bs.take (k + 1) = bs.take k ++ [bs.getD k 0] := by
 rw [take_snoc_b h]; simp [List.getD, List.getElem?_eq_getElem h]
theorem rev_getD {bs : List UInt8} {i j : Nat} (h : i + j + 1 = bs.length) : bs.reverse.getD i 0 = bs.getD j 0 := by
 have h1 : i < bs.length := by omega
 have h2 : bs.length - 1 - i = j := by omega
 simp only [List.getD, List.getElem?_reverse h1, h2]
theorem bval_one (b : UInt8) : (bval b).oneCell' = true := rfl
theorem bvals_one (bs : List UInt8) : ∀ u ∈ bs.map bval, u.oneCell' = true := by
 intro u hu
 obtain ⟨b, _, rfl⟩ := List.mem_map.1 hu
 rfl
def Rd (w : World) (B : Nat) (A : Option Addr) (n : Nat) (bs : List UInt8) : Prop :=
 bs.length = n ∧ (0 < n → ∃ b o, A = some ⟨b, o, none⟩ ∧ b < B ∧ ∀ j, j < n → w.cell? ⟨b, o + j, none⟩ = some (.int .u8 (nth bs j : Int)))
theorem Rd.len {w : World} {B n : Nat} {A : Option Addr} {bs : List UInt8} (h : Rd w B A n bs) : bs.length = n := h.1
theorem Rd.nil (w : World) (B : Nat) (A : Option Addr) : Rd w B A 0 [] := ⟨rfl, fun h => absurd h (Nat.lt_irrefl 0)⟩
theorem Rd.keep {w w' : World} {B n : Nat} {A : Option Addr} {bs : List UInt8} (h : Rd w B A n bs) (hk : ∀ p : Addr, p.block < B → w'.cell? p = w.cell? p) : Rd w' B A n bs :=
 ⟨h.1, fun hn => by
  obtain ⟨b, o, e, hb, hc⟩ := h.2 hn
  exact ⟨b, o, e, hb, fun j hj => (hk _ hb).trans (hc j hj)⟩⟩
theorem Rd.more {w : World} {B B' n : Nat} {A : Option Addr} {bs : List UInt8} (h : Rd w B A n bs) (hB : B ≤ B') : Rd w B' A n bs :=
 ⟨h.1, fun hn => by
  obtain ⟨b, o, e, hb, hc⟩ := h.2 hn
  exact ⟨b, o, e, by omega, hc⟩⟩
theorem Rd.below {w w' : World} {B n : Nat} {A : Option Addr} {bs : List UInt8} (h : Rd w B A n bs) (hb : Below B w w') : Rd w' B A n bs := h.keep fun _ hp => hb.cell hp
theorem Rd.to {w w' : World} {n : Nat} {A : Option Addr} {bs : List UInt8} (h : Rd w w.heap.size A n bs) (hb : Below w.heap.size w w') : Rd w' w'.heap.size A n bs := (h.below hb).more hb.size
theorem Rd.drewN {w : World} {B n : Nat} {A : Option Addr} {bs : List UInt8} (h : Rd w B A n bs) (k : Nat) : Rd (w.drewN k) B A n bs := h
theorem Rd.cut {w : World} {B n : Nat} {b o : Nat} {bs : List UInt8} (h : Rd w B (some ⟨b, o, none⟩) n bs) {l k : Nat} (hl : l ≤ k) (hk : k ≤ n) :
  Rd w B (some ⟨b, o + l, none⟩) (k - l) ((bs.take k).drop l) := by
 refine ⟨by simp [h.1, Nat.min_eq_left hk], fun hn => ?_⟩
 obtain ⟨b', o', e, hb, hc⟩ := h.2 (by omega)
 simp only [Option.some.injEq, Addr.mk.injEq, and_true] at e
 obtain ⟨rfl, rfl⟩ := e
 refine ⟨_, _, rfl, hb, fun j hj => ?_⟩
 rw [Nat.add_assoc, hc (l + j) (by omega)]
 congr 3
 unfold nth
 have : l + j < k := by omega
 simp [List.getD, List.getElem?_drop, this]
def RetB (T : TypeId) (w : World) (bs : List UInt8) (e : Ending) (w' : World) : Prop :=
 ∃ A n c, e = .returned (.slice A n c) ∧ w'.ownsRow w.heap.size T 1 (.slice A n c) n (bs.map bval) ∧ Below w.heap.size w w'
def RetQ (w : World) (v : Value) (e : Ending) (w' : World) : Prop := e = .returned v ∧ ∃ k, w' = w.drewN k
theorem ret_int {k : IntKind} {a b : Int} (h : a = b) : Ending.returned (.int k a) = .returned (.int k b) := by rw [h]
theorem ret_bool {a b : Bool} (h : a = b) : Ending.returned (.bool a) = .returned (.bool b) := by rw [h]
theorem drew2 (w : World) (a b : Nat) : ∃ k, (w.drewN a).drewN b = w.drewN k := ⟨_, World.drewN_drewN _ _ _⟩
theorem drew3 (w : World) (a b c : Nat) : ∃ k, ((w.drewN a).drewN b).drewN c = w.drewN k := by rw [World.drewN_drewN]; exact drew2 _ _ _
theorem own_slice {w : World} {base : Nat} {T : TypeId} {v : Value} {n : Nat} {xs : List Value} (h : w.ownsRow base T 1 v n xs) : ∃ A c, v = .slice A n c := by
 rcases h.2 with ⟨rfl, rfl⟩ | ⟨g, cap, cur, rfl, _⟩
 ·exact ⟨_, _, rfl⟩
 ·exact ⟨_, _, rfl⟩
theorem own_mono {w : World} {B B' : Nat} {T : TypeId} {v : Value} {n : Nat} {xs : List Value} (h : w.ownsRow B T 1 v n xs) (hB : B' ≤ B) : w.ownsRow B' T 1 v n xs := by
 refine ⟨h.1, ?_⟩
 rcases h.2 with h | ⟨g, cap, cur, e, hg, h⟩
 ·exact .inl h
 ·exact .inr ⟨g, cap, cur, e, by omega, h⟩
theorem RetB.mk {T : TypeId} {w w' : World} {bs : List UInt8} {v : Value} {n : Nat} (h : w'.ownsRow w.heap.size T 1 v n (bs.map bval)) (hb : Below w.heap.size w w') : RetB T w bs (.returned v) w' := by
 obtain ⟨A, c, rfl⟩ := own_slice h
 exact ⟨A, n, c, rfl, h, hb⟩
theorem Rd.of_own {w : World} {base : Nat} {T : TypeId} {A : Option Addr} {n c : Nat} {bs : List UInt8} (h : w.ownsRow base T 1 (.slice A n c) n (bs.map bval)) : Rd w w.heap.size A n bs := by
 have hl : bs.length = n := by simpa using h.1
 refine ⟨hl, fun hn => ?_⟩
 obtain ⟨g, cap, hv, _, hlt⟩ := h.form hn
 have hA : A = some ⟨g, 0, none⟩ := by injection hv
 subst hA
 refine ⟨g, 0, rfl, hlt, fun j hj => ?_⟩
 have hj' : j < bs.length := by omega
 have := h.cells (g := g) rfl j (bval bs[j]) (by simp [List.getElem?_eq_getElem hj'])
 rw [nth_of_lt hj']
 have e : (⟨g, 0, none⟩ : Addr).add j = ⟨g, 0 + j, none⟩ := by unfold Addr.add; split <;> simp_all
 rw [← e]; exact this
def ord : List UInt8 → List UInt8 → Int
 | [], [] => 0
 | [], _ :: _ => -1
 | _ :: _, [] => 1
 | a :: xs, b :: ys => if a < b then -1 else if b < a then 1 else ord xs ys
theorem ord_self : ∀ a, ord a a = 0
 | [] => rfl
 | a :: xs => by simp [ord, UInt8.lt_irrefl, ord_self xs]
theorem ord_zero : ∀ {a b}, ord a b = 0 → a = b
 | [], [], _ => rfl
 | [], _ :: _, h => by simp [ord] at h
 | _ :: _, [], h => by simp [ord] at h
 | a :: xs, b :: ys, h => by
  unfold ord at h
  split at h
  ·simp at h
  ·split at h
   ·simp at h
   ·rename_i h1 h2
    have : a = b := by
     have h1 := UInt8.not_lt.1 h1; have h2 := UInt8.not_lt.1 h2
     exact UInt8.le_antisymm h2 h1
    rw [this, ord_zero h]
theorem ord_iff {a b : List UInt8} : ord a b = 0 ↔ a = b := ⟨ord_zero, fun h => by rw [h, ord_self]⟩
theorem ord_drop : ∀ (k : Nat) (a b : List UInt8), k ≤ a.length → k ≤ b.length → a.take k = b.take k → ord a b = ord (a.drop k) (b.drop k)
 | 0, a, b, _, _, _ => by simp
 | k + 1, [], b, h, _, _ => by simp at h
 | k + 1, a :: xs, [], _, h, _ => by simp at h
 | k + 1, a :: xs, b :: ys, h1, h2, h => by
  simp only [List.take_succ_cons, List.cons.injEq] at h
  obtain ⟨rfl, h⟩ := h
  simp only [List.drop_succ_cons]
  rw [← ord_drop k xs ys (by simpa using h1) (by simpa using h2) h]
  simp [ord, UInt8.lt_irrefl]
theorem ord_lt {k : Nat} {a b : List UInt8} (h1 : k < a.length) (h2 : k < b.length) (h : a.take k = b.take k) (hl : nth a k < nth b k) : ord a b = -1 := by
 rw [ord_drop k a b (by omega) (by omega) h, List.drop_eq_getElem_cons h1, List.drop_eq_getElem_cons h2]
 rw [nth_of_lt h1, nth_of_lt h2] at hl
 simp [ord, UInt8.lt_iff_toNat_lt, hl]
theorem ord_gt {k : Nat} {a b : List UInt8} (h1 : k < a.length) (h2 : k < b.length) (h : a.take k = b.take k) (hl : nth b k < nth a k) : ord a b = 1 := by
 rw [ord_drop k a b (by omega) (by omega) h, List.drop_eq_getElem_cons h1, List.drop_eq_getElem_cons h2]
 rw [nth_of_lt h1, nth_of_lt h2] at hl
 have : ¬ a[k].toNat < b[k].toNat := by omega
 simp [ord, UInt8.lt_iff_toNat_lt, hl, this]
theorem ord_short {a b : List UInt8} (h : a.length < b.length) (ht : a = b.take a.length) : ord a b = -1 := by
 rw [ord_drop a.length a b (by omega) (by omega) (by simpa using ht)]
 have : 0 < (b.drop a.length).length := by simp; omega
 match hb : b.drop a.length, this with
 | x :: xs, _ => simp [ord]
theorem ord_long {a b : List UInt8} (h : b.length < a.length) (ht : a.take b.length = b) : ord a b = 1 := by
 rw [ord_drop b.length a b (by omega) (by omega) (by simpa using ht)]
 have : 0 < (a.drop b.length).length := by simp; omega
 match hb : a.drop b.length, this with
 | x :: xs, _ => simp [ord]
theorem take_step {k : Nat} {a b : List UInt8} (h1 : k < a.length) (h2 : k < b.length) (h : a.take k = b.take k) (he : ¬ nth a k < nth b k) (he' : ¬ nth b k < nth a k) : a.take (k + 1) = b.take (k + 1) := by
 rw [take_snoc_b h1, take_snoc_b h2, h]
 rw [nth_of_lt h1, nth_of_lt h2] at he he'
 have : a[k] = b[k] := UInt8.toNat_inj.1 (by omega)
 rw [this]
structure U8 (P : Program) (T U : TypeId) : Prop where
 ul : P.underlying T = some (.slice U)
 info : (P.info? U).map (fun i => (i.zero, i.size, i.bytes)) = some (some (.int .u8 0), 1, 1)
theorem wpList_push {P : Program} {T U : TypeId} (L : U8 P T U) {ops : Array Oper} {rest : List Oper} {o : Oper} {a : Act} {Q : Exit → Act → World → Prop} (hgd : o.guard = none) (s x : Operand)
  (ho : o.op = .call { callee := .builtin .append, args := #[s, x], argTypes := #[T, T] }) {B k : Nat} {w wr : World} {v : Value} {bs : List UInt8} {z : Int} (hs : a.eval s = v)
  (hx : a.eval x = .slice (some ⟨wr.heap.size, 0, none⟩) 1 1) (hown : wr.ownsRow B U 1 v k (bs.map bval)) (hb : Below B w wr) (hB : B ≤ wr.heap.size) (hk : k + 1 ≤ 140737488355328)
  (y : UInt8) (hz : z = (y.toNat : Int))
  (h : ∀ v' w1, w1.ownsRow B U 1 v' (k + 1) ((bs ++ [y]).map bval) → Below B w w1 → wr.heap.size ≤ w1.heap.size → wpList P ops Q rest (a.put o.dst v') w1) : wpList P ops Q (o :: rest) a (wr.alloc (.cells #[.int .u8 z] U)) := by
 obtain ⟨i0, hi, hz0, hz1, hz2⟩ := info_parts L.info
 refine wpList_append_own _ hgd s x T ho B U i0 (.int .u8 0) 1 1 L.ul hi hz0 hz1 hz2 rfl (by decide) v k _ hs (hown.alloc _) ⟨wr.heap.size, 0, none⟩ 1 1 [.int .u8 z] hx rfl (cell_one_new _ _ _) ?_ ?_ ?_ ?_ ?_
 ·intro u hu; simp at hu; subst hu; rfl
 ·unfold maxLen; omega
 ·omega
 ·simp; omega
 ·intro v' w1 hown' hgrow _
  have hz' := hgrow.size
  simp at hz'
  refine h v' w1 (by rw [List.map_append]; subst hz; exact hown') ((hb.alloc hB _).grown hgrow (by simp; omega) (fun j hj => (hown.lt j hj).1)) (by omega)
theorem wpList_makeB {P : Program} {T U : TypeId} (L : U8 P T U) {w wr : World} {ops : Array Oper} {rest : List Oper} {o : Oper} {a : Act} {Q : Exit → Act → World → Prop}
  (hg : o.guard = none) (l c : Operand) (hop : o.op = Op.makeSlice T l c) {B : Nat} {kl kc : IntKind} {I C : Int} (n : Nat) (hl : a.eval l = .int kl I) (hc : a.eval c = .int kc C) (hI : I = (n : Int)) (hC : C = (n : Int))
  (hn : n ≤ 281474976710656) (hb : Below B w wr) (hB : B ≤ wr.heap.size)
  (hK : ∀ w1, w1.ownsRow B U 1 (.slice (some ⟨wr.heap.size, 0, none⟩) n n) n ((List.replicate n 0).map bval) → Below B w w1 → wr.heap.size < w1.heap.size → wpList P ops Q rest (a.put o.dst (.slice (some ⟨wr.heap.size, 0, none⟩) n n)) w1) :
  wpList P ops Q (o :: rest) a wr := by
 obtain ⟨i0, hi, hz0, hz1, hz2⟩ := info_parts L.info
 refine wpList_make_full wr hg l c T hop B U i0 (.int .u8 0) 1 L.ul hi hz0 hz1 kl kc I C n hl hc hI hC (by rw [hz2]; omega) (by unfold maxLen; omega) hB fun w1 hown hgr => ?_
 have e : (madeCells (Value.int .u8 0).cells (n * 1)).toList = (List.replicate n (0 : UInt8)).map bval := by
  rw [Nat.mul_one, List.map_replicate]
  exact toList_madeCells_one _ _
 rw [e] at hown
 refine hK w1 hown (hb.grown hgr hB (fun k hk => by cases hk)) ?_
 rcases hown.2 with ⟨h, _⟩ | ⟨g, cap, cur, hv, _, hh, _⟩
 ·simp at h
 ·simp only [Value.slice.injEq, Option.some.injEq, Addr.mk.injEq, and_true, true_and] at hv
  obtain ⟨rfl, rfl⟩ := hv
  rcases Nat.lt_or_ge wr.heap.size w1.heap.size with h | h
  ·exact h
  ·rw [Array.getElem?_eq_none h] at hh; cases hh
theorem wpList_makeB0 {P : Program} {T U : TypeId} (L : U8 P T U) {w wr : World} {ops : Array Oper} {rest : List Oper} {o : Oper} {a : Act} {Q : Exit → Act → World → Prop}
  (hg : o.guard = none) (l c : Operand) (hop : o.op = Op.makeSlice T l c) {B : Nat} {kl kc : IntKind} {C : Int} (n : Nat) (hl : a.eval l = .int kl 0) (hc : a.eval c = .int kc C) (hC : C = (n : Int))
  (hn : n ≤ 281474976710656) (hb : Below B w wr) (hB : B ≤ wr.heap.size)
  (hK : ∀ w1, w1.ownsRow B U 1 (.slice (some ⟨wr.heap.size, 0, none⟩) 0 n) 0 (([] : List UInt8).map bval) → Below B w w1 → wr.heap.size ≤ w1.heap.size → wpList P ops Q rest (a.put o.dst (.slice (some ⟨wr.heap.size, 0, none⟩) 0 n)) w1) :
  wpList P ops Q (o :: rest) a wr := by
 obtain ⟨i0, hi, hz0, hz1, hz2⟩ := info_parts L.info
 exact wpList_make_own wr hg l c T hop B U i0 (.int .u8 0) 1 L.ul hi hz0 hz1 kl kc C n hl hc hC (by rw [hz2]; omega) (by unfold maxLen; omega) hB fun w1 hown hgr => hK w1 hown (hb.grown hgr hB (fun k hk => by cases hk)) hgr.size
theorem own_set {w wr : World} {B g n cap j : Nat} {U : TypeId} {bs : List UInt8} (h : wr.ownsRow B U 1 (.slice (some ⟨g, 0, none⟩) n cap) n (bs.map bval)) (hb : Below B w wr) (y : UInt8) {z : Int} (hz : z = (y.toNat : Int)) (hg : B ≤ g) :
  (wr.setCell ⟨g, j, none⟩ (.int .u8 z)).ownsRow B U 1 (.slice (some ⟨g, 0, none⟩) n cap) n ((bs.set j y).map bval) ∧ Below B w (wr.setCell ⟨g, j, none⟩ (.int .u8 z)) := by
 subst hz
 have h1 := (h.stored j (.int .u8 (y.toNat : Int))).1
 rw [List.map_set]
 exact ⟨h1, hb.setCell hg _⟩
theorem own_cell {wr : World} {B g n cap j : Nat} {U : TypeId} {bs : List UInt8} (h : wr.ownsRow B U 1 (.slice (some ⟨g, 0, none⟩) n cap) n (bs.map bval)) (hj : j < n) :
  wr.cell? ⟨g, j, none⟩ = some (.int .u8 (nth bs j : Int)) ∧ wr.frozen? ⟨g, j, none⟩ = false := by
 refine ⟨?_, h.frozenAt j⟩
 have hl : bs.length = n := by simpa using h.1
 rw [h.cellAt j (by omega), List.getElem?_map, List.getElem?_eq_getElem (by omega), nth_of_lt (by omega)]
 rfl
theorem wpList_pushAll {P : Program} {T U : TypeId} (L : U8 P T U) {ops : Array Oper} {rest : List Oper} {o : Oper} {a : Act} {Q : Exit → Act → World → Prop} (hgd : o.guard = none) (s x : Operand)
  (ho : o.op = .call { callee := .builtin .append, args := #[s, x], argTypes := #[T, T] }) {B B' k m c : Nat} {A : Option Addr} {w wr : World} {v : Value} {bs news : List UInt8} (hs : a.eval s = v)
  (hx : a.eval x = .slice A m c) (hown : wr.ownsRow B U 1 v k (bs.map bval)) (hr : Rd wr B' A m news) (hb : Below B w wr) (hB : B ≤ wr.heap.size) (hk : k + m ≤ 140737488355328)
  (h : ∀ v' w1, w1.ownsRow B U 1 v' (k + m) ((bs ++ news).map bval) → Below B w w1 → wr.heap.size ≤ w1.heap.size → wpList P ops Q rest (a.put o.dst v') w1) : wpList P ops Q (o :: rest) a wr := by
 obtain ⟨i0, hi, hz0, hz1, hz2⟩ := info_parts L.info
 have hlen : news.length = m := hr.1
 rcases A with _ | ad
 ·obtain rfl : m = 0 := by
   rcases Nat.eq_zero_or_pos m with h0 | h0
   ·exact h0
   ·obtain ⟨_, _, e, _⟩ := hr.2 h0; cases e
  obtain rfl : news = [] := List.eq_nil_of_length_eq_zero hlen
  have hrun : (Builtin.append_ #[T, T] o.type #[v, .slice none 0 c]).run P wr = .ok v wr := by
   have hul := L.ul
   rcases hown.2 with ⟨rfl, rfl⟩ | ⟨g, cap, cur, rfl, _, _, hnc, _⟩
   ·simp [Builtin.append_, run_underlying hul, sizeOf, typeInfo, hi, Builtin.lenOf, Builtin.firstCells]
   ·simp [Builtin.append_, run_underlying hul, sizeOf, typeInfo, hi, Builtin.lenOf, Builtin.firstCells, hnc, storeCells]
  refine wpList_plain hgd fun K hK => ?_
  unfold Oper.wp execOp
  simp only [ho, resolve, invoke, builtin, Sem.run_bind, Sem.run_pure, Result.andThen_ok, List.map_toArray, List.map_cons, List.map_nil, hs, hx, hrun]
  exact hK _ _ (h v wr (by simpa using hown) hb (Nat.le_refl _))
 ·refine wpList_append_own _ hgd s x T ho B U i0 (.int .u8 0) 1 1 L.ul hi hz0 hz1 hz2 rfl (by decide) v k _ hs hown ad m c (news.map bval) hx (by simpa using hlen) ?_ (bvals_one _) ?_ ?_ hB ?_
  ·intro j u hu
   have hj : j < m := by
    rcases Nat.lt_or_ge j m with g | g
    ·exact g
    ·rw [List.getElem?_eq_none (by simpa [hlen] using g)] at hu; cases hu
   obtain ⟨b, of, e, _, hc⟩ := hr.2 (by omega)
   obtain rfl : ad = ⟨b, of, none⟩ := by injection e
   have e : (⟨b, of, none⟩ : Addr).add j = ⟨b, of + j, none⟩ := by unfold Addr.add; split <;> simp_all
   rw [e, hc j hj, ← hu, List.getElem?_map, List.getElem?_eq_getElem (by omega), nth_of_lt (by omega)]
   rfl
  ·unfold maxLen; omega
  ·omega
  ·intro v' w1 hown' hgrow _
   exact h v' w1 (by rw [List.map_append]; exact hown') (hb.grown hgrow hB (fun j hj => (hown.lt j hj).1)) hgrow.size
theorem wf_u8 {x : Int} (h : (Lit.int .u8 x).wf = true) : 0 ≤ x ∧ x < 256 := by
 have h1 : IntKind.u8.min = 0 := rfl
 have h2 : IntKind.u8.max = 255 := rfl
 simp only [Lit.wf, Bool.and_eq_true, decide_eq_true_eq, h1, h2] at h
 omega
def IsRow (k : IntKind) (w : World) (a : Option Addr) (len cap : Nat) (zs : List Int) : Prop :=
 (a = none ∧ len = 0 ∧ cap = 0 ∧ zs = []) ∨
 ∃ x, a = some x ∧ len ≤ cap ∧ cap ≤ maxLen ∧ zs.length = cap ∧ (∀ i, i < zs.length → w.cell? (x.add i) = some (.int k (zs.getD i 0))) ∧ ∀ n ∈ zs, (Lit.int k n).wf = true
def bytesIn (zs : List Int) : List UInt8 := zs.map fun n => UInt8.ofNat n.toNat
theorem IsRow.rd {w : World} {a : Option Addr} {len cap : Nat} {zs : List Int} (h : IsRow .u8 w a len cap zs) :
  Rd w w.heap.size a len (bytesIn (zs.take len)) ∧ len ≤ cap ∧ cap ≤ 9223372036854775807 := by
 rcases h with ⟨rfl, rfl, rfl, rfl⟩ | ⟨x, rfl, hl, hm, hz, hc, hwf⟩
 ·exact ⟨Rd.nil _ _ _, by omega, by omega⟩
 ·refine ⟨⟨by simp [bytesIn]; omega, fun hn => ?_⟩, hl, by unfold maxLen at hm; omega⟩
  obtain ⟨b, o, s⟩ := x
  have h0 := hc 0 (by omega)
  obtain rfl : s = none := by simpa [Addr.add] using World.cell?_spot h0
  refine ⟨b, o, rfl, ?_, fun j hj => ?_⟩
  ·rcases Nat.lt_or_ge b w.heap.size with g | g
   ·exact g
   ·have e : w.cell? ⟨b, o, none⟩ = none := by simp [World.cell?, Array.getElem?_eq_none g]
    rw [show (⟨b, o, none⟩ : Addr).add 0 = ⟨b, o, none⟩ from by simp [Addr.add]] at h0
    rw [e] at h0; cases h0
  ·have hjz : j < zs.length := by omega
   have hb := wf_u8 (hwf zs[j] (List.getElem_mem hjz))
   have e : (⟨b, o, none⟩ : Addr).add j = ⟨b, o + j, none⟩ := by unfold Addr.add; split <;> simp_all
   have hlen : j < (bytesIn (zs.take len)).length := by simp [bytesIn]; omega
   have hn : nth (bytesIn (zs.take len)) j = zs[j].toNat := by
    rw [nth_of_lt hlen]
    simp only [bytesIn, List.getElem_map, List.getElem_take]
    have : (UInt8.ofNat zs[j].toNat).toNat = zs[j].toNat % 256 := UInt8.toNat_ofNat'
    omega
   rw [← e, hc j hjz, hn]
   simp only [List.getD, List.getElem?_eq_getElem hjz, Option.getD_some]
   congr 2
   omega
theorem own_cap {w : World} {B : Nat} {T : TypeId} {A : Option Addr} {n c : Nat} {xs : List Value} (h : w.ownsRow B T 1 (.slice A n c) n xs) : n ≤ c ∧ c ≤ 9223372036854775807 := by
 rcases h.2 with ⟨h, rfl⟩ | ⟨g, cap, cur, hv, _, _, h1, h2, _⟩
 ·injection h with _ _ h; omega
 ·injection hv with _ _ hv; subst hv; unfold maxLen at h2; omega
theorem wf_u64 {x : Int} (h : (Lit.int .u64 x).wf = true) : ∃ n : Nat, x = (n : Int) ∧ n < 18446744073709551616 := by
 have h1 : IntKind.u64.min = 0 := rfl
 have h2 : IntKind.u64.max = 18446744073709551615 := rfl
 simp only [Lit.wf, Bool.and_eq_true, decide_eq_true_eq, h1, h2] at h
 exact ⟨x.toNat, by omega, by omega⟩
theorem wf_i64 {x : Int} (h : (Lit.int .i64 x).wf = true) : -9223372036854775808 ≤ x ∧ x ≤ 9223372036854775807 := by
 have h1 : IntKind.i64.min = -9223372036854775808 := rfl
 have h2 : IntKind.i64.max = 9223372036854775807 := rfl
 simp only [Lit.wf, Bool.and_eq_true, decide_eq_true_eq, h1, h2] at h
 omega
theorem below_drewN {B : Nat} {a w : World} (h : Below B a w) (n : Nat) : Below B a (w.drewN n) := ⟨h.os, h.tape, h.output, h.size, h.block⟩
theorem own_below {w w' : World} {B : Nat} {T : TypeId} {v : Value} {n : Nat} {xs : List Value} (h : w.ownsRow B T 1 v n xs) (hb : Below w.heap.size w w') : w'.ownsRow B T 1 v n xs := by
 refine ⟨h.1, ?_⟩
 rcases h.2 with h | ⟨g, cap, cur, e, hg, hh, h⟩
 ·exact .inl h
 ·refine .inr ⟨g, cap, cur, e, hg, ?_, h⟩
  rw [hb.block g ?_]; exact hh
  rcases Nat.lt_or_ge g w.heap.size with h | h
  ·exact h
  ·rw [Array.getElem?_eq_none h] at hh; cases hh
theorem own_drewN {w : World} {B : Nat} {T : TypeId} {v : Value} {n : Nat} {xs : List Value} (h : w.ownsRow B T 1 v n xs) (k : Nat) : (w.drewN k).ownsRow B T 1 v n xs := h
theorem own_head {w : World} {B : Nat} {T : TypeId} {A : Option Addr} {n c : Nat} {xs : List Value} (h : w.ownsRow B T 1 (.slice A n c) n xs) (hn : 0 < n) : ∃ g, A = some ⟨g, 0, none⟩ ∧ B ≤ g := by
 rcases h.2 with ⟨_, rfl⟩ | ⟨g, cap, cur, hv, hg, _⟩
 ·omega
 ·injection hv with h1; exact ⟨g, h1, hg⟩
theorem u8_inc (n : Nat) : IntKind.u8.wrap ((n : Int) + 1) = ((UInt8.ofNat (n + 1)).toNat : Int) := by
 rw [← u8_mod]
 simp [IntKind.wrap, IntKind.bits, IntKind.signed]
end Go.Proofs.YtffdjnhhmfpkgaaGreat