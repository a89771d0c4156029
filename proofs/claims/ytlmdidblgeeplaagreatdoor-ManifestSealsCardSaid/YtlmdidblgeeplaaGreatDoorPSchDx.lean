/- Several texts in one (a claim has 60 files at most): RegI, RegQ, RegA, RegC, Pair, SchD. -/
import Derived.Test.YtlmdidblgeeplaaGreatDoorTz
import Derived.RangeFuncNested
import Derived.RangeFuncBound
import Derived.RangeFuncCalls
import Derived.RangeFuncLeaves
import Derived.RangeFuncBox
import Derived.Shelf.Abstract
import Derived.Shelf.RegionOpen
import Derived.WalkKit
import Derived.OwnWalkIn
import Derived.TacticsInMore
import Derived.LoopNIn
import Derived.LoopIn
import Derived.Test.YtlmdidblgeeplaaGreatDoorPChPx
import Derived.Test.YtlmdidblgeeplaaGreatDoorPRegPy
import Derived.Test.YtlmdidblgeeplaaGreatDoorShelfR
import Derived.Deep.RegionLaw
namespace Go.Proofs.YtlmdidblgeeplaaGreatDoor
set_option maxRecDepth 1000000
set_option maxHeartbeats 8000000
set_option linter.unusedVariables false
set_option linter.unusedSimpArgs false
section
open Go.RowKit Go.Shelf
attribute [local go_sem] Oper.semAt_some
abbrev PairOf (l : List Reg) := { x : Reg × Reg // ∃ k i, k < i ∧ i < l.length ∧ x = (rat l k, rat l i) }
structure Cov (l : List Reg) (pre : List (PairOf l)) (i k : Nat) : Prop where
 up : ∀ i' k', k' < i' → i' < i → ∃ y ∈ pre, y.1 = (rat l k', rat l i')
 row : ∀ k', k' < k → ∃ y ∈ pre, y.1 = (rat l k', rat l i)
 len : pre.length ≤ i * l.length + k
theorem Cov.start (l : List Reg) : Cov l [] 0 0 := ⟨fun _ _ _ h => absurd h (Nat.not_lt_zero _), fun _ h => absurd h (Nat.not_lt_zero _), by simp⟩
theorem Cov.step {l : List Reg} {pre : List (PairOf l)} {i k : Nat} (h : Cov l pre i k) (y : PairOf l) (hy : y.1 = (rat l k, rat l i)) : Cov l (pre ++ [y]) i (k + 1) := by
 refine ⟨fun i' k' h1 h2 => ?_, fun k' hk => ?_, by have := h.len; simp; omega⟩
 ·obtain ⟨z, hz, e⟩ := h.up i' k' h1 h2; exact ⟨z, List.mem_append_left _ hz, e⟩
 ·rcases Nat.lt_or_ge k' k with g | g
  ·obtain ⟨z, hz, e⟩ := h.row k' g; exact ⟨z, List.mem_append_left _ hz, e⟩
  ·obtain rfl : k' = k := by omega
   exact ⟨y, by simp, hy⟩
theorem Cov.next {l : List Reg} {pre : List (PairOf l)} {i : Nat} (h : Cov l pre i i) (hi : i < l.length) : Cov l pre (i + 1) 0 := by
 refine ⟨fun i' k' h1 h2 => ?_, fun k' hk => absurd hk (Nat.not_lt_zero _), ?_⟩
 ·rcases Nat.lt_or_ge i' i with g | g
  ·exact h.up i' k' h1 g
  ·obtain rfl : i' = i := by omega
   exact h.row k' h1
 ·have := h.len; rw [Nat.succ_mul]; omega
theorem Cov.lt {l : List Reg} {pre : List (PairOf l)} {i k : Nat} (h : Cov l pre i k) (hk : k < i) (hi : i < l.length) : pre.length < l.length * l.length := by
 have h1 := h.len
 have h2 : (i + 1) * l.length ≤ l.length * l.length := Nat.mul_le_mul_right _ hi
 rw [Nat.succ_mul] at h2
 omega
def AllPairs (l : List Reg) (ys : List (PairOf l)) : Prop := ∀ i k, k < i → i < l.length → ∃ y ∈ ys, y.1 = (rat l k, rat l i)
theorem Cov.all {l : List Reg} {pre : List (PairOf l)} {i : Nat} (h : Cov l pre i 0) (hi : i = l.length) : AllPairs l pre := fun i' k' h1 h2 => h.up i' k' h1 (by omega)
def KpC (W W' : World) : Prop := (∀ p v, W.cell? p = some v → W'.cell? p = some v) ∧ W.heap.size ≤ W'.heap.size
theorem KpC.refl (W : World) : KpC W W := ⟨fun _ _ h => h, Nat.le_refl _⟩
theorem KpC.trans {A B C : World} (h : KpC A B) (k : KpC B C) : KpC A C := ⟨fun p v hp => k.1 p v (h.1 p v hp), Nat.le_trans h.2 k.2⟩
theorem KpC.of_below {W W' : World} (h : Below W.heap.size W W') : KpC W W' := ⟨fun p v hp => (h.cell (cell_in hp)).trans hp, h.size⟩
theorem KpC.alloc (W : World) (o : Obj) : KpC W (W.alloc o) := .of_below ((Below.refl _ W).alloc (Nat.le_refl _) o)
theorem KpC.book {w : World} (W : World) (l : Nat) (o o' : Obj) (hl : w.heap.size ≤ l) (h : W.heap[l]? = some o) (h1 : o.isCells = false) (h2 : o.isWalk = false) : KpC W (W.putObj l o') := by
 have hg := grownBy_putObj' W l o'
 refine ⟨fun p v hp => cell_kept hp hg (fun r e => by cases e; exact ⟨o, h, h1⟩), hg.size⟩
theorem pairsIn (F : Fence) (n : Nat) (hf : F.fn 212) (hro : F.round = none) (A : Option Addr) (len cap : Nat) (w : World) :
  CallsIn F n Tryz.prog 212 #[.slice A len cap] w fun e w' => e = .returned (.func (.func 222) #[] #[.pointer (some ⟨w.heap.size, 0, none⟩)]) ∧
   w' = w.alloc (.cells #[.slice A len cap] 208) := by
 refine callsIn_of_wp Tryz.func212 rfl hf ?_ hro
 simp only [Tryz.ntmps212, List.size_toArray, List.length_cons, List.length_nil, Nat.reduceAdd, Nat.reduceSub, Array.replicate_succ, Array.replicate_zero, List.push_toArray, List.append_toArray, List.nil_append, List.cons_append]
 gi_wp2
 go_ret
 exact ⟨rfl, rfl⟩
def OutR (l : List Reg) (len : Nat) (W : World) (J : List (PairOf l) → World → Prop) (s9 : Value) (wr : World) : Prop :=
 ∃ (pre : List (PairOf l)) (i : Nat), s9 = .int .i64 (i : Int) ∧ i ≤ len ∧ Cov l pre i 0 ∧ J pre wr ∧ KpC W wr
def InR (l : List Reg) (i : Nat) (W : World) (J : List (PairOf l) → World → Prop) (s18 : Value) (wr : World) : Prop :=
 ∃ (pre : List (PairOf l)) (k : Nat), s18 = .int .i64 (k : Int) ∧ k ≤ i ∧ Cov l pre i k ∧ J pre wr ∧ KpC W wr
theorem pairs1 (F : Fence) (n : Nat) (hf : F.fn 222) (hro : F.round = none) (hn1 : 1 ≤ n) (ly Bl n0 len cap : Nat) (A : Option Addr) (l : List Reg)
  (J Jx : List (PairOf l) → World → Prop) (W : World) (hJ : AbidesFrom W.heap.size J)
  (hY : ∀ pre x W, J pre W → pre.length < l.length * l.length → YieldAt F (n - 1) Tryz.prog ly #[.agg #[.int .i64 x.1.1.1, .int .i64 x.1.1.2], .agg #[.int .i64 x.1.2.1, .int .i64 x.1.2.2]] W fun e W' =>
   (e = .returned (.bool true) ∧ J (pre ++ [x]) W' ∧ KpC W W') ∨ (e = .returned (.bool false) ∧ Jx (pre ++ [x]) W'))
  (hBl : W.cell? ⟨Bl, 0, none⟩ = some (.slice A len cap)) (hR : RdG W n0 A len l) (hlc : len ≤ cap) (hcap : cap ≤ 9223372036854775807) (h0 : J [] W) :
  CallsIn F n Tryz.prog 222 #[.func (.yield ly) #[] #[], .pointer (some ⟨Bl, 0, none⟩)] W fun e W' => (∃ v, e = .returned v) ∧
   ((∃ ys : List (PairOf l), AllPairs l ys ∧ J ys W') ∨ (∃ pre, True ∧ Jx pre W')) := by
 have HR := qH hR
 have HY := qH hY
 have HL := qH hR.1
 have HJ := qH hJ
 clear hR hY hJ
 refine callsIn_of_wp Tryz.func222 rfl hf ?_ hro
 simp only [Tryz.ntmps222, List.size_toArray, List.length_cons, List.length_nil, Nat.reduceAdd, Nat.reduceSub, Array.replicate_succ, Array.replicate_zero, List.push_toArray, List.append_toArray, List.nil_append, List.cons_append]
 gi_wp2
 gi_loopw [3, 4, 6, 9, 16, 17, 18] (fun _ _ _ s9 _ _ _ wr => OutR l len W J s9 wr) (fun _ _ _ s9 _ _ _ _ => len - (intOf s9).toNat)
 case atStart => exact ⟨[], 0, rfl, Nat.zero_le _, Cov.start l, h0, KpC.refl _⟩
 case round =>
  obtain ⟨pre, i, rfl, hi, hC, hJ, hK⟩ := hrel
  have HC := qH hC
  have HK := qH hK
  have HJ1 := qH hJ
  clear hC hK hJ
  by_cases hlt : i < len
  ·obtain ⟨b, o, rfl, hb, hc⟩ := HR.out.2 (by omega)
   have c1 : wr.cell? ⟨b, o + i * 2, none⟩ = some (.int .i64 (rat l i).1) := HK.out.1 _ _ (hc i hlt).1
   have c2 : wr.cell? ⟨b, o + i * 2 + 1, none⟩ = some (.int .i64 (rat l i).2) := HK.out.1 _ _ (hc i hlt).2
   have cl : wr.cell? ⟨Bl, 0, none⟩ = some (.slice (some ⟨b, o, none⟩) len cap) := HK.out.1 _ _ hBl
   have hltI : (i : Int) < (len : Int) := by omega
   have cl' : (wr.alloc (.cells #[.int .i64 (rat l i).1, .int .i64 (rat l i).2] 56)).cell? ⟨Bl, 0, none⟩ = some (.slice (some ⟨b, o, none⟩) len cap) := (KpC.alloc _ _).1 _ _ cl
   have HCC := qH hc
   clear hc
   gi_wp2
   have hg1 : (wr.alloc (.cells #[.int .i64 (rat l i).1, .int .i64 (rat l i).2] 56)).cell? ⟨wr.heap.size, 0, none⟩ = some (.int .i64 (rat l i).1) := by simp
   have hg2 : (wr.alloc (.cells #[.int .i64 (rat l i).1, .int .i64 (rat l i).2] 56)).cell? ⟨wr.heap.size, 1, none⟩ = some (.int .i64 (rat l i).2) := by simp
   have HG1 := qH hg1
   have HG2 := qH hg2
   have HJ2 : Hid (J pre (wr.alloc (.cells #[.int .i64 (rat l i).1, .int .i64 (rat l i).2] 56))) := HJ.out _ _ _ none HJ1.out (World.grownBy_alloc _ _ _) (fun r e => by cases e)
   have HK2 : Hid (KpC W (wr.alloc (.cells #[.int .i64 (rat l i).1, .int .i64 (rat l i).2] 56))) := HK.out.trans (KpC.alloc _ _)
   clear c1 c2 cl cl' hg1 hg2 HJ1 HK
   generalize wr.alloc (.cells #[.int .i64 (rat l i).1, .int .i64 (rat l i).2] 56) = w2 at *
   generalize wr.heap.size = g at *
   gi_loopw [6, 18] (fun _ s18 wr => InR l i w2 J s18 wr) (fun _ s18 _ => i - (intOf s18).toNat)
   case atStart => exact ⟨pre, 0, rfl, Nat.zero_le _, HC.out, HJ2.out, KpC.refl _⟩
   case round =>
    obtain ⟨pre', k, rfl, hk, hC, hJ, hK⟩ := hrel
    have HC2 := qH hC
    have HK3 := qH hK
    by_cases hki : k < i
    ·have c1 : wr.cell? ⟨b, o + k * 2, none⟩ = some (.int .i64 (rat l k).1) := hK.1 _ _ (HK2.out.1 _ _ (HCC.out k (by omega)).1)
     have c2 : wr.cell? ⟨b, o + k * 2 + 1, none⟩ = some (.int .i64 (rat l k).2) := hK.1 _ _ (HK2.out.1 _ _ (HCC.out k (by omega)).2)
     have hkiI : (k : Int) < (i : Int) := by omega
     have d1 : wr.cell? ⟨g, 0, none⟩ = some (.int .i64 (rat l i).1) := hK.1 _ _ HG1.out
     have d2 : wr.cell? ⟨g, 1, none⟩ = some (.int .i64 (rat l i).2) := hK.1 _ _ HG2.out
     have d1' : (wr.alloc (.cells #[.int .i64 (rat l k).1, .int .i64 (rat l k).2] 56)).cell? ⟨g, 0, none⟩ = some (.int .i64 (rat l i).1) := (KpC.alloc _ _).1 _ _ d1
     have d2' : (wr.alloc (.cells #[.int .i64 (rat l k).1, .int .i64 (rat l k).2] 56)).cell? ⟨g, 1, none⟩ = some (.int .i64 (rat l i).2) := (KpC.alloc _ _).1 _ _ d2
     have HJ3 : Hid (J pre' (wr.alloc (.cells #[.int .i64 (rat l k).1, .int .i64 (rat l k).2] 56))) := HJ.out _ _ _ none hJ (World.grownBy_alloc _ _ _) (fun r e => by cases e)
     have hil : i < l.length := by rw [HL.out]; exact hlt
     obtain ⟨x, hx⟩ : ∃ x : PairOf l, x.1 = (rat l k, rat l i) := ⟨⟨(rat l k, rat l i), k, i, hki, hil, rfl⟩, rfl⟩
     have HX := qH hx
     have HC3 := qH (HC2.out.step x hx)
     obtain ⟨fn, tmps, assign, body, hy, hRd⟩ := HY.out pre' x _ HJ3.out (HC2.out.lt hki hil)
     rw [hx] at hy
     dsimp only at hy
     have HRD := qH hRd
     have HKI := qH hki
     clear hRd hx HC2 hC hK hJ hil hk hki
     gi_wp2
     refine (HRD.out).mono ?_
     rintro e W3 (⟨rfl, hJ3, hK3⟩ | ⟨rfl, hJx3⟩)
     ·have HJ4 := qH hJ3
      have HK4 : Hid (KpC w2 W3) := (HK3.out.trans (KpC.alloc _ _)).trans hK3
      clear hJ3 hK3 hy d1 d2 d1' d2' c1 c2
      gi_wp2
      go_roundw
      case rel => exact ⟨pre' ++ [x], k + 1, by go_num, HKI.out, HC3.out, HJ4.out, HK4.out⟩
      case measure => have := HKI.out; simp [intOf]; omega
     ·gi_wp2
      refine bodyPost_ret (results_none rfl _ _ _) rfl ?_
      exact ⟨⟨_, rfl⟩, .inr ⟨_, trivial, hJx3⟩⟩
    ·obtain rfl : k = i := by omega
     have HCN := qH (HC2.out.next (by rw [HL.out]; exact hlt))
     have HJ4 := qH hJ
     have HLT := qH hlt
     clear HC2 hC hK hJ hk hki
     gi_wp2
     go_roundw
     case rel => exact ⟨pre', k + 1, by go_num, HLT.out, HCN.out, HJ4.out, HK2.out.trans HK3.out⟩
     case measure => have := HLT.out; simp [intOf]; omega
  ·obtain rfl : i = len := by omega
   have hltI : ¬ (i : Int) < (i : Int) := by omega
   gi_wp2
   go_end0
   exact ⟨⟨_, rfl⟩, .inl ⟨pre, HC.out.all HL.out.symm, HJ1.out⟩⟩
theorem pairsStops (F : Fence) (n : Nat) (hf : F.fn 222) (hro : F.round = none) (hn1 : 1 ≤ n) (Bl n0 len cap : Nat) (A : Option Addr) (l : List Reg) (w : World)
  (hBl : w.cell? ⟨Bl, 0, none⟩ = some (.slice A len cap)) (hR : RdG w n0 A len l) (hn0 : n0 ≤ w.heap.size) (hlc : len ≤ cap) (hcap : cap ≤ 9223372036854775807) :
  SeqStopsK F n Tryz.prog 222 #[.pointer (some ⟨Bl, 0, none⟩)] (fun x : PairOf l => #[.agg #[.int .i64 x.1.1.1, .int .i64 x.1.1.2], .agg #[.int .i64 x.1.2.1, .int .i64 x.1.2.2]]) KpC (AllPairs l) (fun _ => True) (l.length * l.length) w := by
 intro ly J Jx W hW hJ hJx hY h0
 exact pairs1 F n hf hro hn1 ly Bl n0 len cap A l J Jx W hJ hY ((hW.cell (cell_in hBl)).trans hBl) (hR.below (hW.mono hn0)) hlc hcap h0
end
section
open Go.RowKit
def regV (r : Reg) : Value := .agg (regL r).toArray
theorem wIndex0 (g : Nat) (lb : Array Value) (A : Option Addr) (c : Nat) (w : World) :
  Calls Tryz.prog 221 #[.slice A 0 c, .func (.func g) #[] lb] w fun e w' => e = .returned (.int .i64 (-1)) ∧ Below w.heap.size w w' := by
 go_enter Tryz.func221, Tryz.ntmps221
 go_wp2
 go_loopw [5, 8] (fun _ s8 wr => s8 = .int .i64 0 ∧ wr = w) (fun _ _ _ => 0)
 case atStart => exact ⟨rfl, rfl⟩
 case round =>
  obtain ⟨rfl, rfl⟩ := hrel
  go_wp2
  go_ret
  exact ⟨rfl, Below.refl _ _⟩
theorem wContains (g : Nat) (lb : Array Value) (eg : ∀ args w, (callFunc g args).run Tryz.prog w = .ok (.enter g args) w) (p : Reg → Bool) (A : Option Addr) (n c : Nat) (l : List Reg) (w : World)
  (hp : PredBelow Tryz.prog g lb regV p w) (h : RdG w w.heap.size A n l) (hn : n ≤ 9223372036854775807) :
  Calls Tryz.prog 210 #[.slice A n c, .func (.func g) #[] lb] w fun e w' => e = .returned (.bool (l.any p)) ∧ Below w.heap.size w w' := by
 rcases Nat.eq_zero_or_pos n with rfl | hpos
 ·obtain rfl : l = [] := List.length_eq_zero_iff.1 h.1
  go_enter Tryz.func210, Tryz.ntmps210
  go_wp2_with fail
  refine (wIndex0 g lb A c w).mono ?_
  rintro e w1 ⟨rfl, hb⟩
  go_wp2_with fail
  go_ret
  exact ⟨rfl, hb⟩
 ·obtain ⟨b, o, rfl, hb, hc⟩ := h.2 hpos
  have := AnyQ.slices_ContainsFunc shContains 2 Tryz.isAgg56 Tryz.sizeOf56 regL (fun _ => rfl) p g lb eg b o n c l w hp (Nat.le_of_eq h.1.symm) hn hb (RdG.shelf h.1 hc)
  rw [List.take_of_length_le (Nat.le_of_eq h.1)] at this
  exact this
theorem pMay (w : World) : PredBelow Tryz.prog 211 #[] regV (fun x => !mayR x) w := fun W x hb => by
 have HB := qH hb
 clear hb
 show Calls Tryz.prog 211 #[.agg #[.int .i64 x.1, .int .i64 x.2]] W _
 go_enter Tryz.func211, Tryz.ntmps211
 go_wp2_with fail
 refine (wMayR x.1 x.2 _).mono ?_
 rintro e w1 ⟨rfl, hb⟩
 go_wp2_with fail
 go_ret
 exact ⟨rfl, (HB.out.alloc HB.out.size _).trans (hb.mono (Nat.le_trans HB.out.size (by simp)))⟩
end
section
open Go.RowKit Go.Shelf
attribute [local go_sem] Oper.semAt_some
def AllI (n0 : Nat) (w : World) (l : List Reg) (pre : List (PairOf l)) (W : World) : Prop :=
 Boxed W n0 34 (.int .i64 0) ∧ Below n0 w W ∧ n0 < W.heap.size ∧ ∀ y ∈ pre, apartR y.1.1 y.1.2 = true
def AllX (n0 : Nat) (w : World) (l : List Reg) (c : Code) (pre : List (PairOf l)) (W : World) : Prop :=
 c = .ret ∧ Boxed W n0 34 (.int .i64 121) ∧ Below n0 w W ∧ ∃ y ∈ pre, apartR y.1.1 y.1.2 = false
theorem allI_own {n0 B : Nat} {w : World} {l : List Reg} (hn : n0 ≤ w.heap.size) (hB : n0 < B) : OwnFrom B (AllI n0 w l) := by
 rintro s X Y row ⟨h1, h2, h3, h4⟩ hg hrow
 refine ⟨h1.kept hg (fun e => ?_), h2.grown hg (Nat.le_trans hn h2.size) (fun k e => by have := (hrow k e).1; omega), Nat.lt_of_lt_of_le h3 hg.size, h4⟩
 have := (hrow n0 e.symm).1; omega
theorem allX_own {n0 B : Nat} {w : World} {l : List Reg} (hn : n0 ≤ w.heap.size) (hB : n0 < B) (c : Code) : OwnFrom B (AllX n0 w l c) := by
 rintro s X Y row ⟨h0, h1, h2, h4⟩ hg hrow
 refine ⟨h0, h1.kept hg (fun e => ?_), h2.grown hg (Nat.le_trans hn h2.size) (fun k e => by have := (hrow k e).1; omega), h4⟩
 have := (hrow n0 e.symm).1; omega
theorem box_own {B g : Nat} {b s : Int} : OwnFrom B (fun (_ : Unit) W => Box W g b s) := by
 rintro _ X Y row ⟨h1, h2, h3⟩ hg hrow
 have hr : ∀ r, row = some r → ∃ o : Obj, X.heap[r]? = some o ∧ o.isCells = false := fun r e => (hrow r e).2
 exact ⟨cell_kept h1 hg hr, cell_kept h2 hg hr, Nat.lt_of_lt_of_le h3 hg.size⟩
theorem KeepsFrom.of_below {B : Nat} {W W' : World} (h : Below W.heap.size W W') : KeepsFrom B W W' := ⟨h.size, fun k o _ hk _ => (h.block k (Array.getElem?_eq_some_iff.1 hk).1).trans hk⟩
def AllAx (t5 t8 : Value) (n0 B : Nat) (l : List Reg) (x : PairOf l) (a : Act) (W : World) : Prop :=
 ∃ g1 g2, Box W g1 x.1.1.1 x.1.1.2 ∧ Box W g2 x.1.2.1 x.1.2.2 ∧
  a = { tmps := #[t5, undef, .pointer (some ⟨n0, 0, none⟩), .pointer (some ⟨g1, 0, none⟩), .pointer (some ⟨g2, 0, none⟩), t5, .bool false, t5, t8, .agg #[.int .i64 x.1.1.1, .int .i64 x.1.1.2], .agg #[.int .i64 x.1.2.1, .int .i64 x.1.2.2], undef, undef, undef, undef], defers := [] }
theorem allAx_own {t5 t8 : Value} {n0 B B' : Nat} {l : List Reg} (x : PairOf l) (a : Act) : OwnFrom B' (fun (_ : Unit) W => AllAx t5 t8 n0 B l x a W) := by
 rintro s X Y row ⟨g1, g2, h1, h2, h3⟩ hg hrow
 exact ⟨g1, g2, box_own () X Y row h1 hg hrow, box_own () X Y row h2 hg hrow, h3⟩
theorem res_errno {fn : Func} {p : Tmp} (h : fn.results = #[.cell p 34]) (tmps : Array Value) (w : World) (g : Nat) (v : Value) (hp : tmps.getD p undef = .pointer (some ⟨g, 0, none⟩)) (hc : w.cell? ⟨g, 0, none⟩ = some v) :
  (results fn tmps).run Tryz.prog w = .ok v w := by
 have hp' : tmps[p]?.getD undef = .pointer (some ⟨g, 0, none⟩) := by simpa using hp
 simp [results, h, hp', asAddr]
 go_simp
theorem allIn (F : Fence) (hfn : ∀ f, F.fn f) (hro : F.round = none)
  (hcont : ∀ (m : Nat) (A : Option Addr) (n c : Nat) (l : List Reg) (w : World), RdG w w.heap.size A n l → n ≤ 9223372036854775807 →
   CallsIn F m Tryz.prog 210 #[.slice A n c, .func (.func 211) #[] #[]] w fun e w' => e = .returned (.bool (l.any fun r => !mayR r)) ∧ Below w.heap.size w w')
  (hap : ∀ (m : Nat) (b s c r : Int) (w : World), CallsIn F m Tryz.prog 213 #[.agg #[.int .i64 b, .int .i64 s], .agg #[.int .i64 c, .int .i64 r]] w fun e w' => e = .returned (.bool (apartR (b, s) (c, r))) ∧ Below w.heap.size w w')
  (A : Option Addr) (n c : Nat) (l : List Reg) (w : World) (h : RdG w w.heap.size A n l) (hnc : n ≤ c) (hc : c ≤ 9223372036854775807) :
  CallsIn F 3 Tryz.prog 195 #[.slice A n c] w fun e w' => e = .returned (.int .i64 (allR l)) ∧ Below w.heap.size w w' := by
 have B := qH ((Below.refl w.heap.size w).alloc (Nat.le_refl _) (.cells #[.int .i64 0] 34))
 have H := qH (h.to B.out)
 have bX := qH (Boxed.new w 34 (.int .i64 0))
 have HC := qH hcont
 have HA := qH hap
 have HN := qH hnc
 have HCC := qH hc
 clear h hcont hap hnc hc
 refine callsIn_of_wp_marks Tryz.func195 rfl (hfn _) ?_ hro
 simp only [Tryz.ntmps195, List.size_toArray, List.length_cons, List.length_nil, Nat.reduceAdd, Nat.reduceSub, Array.replicate_succ, Array.replicate_zero, List.push_toArray, List.append_toArray, List.nil_append, List.cons_append]
 have h25 := hfn 210
 have h27 := hfn 212
 have h29 := hfn 222
 have h13 := hfn 213
 have hbx : ∀ w1 : World, Below (w.alloc (.cells #[.int .i64 0] 34)).heap.size (w.alloc (.cells #[.int .i64 0] 34)) w1 → Boxed w1 w.heap.size 34 (.int .i64 0) := fun w1 hb => (hb.block w.heap.size (by simp)).trans bX.out
 have HBX := qH hbx
 clear hbx
 cases hm : l.any fun r => !mayR r
 case' true =>
  gi_wp2_with (gi_at_call 210; refine (HC.out _ A n c l _ H.out (Nat.le_trans HN.out HCC.out)).mono ?_; rw [hm]; rintro e w1 ⟨rfl, hb⟩; have hbx1 := HBX.out w1 hb; have hcx1 := hbx1.cell; have hfx1 := hbx1.frozen)
  refine ⟨_, res_errno rfl _ _ w.heap.size (.int .i64 2) rfl (World.cell?_setCell_same' _ _ _ (by rw [hcx1]; rfl)), ?_, ?_⟩
  ·rw [allR_2 hm]
  ·exact (B.out.trans (hb.mono B.out.size)).setCell (p := ⟨w.heap.size, 0, none⟩) (Nat.le_refl _) _
 case' false =>
  gi_wp2_with (first
   | (gi_at_call 210; refine (HC.out _ A n c l _ H.out (Nat.le_trans HN.out HCC.out)).mono ?_; rw [hm]; rintro e w1 ⟨rfl, hb⟩; have hbx1 := HBX.out w1 hb)
   | (gi_at_call 212; refine (pairsIn F _ h27 hro _ _ _ _).mono ?_; rintro e w' ⟨rfl, rfl⟩))
  have HB1 := qH hb
  have hR0 := (H.out.to hb).below ((Below.refl _ w1).alloc (Nat.le_refl _) (.cells #[.slice A n c] 208))
  have hst := pairsStops F (3 - 1) h29 hro (by omega) w1.heap.size w1.heap.size n c A l (w1.alloc (.cells #[.slice A n c] 208)) (by simp) hR0 (by simp) HN.out HCC.out
  have hbx0 := hbx1.alloc (.cells #[.slice A n c] 208)
  have hB0 : Below w.heap.size w (w1.alloc (.cells #[.slice A n c] 208)) := (B.out.trans (hb.mono B.out.size)).alloc (by have := B.out.size; have := hb.size; omega) _
  have hlt0 : w.heap.size < (w1.alloc (.cells #[.slice A n c] 208)).heap.size := by have := hb.size; simp at this ⊢; omega
  have HM := qH hm
  clear hbx1 hb hm hR0
  generalize w1.alloc (.cells #[.slice A n c] 208) = W0 at *
  generalize w1.heap.size = g0 at *
  have HB0 := qH hB0
  have HLT := qH hlt0
  have HI0 : Hid (AllI w.heap.size w l [] W0) := ⟨hbx0, hB0, hlt0, fun y hy => by cases hy⟩
  clear hbx0 hB0 hlt0
  refine wpIn_rangeFunc_ownH hro (by omega) (gf := 222) (lb := #[.pointer (some ⟨g0, 0, none⟩)]) rfl h29 (enters_of Tryz.func222 (by kernel_rfl) rfl)
   hst KpC.trans (fun W l' o o' hl h h1 h2 => KpC.book (w := W0) W l' o o' hl h h1 h2) (Below.refl _ _) (fun _ => rfl)
   (AllI w.heap.size w l) (AllX w.heap.size w l) (allI_own (Nat.le_refl _) HLT.out) (allX_own (Nat.le_refl _) HLT.out) HI0.out
   (AllAx (.slice A n c) (.func (.func 222) #[] #[.pointer (some ⟨g0, 0, none⟩)]) w.heap.size W0.heap.size l) (fun x a' => allAx_own x a') ?assign ?body ?done ?stop
  case assign =>
   rintro ly pre x W K hi hK
   have HK := qH hK
   have HI := qH hi
   clear hK hi
   gi_wp2
   refine HK.out _ _ ?_ ?_ ?_ ?_
   ·exact ((KeepsOthers.alloc _ _).trans (KeepsOthers.alloc _ _)).from _
   ·exact (KpC.alloc _ _).trans (KpC.alloc _ _)
   ·exact (allI_own (B := w.heap.size + 1) (Nat.le_refl _) (Nat.lt_succ_self _)).alloc _ ((allI_own (B := w.heap.size + 1) (Nat.le_refl _) (Nat.lt_succ_self _)).alloc _ HI.out)
   ·exact ⟨_, _, (Box.new W x.1.1.1 x.1.1.2).to ((Below.refl _ _).alloc (Nat.le_refl _) _), Box.new _ x.1.2.1 x.1.2.2, by simp⟩
  case body =>
   rintro ly pre x a' W hl ⟨r, hr⟩ ⟨hbx, hB, hlt, hall⟩ ⟨g1, g2, b1, b2, rfl⟩ hlen
   obtain ⟨x1, x2, _⟩ := b1
   obtain ⟨y1, y2, _⟩ := b2
   have HBW := qH hB
   have HALL := qH hall
   have HLT2 := qH hlt
   clear hB hall hl hr hlen hlt hst
   have hfin : ∀ W3 : World, Below W.heap.size W W3 → Boxed W3 w.heap.size 34 (.int .i64 0) := fun W3 hb3 => (hb3.block w.heap.size hbx.lt).trans hbx
   have HFIN := qH hfin
   clear hfin
   cases hq : apartR (x.1.1.1, x.1.1.2) (x.1.2.1, x.1.2.2)
   case' true =>
    have HQ := qH hq
    clear hq
    gi_wp2_with (gi_at_call 213; refine (CallsIn.inRound ly (HA.out _ _ _ _ _ _)).mono ?_; rw [HQ.out]; rintro e W3 ⟨rfl, hb3⟩)
    refine ⟨KeepsFrom.of_below hb3, KpC.of_below hb3, HFIN.out _ hb3, HBW.out.trans (hb3.mono (Nat.le_of_lt HLT2.out)), Nat.lt_of_lt_of_le HLT2.out hb3.size, fun y hy => ?_⟩
    rcases List.mem_append.1 hy with h | h
    ·exact HALL.out y h
    ·obtain rfl : y = x := by simpa using h
     exact HQ.out
   case' false =>
    have HQ := qH hq
    clear hq
    gi_wp2_with (gi_at_call 213; refine (CallsIn.inRound ly (HA.out _ _ _ _ _ _)).mono ?_; rw [HQ.out]; rintro e W3 ⟨rfl, hb3⟩; have hbx3 := HFIN.out _ hb3; have hcx3 := hbx3.cell; have hfx3 := hbx3.frozen)
    refine ⟨(KeepsFrom.of_below hb3).trans ((KeepsOthers.setCell _ _ _).from _), rfl, ?_, ?_, x, by simp, HQ.out⟩
    ·exact hbx3.set _
    ·exact (HBW.out.trans (hb3.mono (Nat.le_of_lt HLT2.out))).setCell (p := ⟨w.heap.size, 0, none⟩) (Nat.le_refl _) _
  case done =>
   rintro D ys W hD hys ⟨hbx, hB, hlt, hall⟩ hK
   have hcx := hbx.cell
   have hfx := hbx.frozen
   have HD := qH hD
   have HBW := qH hB
   have hv : allR l = 0 := allR_zero.2 ⟨fun r hr => by
    obtain ⟨k, hk, rfl⟩ := List.getElem_of_mem hr
    have := any_false_iff.1 HM.out k hk
    rwa [rat_lt hk] at this, pair_iff.2 fun i hi k hk => by
     obtain ⟨y, hy, e⟩ := hys i k hk hi
     have := hall y hy
     rwa [e] at this⟩
   have HV := qH hv
   clear hys hall hv hD hB hst
   gi_wp2
   have hK2 := (KeepsOthers.setCell W ⟨w.heap.size, 0, none⟩ (.int .i64 0)).same D _ hK rfl
   refine ⟨by simp, .inl ⟨_, _, rfl, run_takeDeferred hK2, ?_⟩⟩
   refine ⟨_, res_errno rfl _ _ w.heap.size (.int .i64 0) rfl (cell_kept (World.cell?_setCell_same' _ _ _ (by rw [hcx]; rfl)) (grownBy_putObj' _ D (.deferred none)) (fun r e => by cases e; exact ⟨_, hK2, rfl⟩)), by rw [HV.out], ?_⟩
   exact (HBW.out.setCell (p := ⟨w.heap.size, 0, none⟩) (Nat.le_refl _) _).trans (belowK_b (w := w) (Nat.le_refl _) _ D _ _ (by have := HD.out; have := HLT.out; omega) hK2 rfl rfl)
  case stop =>
   rintro D cc pre W hD _ ⟨rfl, hbx, hB, y, hy, hq⟩ hK
   have hcx := hbx.cell
   have hv : allR l = 121 := by
    obtain ⟨k, i, hk, hi, e⟩ := y.2
    rw [e] at hq
    exact allR_121 HM.out hi hk hq
   gi_wp2
   refine ⟨by simp, .inl ⟨_, _, rfl, run_takeDeferred hK, ?_⟩⟩
   refine ⟨_, res_errno rfl _ _ w.heap.size (.int .i64 121) rfl (cell_kept hcx (grownBy_putObj' _ D (.deferred none)) (fun r e => by cases e; exact ⟨_, hK, rfl⟩)), by rw [hv], ?_⟩
   exact hB.trans (belowK_b (w := w) (Nat.le_refl _) _ D _ _ (by have := HLT.out; omega) hK rfl rfl)
theorem wAllR (A : Option Addr) (n c : Nat) (l : List Reg) (w : World) (h : RdG w w.heap.size A n l) (hnc : n ≤ c) (hc : c ≤ 9223372036854775807) :
  Calls Tryz.prog 195 #[.slice A n c] w fun e w' => e = .returned (.int .i64 (allR l)) ∧ Below w.heap.size w w' :=
 (callsIn_wide (n := 3)).1 (allIn Fence.wide (fun _ => trivial) rfl
  (fun m A n c l w h1 h2 => callsIn_wide.2 (wContains _ _ (enters_of Tryz.func211 (by kernel_rfl) rfl) _ A n c l w (pMay w) h1 h2))
  (fun m b s c r w => callsIn_wide.2 (wApart b s c r w)) A n c l w h hnc hc)
end
section
open Go.RowKit
end
section
open Go.RowKit
def iv (x : Int) : Value := .int .i64 x
def zat (xs : List Int) (j : Nat) : Int := xs.getD j 0
theorem zat_of_lt {xs : List Int} {j : Nat} (h : j < xs.length) : zat xs j = xs[j] := by simp [zat, List.getD, List.getElem?_eq_getElem h]
def RdZ (w : World) (B : Nat) (A : Option Addr) (n : Nat) (xs : List Int) : Prop :=
 xs.length = n ∧ (0 < n → ∃ b o, A = some ⟨b, o, none⟩ ∧ b < B ∧ ∀ j, j < n → w.cell? ⟨b, o + j, none⟩ = some (.int .i64 (zat xs j)))
theorem RdZ.of_own {w : World} {base : Nat} {T : TypeId} {A : Option Addr} {n c : Nat} {xs : List Int} (h : w.ownsRow base T 1 (.slice A n c) n (xs.map iv)) : RdZ w w.heap.size A n xs := by
 have hl : xs.length = n := by simpa using h.1
 refine ⟨hl, fun hn => ?_⟩
 obtain ⟨g, cap, hv, _, hlt⟩ := h.form hn
 have hA : A = some ⟨g, 0, none⟩ := by injection hv
 subst hA
 refine ⟨g, 0, rfl, hlt, fun j hj => ?_⟩
 have hj' : j < xs.length := by omega
 have := h.cells (g := g) rfl j (iv xs[j]) (by simp [List.getElem?_eq_getElem hj'])
 rw [zat_of_lt hj']
 rw [addr_add] at this
 exact this
structure ZT (P : Program) (T U : TypeId) : Prop where
 ul : P.underlying T = some (.slice U)
 info : (P.info? U).map (fun i => (i.zero, i.size, i.bytes)) = some (some (.int .i64 0), 1, 8)
end
section
open Go.RowKit
def DMayR (l : List Reg) (n : Nat) (w : World) (s3 s4 : Value) (wr : World) : Prop :=
 ∃ k : Nat, k ≤ n ∧ k ≤ 12 ∧ s4 = .int .i64 (k : Int) ∧ s3 = .int .i64 (sumW (l.take k)) ∧ (∀ x ∈ l.take k, okW x = true) ∧ wr = w
theorem SchD.may (A : Option Addr) (n c : Nat) (l : List Reg) (w : World) (h : RdG w w.heap.size A n l) (hn : n ≤ 9223372036854775807) :
  Calls Tryz.prog 172 #[.slice A n c] w fun e w' => e = .returned (.bool (mayW l)) ∧ Below w.heap.size w w' := by
 have R := qH h
 have HN := qH hn
 clear h hn
 go_enter Tryz.func172, Tryz.ntmps172
 go_wp2
 go_loopw [3, 4] (fun s3 s4 wr => DMayR l n w s3 s4 wr) (fun _ s4 _ => n - (intOf s4).toNat)
 case atStart => exact ⟨0, Nat.zero_le _, Nat.zero_le _, rfl, rfl, fun x hx => (by cases hx), rfl⟩
 case round =>
  obtain ⟨k, hk, hk12, rfl, rfl, hok, rfl⟩ := hrel
  have HOK := qH hok
  clear hok
  by_cases hlt : k < n
  ·obtain ⟨b, o, rfl, hbo, hc⟩ := R.out.2 (by omega)
   have c0 := (hc k hlt).1
   have c1 := (hc k hlt).2
   have hltI : (k : Int) < (n : Int) := by omega
   have HK : Hid (k < n) := hlt
   have HKL : Hid (k < l.length) := by (show _ < _); rw [R.out.1]; exact hlt
   clear hc hk hlt hbo
   by_cases h12 : (k : Int) ≥ 12
   ·have HF : Hid (mayW l = false) := by
     show _ = _
     rw [Bool.eq_false_iff]; intro hm
     have := (mayW_iff.1 hm).2.1
     have := HKL.out
     omega
    clear hk12
    go_wp2
    go_ret
    exact ⟨by rw [HF.out]; rfl, Below.refl _ _⟩
   have hno : okW (rat l k) = false → Hid (mayW l = false) := fun h => by
    show _ = _
    rw [Bool.eq_false_iff]; intro hm
    rw [may_ok hm _ (rat_mem HKL.out)] at h
    cases h
   have hbad : ¬ (1 ≤ (rat l k).1 ∧ (rat l k).1 ≤ 64 ∧ 0 ≤ (rat l k).2 ∧ (rat l k).2 ≤ 6) → Hid (mayW l = false) := fun h => hno (by rw [Bool.eq_false_iff]; exact fun h' => h (okW_iff.1 h'))
   have HBAD := qH hbad
   clear hno hbad
   by_cases h1 : (rat l k).1 < 1
   ·have HF := HBAD.out (by omega)
    clear hk12
    go_wp2
    go_ret
    exact ⟨by rw [HF.out]; rfl, Below.refl _ _⟩
   by_cases h2 : (rat l k).1 > 64
   ·have HF := HBAD.out (by omega)
    clear hk12
    go_wp2
    go_ret
    exact ⟨by rw [HF.out]; rfl, Below.refl _ _⟩
   by_cases h3 : (rat l k).2 < 0
   ·have HF := HBAD.out (by omega)
    clear hk12
    go_wp2
    go_ret
    exact ⟨by rw [HF.out]; rfl, Below.refl _ _⟩
   by_cases h4 : (rat l k).2 > 6
   ·have HF := HBAD.out (by omega)
    clear hk12
    go_wp2
    go_ret
    exact ⟨by rw [HF.out]; rfl, Below.refl _ _⟩
   have HOK2 : Hid (∀ x ∈ l.take (k + 1), okW x = true) := by
    intro x hx
    rw [take_rat HKL.out, List.mem_append, List.mem_singleton] at hx
    rcases hx with hx | rfl
    ·exact HOK.out x hx
    ·exact okW_iff.2 ⟨by omega, by omega, by omega, by omega⟩
   have hsb := sumW_ge HOK.out
   have hkl : (l.take k).length ≤ k := by rw [List.length_take]; omega
   have hw : IntKind.i64.wrap (sumW (l.take k) + (rat l k).1) = sumW (l.take k) + (rat l k).1 := by rw [IntKind.wrap_i64]; omega
   have hwk : IntKind.i64.wrap ((k : Int) + 1) = (k : Int) + 1 := by rw [IntKind.wrap_i64]; omega
   have HSS := qH (sumW_succ HKL.out)
   have HK12 : Hid (k + 1 ≤ 12) := by (show _ ≤ _); omega
   clear hk12 hsb hkl
   go_wp2
   go_roundw
   case rel => exact ⟨k + 1, HK.out, HK12.out, by go_num, by rw [HSS.out], HOK2.out, rfl⟩
   case measure => have := HK.out; simp [intOf]; omega
  ·obtain rfl : k = n := by omega
   have hltI : ¬ (k : Int) < (k : Int) := by omega
   rw [List.take_of_length_le (by rw [R.out.1]; exact Nat.le_refl _)] at HOK ⊢
   have HL : Hid (l.length ≤ 12) := by (show _ ≤ _); rw [R.out.1]; exact hk12
   have hge := (sumW_ge HOK.out).1
   by_cases h0 : sumW l > 0
   ·have HNE : Hid (l.length ≠ 0) := by
     show _ ≠ _
     intro e
     rw [List.length_eq_zero_iff.1 e] at h0
     simp [sumW_nil] at h0
    clear hk hlt hk12 hge
    go_wp2
    all_goals (go_ret; refine ⟨ret_bool ?_, Below.refl _ _⟩; rw [Bool.eq_iff_iff, mayW_iff]; simp only [decide_eq_true_eq, Bool.and_eq_true, Bool.false_eq_true, false_iff, true_iff])
    all_goals first | exact ⟨fun h => ⟨HNE.out, HL.out, HOK.out, by omega⟩, fun h => ⟨by omega, h.2.2.2⟩⟩ | exact ⟨fun h => ⟨HNE.out, HL.out, HOK.out, by omega⟩, fun h => h.2.2.2⟩ | exact ⟨HNE.out, HL.out, HOK.out, by omega⟩ | exact fun h => by have := h.2.2.2; omega
   ·have HF : Hid (mayW l = false) := by
     show _ = _
     rw [Bool.eq_false_iff]; intro hm
     have := may_pos hm
     omega
    clear hk hlt hk12 hge
    go_wp2
    go_ret
    exact ⟨by rw [HF.out]; rfl, Below.refl _ _⟩
end
end Go.Proofs.YtlmdidblgeeplaaGreatDoor