/- The program's iterator over the pairs of a list of regions (region.pairs and the function that it hands back): what it hands to the loop's body, for every body that leaves all cells as they were where it goes on. -/
import Derived.RangeFuncNested
import Derived.RangeFuncBound
import Derived.RangeFuncCalls
import Derived.RangeFuncLeaves
import Derived.RangeFuncBox
import Derived.Shelf.Abstract
import Derived.Shelf.RegionOpen
import Derived.WalkKit
import Derived.OwnWalkIn
import Derived.TacticsInMore
import Derived.LoopNIn
import Derived.LoopIn
import Derived.Test.YtggnpnicmjjfbaaReg
namespace Go.Proofs.Ytggnpnicmjjfbaa
open Go.RowKit Go.Shelf
set_option linter.unusedVariables false
attribute [local go_sem] Oper.semAt_some

/-- What a round is handed: two regions of the list, the one that stands ahead first. -/
abbrev PairOf (l : List Reg) := { x : Reg × Reg // ∃ k i, k < i ∧ i < l.length ∧ x = (rat l k, rat l i) }
/-- Which pairs have come: all whose later one stands ahead of i, and the first k of i's. -/
structure Cov (l : List Reg) (pre : List (PairOf l)) (i k : Nat) : Prop where
  up : ∀ i' k', k' < i' → i' < i → ∃ y ∈ pre, y.1 = (rat l k', rat l i')
  row : ∀ k', k' < k → ∃ y ∈ pre, y.1 = (rat l k', rat l i)
  len : pre.length ≤ i * l.length + k
theorem Cov.start (l : List Reg) : Cov l [] 0 0 := ⟨fun _ _ _ h => absurd h (Nat.not_lt_zero _), fun _ h => absurd h (Nat.not_lt_zero _), by simp⟩
theorem Cov.step {l : List Reg} {pre : List (PairOf l)} {i k : Nat} (h : Cov l pre i k) (y : PairOf l) (hy : y.1 = (rat l k, rat l i)) : Cov l (pre ++ [y]) i (k + 1) := by
  refine ⟨fun i' k' h1 h2 => ?_, fun k' hk => ?_, by have := h.len; simp; omega⟩
  · obtain ⟨z, hz, e⟩ := h.up i' k' h1 h2; exact ⟨z, List.mem_append_left _ hz, e⟩
  · rcases Nat.lt_or_ge k' k with g | g
    · obtain ⟨z, hz, e⟩ := h.row k' g; exact ⟨z, List.mem_append_left _ hz, e⟩
    · obtain rfl : k' = k := by omega
      exact ⟨y, by simp, hy⟩
theorem Cov.next {l : List Reg} {pre : List (PairOf l)} {i : Nat} (h : Cov l pre i i) (hi : i < l.length) : Cov l pre (i + 1) 0 := by
  refine ⟨fun i' k' h1 h2 => ?_, fun k' hk => absurd hk (Nat.not_lt_zero _), ?_⟩
  · rcases Nat.lt_or_ge i' i with g | g
    · exact h.up i' k' h1 g
    · obtain rfl : i' = i := by omega
      exact h.row k' h1
  · have := h.len; rw [Nat.succ_mul]; omega
theorem Cov.lt {l : List Reg} {pre : List (PairOf l)} {i k : Nat} (h : Cov l pre i k) (hk : k < i) (hi : i < l.length) : pre.length < l.length * l.length := by
  have h1 := h.len
  have h2 : (i + 1) * l.length ≤ l.length * l.length := Nat.mul_le_mul_right _ hi
  rw [Nat.succ_mul] at h2
  omega

/-- All pairs have come. -/
def AllPairs (l : List Reg) (ys : List (PairOf l)) : Prop := ∀ i k, k < i → i < l.length → ∃ y ∈ ys, y.1 = (rat l k, rat l i)
theorem Cov.all {l : List Reg} {pre : List (PairOf l)} {i : Nat} (h : Cov l pre i 0) (hi : i = l.length) : AllPairs l pre := fun i' k' h1 h2 => h.up i' k' h1 (by omega)

/-- What a round keeps: each cell. -/
def KpC (W W' : World) : Prop := (∀ p v, W.cell? p = some v → W'.cell? p = some v) ∧ W.heap.size ≤ W'.heap.size
theorem KpC.refl (W : World) : KpC W W := ⟨fun _ _ h => h, Nat.le_refl _⟩
theorem KpC.trans {A B C : World} (h : KpC A B) (k : KpC B C) : KpC A C := ⟨fun p v hp => k.1 p v (h.1 p v hp), Nat.le_trans h.2 k.2⟩
theorem KpC.of_below {W W' : World} (h : Below W.heap.size W W') : KpC W W' := ⟨fun p v hp => (h.cell (cell_in hp)).trans hp, h.size⟩
theorem KpC.alloc (W : World) (o : Obj) : KpC W (W.alloc o) := .of_below ((Below.refl _ W).alloc (Nat.le_refl _) o)
theorem KpC.book {w : World} (W : World) (l : Nat) (o o' : Obj) (hl : w.heap.size ≤ l) (h : W.heap[l]? = some o) (h1 : o.isCells = false) (h2 : o.isWalk = false) : KpC W (W.putObj l o') := by
  have hg := grownBy_putObj' W l o'
  refine ⟨fun p v hp => cell_kept hp hg (fun r e => by cases e; exact ⟨o, h, h1⟩), hg.size⟩

theorem pairsIn (F : Fence) (n : Nat) (hf : F.fn 27) (hro : F.round = none) (A : Option Addr) (len cap : Nat) (w : World) :
    CallsIn F n Try.prog 27 #[.slice A len cap] w fun e w' => e = .returned (.func (.func 29) #[] #[.pointer (some ⟨w.heap.size, 0, none⟩)]) ∧
      w' = w.alloc (.cells #[.slice A len cap] 30) := by
  refine callsIn_of_wp Try.func27 rfl hf ?_ hro
  simp only [Try.ntmps27, List.size_toArray, List.length_cons, List.length_nil, Nat.reduceAdd, Nat.reduceSub, Array.replicate_succ, Array.replicate_zero, List.push_toArray, List.append_toArray, List.nil_append, List.cons_append]
  gi_wp2
  go_ret
  exact ⟨rfl, rfl⟩

def OutR (l : List Reg) (len : Nat) (W : World) (J : List (PairOf l) → World → Prop) (s9 : Value) (wr : World) : Prop :=
  ∃ (pre : List (PairOf l)) (i : Nat), s9 = .int .i64 (i : Int) ∧ i ≤ len ∧ Cov l pre i 0 ∧ J pre wr ∧ KpC W wr
def InR (l : List Reg) (i : Nat) (W : World) (J : List (PairOf l) → World → Prop) (s18 : Value) (wr : World) : Prop :=
  ∃ (pre : List (PairOf l)) (k : Nat), s18 = .int .i64 (k : Int) ∧ k ≤ i ∧ Cov l pre i k ∧ J pre wr ∧ KpC W wr

set_option maxRecDepth 100000 in
set_option maxHeartbeats 2000000 in
theorem pairs1 (F : Fence) (n : Nat) (hf : F.fn 29) (hro : F.round = none) (hn1 : 1 ≤ n) (ly Bl n0 len cap : Nat) (A : Option Addr) (l : List Reg)
    (J Jx : List (PairOf l) → World → Prop) (W : World) (hJ : AbidesFrom W.heap.size J)
    (hY : ∀ pre x W, J pre W → pre.length < l.length * l.length → YieldAt F (n - 1) Try.prog ly #[.agg #[.int .i64 x.1.1.1, .int .i64 x.1.1.2], .agg #[.int .i64 x.1.2.1, .int .i64 x.1.2.2]] W fun e W' =>
      (e = .returned (.bool true) ∧ J (pre ++ [x]) W' ∧ KpC W W') ∨ (e = .returned (.bool false) ∧ Jx (pre ++ [x]) W'))
    (hBl : W.cell? ⟨Bl, 0, none⟩ = some (.slice A len cap)) (hR : RdG W n0 A len l) (hlc : len ≤ cap) (hcap : cap ≤ 9223372036854775807) (h0 : J [] W) :
    CallsIn F n Try.prog 29 #[.func (.yield ly) #[] #[], .pointer (some ⟨Bl, 0, none⟩)] W fun e W' => (∃ v, e = .returned v) ∧
      ((∃ ys : List (PairOf l), AllPairs l ys ∧ J ys W') ∨ (∃ pre, True ∧ Jx pre W')) := by
  have HR := Lib.hid hR
  have HY := Lib.hid hY
  have HL := Lib.hid hR.1
  have HJ := Lib.hid hJ
  clear hR hY hJ
  refine callsIn_of_wp Try.func29 rfl hf ?_ hro
  simp only [Try.ntmps29, List.size_toArray, List.length_cons, List.length_nil, Nat.reduceAdd, Nat.reduceSub, Array.replicate_succ, Array.replicate_zero, List.push_toArray, List.append_toArray, List.nil_append, List.cons_append]
  gi_wp2
  gi_loopw [3, 4, 6, 9, 16, 17, 18] (fun _ _ _ s9 _ _ _ wr => OutR l len W J s9 wr) (fun _ _ _ s9 _ _ _ _ => len - (intOf s9).toNat)
  case atStart => exact ⟨[], 0, rfl, Nat.zero_le _, Cov.start l, h0, KpC.refl _⟩
  case round =>
    obtain ⟨pre, i, rfl, hi, hC, hJ, hK⟩ := hrel
    have HC := Lib.hid hC
    have HK := Lib.hid hK
    have HJ1 := Lib.hid hJ
    clear hC hK hJ
    by_cases hlt : i < len
    · obtain ⟨b, o, rfl, hb, hc⟩ := HR.out.2 (by omega)
      have c1 : wr.cell? ⟨b, o + i * 2, none⟩ = some (.int .i64 (rat l i).1) := HK.out.1 _ _ (hc i hlt).1
      have c2 : wr.cell? ⟨b, o + i * 2 + 1, none⟩ = some (.int .i64 (rat l i).2) := HK.out.1 _ _ (hc i hlt).2
      have cl : wr.cell? ⟨Bl, 0, none⟩ = some (.slice (some ⟨b, o, none⟩) len cap) := HK.out.1 _ _ hBl
      have hltI : (i : Int) < (len : Int) := by omega
      have cl' : (wr.alloc (.cells #[.int .i64 (rat l i).1, .int .i64 (rat l i).2] 23)).cell? ⟨Bl, 0, none⟩ = some (.slice (some ⟨b, o, none⟩) len cap) := (KpC.alloc _ _).1 _ _ cl
      have HCC := Lib.hid hc
      clear hc
      gi_wp2
      have hg1 : (wr.alloc (.cells #[.int .i64 (rat l i).1, .int .i64 (rat l i).2] 23)).cell? ⟨wr.heap.size, 0, none⟩ = some (.int .i64 (rat l i).1) := by simp
      have hg2 : (wr.alloc (.cells #[.int .i64 (rat l i).1, .int .i64 (rat l i).2] 23)).cell? ⟨wr.heap.size, 1, none⟩ = some (.int .i64 (rat l i).2) := by simp
      have HG1 := Lib.hid hg1
      have HG2 := Lib.hid hg2
      have HJ2 : Hid (J pre (wr.alloc (.cells #[.int .i64 (rat l i).1, .int .i64 (rat l i).2] 23))) := HJ.out _ _ _ none HJ1.out (World.grownBy_alloc _ _ _) (fun r e => by cases e)
      have HK2 : Hid (KpC W (wr.alloc (.cells #[.int .i64 (rat l i).1, .int .i64 (rat l i).2] 23))) := HK.out.trans (KpC.alloc _ _)
      clear c1 c2 cl cl' hg1 hg2 HJ1 HK
      generalize wr.alloc (.cells #[.int .i64 (rat l i).1, .int .i64 (rat l i).2] 23) = w2 at *
      generalize wr.heap.size = g at *
      gi_loopw [6, 18] (fun _ s18 wr => InR l i w2 J s18 wr) (fun _ s18 _ => i - (intOf s18).toNat)
      case atStart => exact ⟨pre, 0, rfl, Nat.zero_le _, HC.out, HJ2.out, KpC.refl _⟩
      case round =>
        obtain ⟨pre', k, rfl, hk, hC, hJ, hK⟩ := hrel
        have HC2 := Lib.hid hC
        have HK3 := Lib.hid hK
        by_cases hki : k < i
        · have c1 : wr.cell? ⟨b, o + k * 2, none⟩ = some (.int .i64 (rat l k).1) := hK.1 _ _ (HK2.out.1 _ _ (HCC.out k (by omega)).1)
          have c2 : wr.cell? ⟨b, o + k * 2 + 1, none⟩ = some (.int .i64 (rat l k).2) := hK.1 _ _ (HK2.out.1 _ _ (HCC.out k (by omega)).2)
          have hkiI : (k : Int) < (i : Int) := by omega
          have d1 : wr.cell? ⟨g, 0, none⟩ = some (.int .i64 (rat l i).1) := hK.1 _ _ HG1.out
          have d2 : wr.cell? ⟨g, 1, none⟩ = some (.int .i64 (rat l i).2) := hK.1 _ _ HG2.out
          have d1' : (wr.alloc (.cells #[.int .i64 (rat l k).1, .int .i64 (rat l k).2] 23)).cell? ⟨g, 0, none⟩ = some (.int .i64 (rat l i).1) := (KpC.alloc _ _).1 _ _ d1
          have d2' : (wr.alloc (.cells #[.int .i64 (rat l k).1, .int .i64 (rat l k).2] 23)).cell? ⟨g, 1, none⟩ = some (.int .i64 (rat l i).2) := (KpC.alloc _ _).1 _ _ d2
          have HJ3 : Hid (J pre' (wr.alloc (.cells #[.int .i64 (rat l k).1, .int .i64 (rat l k).2] 23))) := HJ.out _ _ _ none hJ (World.grownBy_alloc _ _ _) (fun r e => by cases e)
          have hil : i < l.length := by rw [HL.out]; exact hlt
          obtain ⟨x, hx⟩ : ∃ x : PairOf l, x.1 = (rat l k, rat l i) := ⟨⟨(rat l k, rat l i), k, i, hki, hil, rfl⟩, rfl⟩
          have HX := Lib.hid hx
          have HC3 := Lib.hid (HC2.out.step x hx)
          obtain ⟨fn, tmps, assign, body, hy, hRd⟩ := HY.out pre' x _ HJ3.out (HC2.out.lt hki hil)
          rw [hx] at hy
          dsimp only at hy
          have HRD := Lib.hid hRd
          have HKI := Lib.hid hki
          clear hRd hx HC2 hC hK hJ hil hk hki
          gi_wp2
          refine (HRD.out).mono ?_
          rintro e W3 (⟨rfl, hJ3, hK3⟩ | ⟨rfl, hJx3⟩)
          · have HJ4 := Lib.hid hJ3
            have HK4 : Hid (KpC w2 W3) := (HK3.out.trans (KpC.alloc _ _)).trans hK3
            clear hJ3 hK3 hy d1 d2 d1' d2' c1 c2
            gi_wp2
            go_roundw
            case rel => exact ⟨pre' ++ [x], k + 1, by go_num, HKI.out, HC3.out, HJ4.out, HK4.out⟩
            case measure => have := HKI.out; simp [intOf]; omega
          · gi_wp2
            refine bodyPost_ret (results_none rfl _ _ _) rfl ?_
            exact ⟨⟨_, rfl⟩, .inr ⟨_, trivial, hJx3⟩⟩
        · obtain rfl : k = i := by omega
          have HCN := Lib.hid (HC2.out.next (by rw [HL.out]; exact hlt))
          have HJ4 := Lib.hid hJ
          have HLT := Lib.hid hlt
          clear HC2 hC hK hJ hk hki
          gi_wp2
          go_roundw
          case rel => exact ⟨pre', k + 1, by go_num, HLT.out, HCN.out, HJ4.out, HK2.out.trans HK3.out⟩
          case measure => have := HLT.out; simp [intOf]; omega
    · obtain rfl : i = len := by omega
      have hltI : ¬ (i : Int) < (i : Int) := by omega
      gi_wp2
      go_end0
      exact ⟨⟨_, rfl⟩, .inl ⟨pre, HC.out.all HL.out.symm, HJ1.out⟩⟩

/-- What 'pairs(l)' hands back gives all pairs of l, or a part of them. -/
theorem pairsStops (F : Fence) (n : Nat) (hf : F.fn 29) (hro : F.round = none) (hn1 : 1 ≤ n) (Bl n0 len cap : Nat) (A : Option Addr) (l : List Reg) (w : World)
    (hBl : w.cell? ⟨Bl, 0, none⟩ = some (.slice A len cap)) (hR : RdG w n0 A len l) (hn0 : n0 ≤ w.heap.size) (hlc : len ≤ cap) (hcap : cap ≤ 9223372036854775807) :
    SeqStopsK F n Try.prog 29 #[.pointer (some ⟨Bl, 0, none⟩)] (fun x : PairOf l => #[.agg #[.int .i64 x.1.1.1, .int .i64 x.1.1.2], .agg #[.int .i64 x.1.2.1, .int .i64 x.1.2.2]]) KpC (AllPairs l) (fun _ => True) (l.length * l.length) w := by
  intro ly J Jx W hW hJ hJx hY h0
  exact pairs1 F n hf hro hn1 ly Bl n0 len cap A l J Jx W hJ hY ((hW.cell (cell_in hBl)).trans hBl) (hR.below (hW.mono hn0)) hlc hcap h0
end Go.Proofs.Ytggnpnicmjjfbaa
