/- Contract of the program's eat (sha): a block compressed into a state. -/
import Derived.Test.YtopilgedcnbdaaaDoorTz
import Derived.Test.YtopilgedcnbdaaaDoorShaS
import Derived.Test.YtopilgedcnbdaaaDoorArrEq
namespace Go.Proofs.YtopilgedcnbdaaaDoor
set_option maxRecDepth 1000000
set_option maxHeartbeats 8000000
open Go.RowKit
set_option linter.unusedVariables false
theorem wSE {x : Nat} (q : Nat) (w : World) (hx : x < 4294967296) :
  Calls Tryd.prog 55 #[.int .u32 (x : Int), .int .i64 6, .int .i64 11, .int .i64 25] (w.drewN q) fun e w'' => e = .returned (.int .u32 (sE x : Int)) ∧ ∃ m, w'' = w.drewN m :=
 (wTurned x 6 11 25 rfl rfl rfl (w.drewN q) hx (by decide) (by decide) (by decide)).mono fun _ _ ⟨he, hw⟩ => ⟨he, q, hw.symm⟩
theorem wChz {e f g : Nat} (q : Nat) (w : World) (he : e < 4294967296) (hf : f < 4294967296) (hg : g < 4294967296) :
  Calls Tryd.prog 56 #[.int .u32 (e : Int), .int .u32 (f : Int), .int .u32 (g : Int)] (w.drewN q) fun e' w'' => e' = .returned (.int .u32 ((chz e f g : Nat) : Int)) ∧ ∃ m, w'' = w.drewN m :=
 (wChosen e f g (w.drewN q) he hf hg).mono fun _ _ ⟨he, hw⟩ => ⟨he, q, hw.symm⟩
theorem wSA {x : Nat} (w : World) (hx : x < 4294967296) :
  Calls Tryd.prog 55 #[.int .u32 (x : Int), .int .i64 2, .int .i64 13, .int .i64 22] w fun e w'' => e = .returned (.int .u32 (sA x : Int)) ∧ w = w'' :=
 wTurned x 2 13 22 rfl rfl rfl w hx (by decide) (by decide) (by decide)
def upN (xs zs : List Nat) (m : Nat) : List Nat := zs.take m ++ xs.drop m
theorem upN_zero (xs zs : List Nat) : upN xs zs 0 = xs := by simp [upN]
theorem upN_all {xs zs : List Nat} {m : Nat} (h1 : xs.length = m) (h2 : zs.length = m) : upN xs zs m = zs := by
 unfold upN
 rw [List.take_of_length_le (by omega), List.drop_of_length_le (by omega), List.append_nil]
theorem upN_len {xs zs : List Nat} {m : Nat} (h : xs.length = zs.length) (hm : m ≤ xs.length) : (upN xs zs m).length = xs.length := by
 simp [upN]; omega
theorem upN_at {xs zs : List Nat} {m : Nat} (h : xs.length = zs.length) (hm : m < xs.length) : nx (upN xs zs m) m = nx xs m := by
 unfold upN nx
 simp only [List.getD]
 rw [List.getElem?_append_right (by simp; omega)]
 simp [Nat.min_eq_left (show m ≤ zs.length by omega)]
theorem upN_set {xs zs : List Nat} {m : Nat} (h : xs.length = zs.length) (hm : m < xs.length) : (upN xs zs m).set m (nx zs m) = upN xs zs (m + 1) := by
 unfold upN
 have e : zs.take (m + 1) = zs.take m ++ [zs[m]'(by omega)] := List.take_succ_eq_append_getElem (by omega)
 have e2 : xs.drop m = xs[m] :: xs.drop (m + 1) := List.drop_eq_getElem_cons hm
 have e3 : (zs.take m).length = m := by simp; omega
 rw [List.set_append_right _ _ (by omega), e, nx_of_lt (by omega), e2, List.append_assoc, e3, Nat.sub_self, List.set_cons_zero]
 rfl
theorem sum_at (s : List Nat) (a b c d e f g h : Nat) : ∀ m, m < 8 → nx (sumL s ⟨a, b, c, d, e, f, g, h⟩) m = (nx s m + nx [a, b, c, d, e, f, g, h] m) % 4294967296
 | 0, _ => rfl
 | 1, _ => rfl
 | 2, _ => rfl
 | 3, _ => rfl
 | 4, _ => rfl
 | 5, _ => rfl
 | 6, _ => rfl
 | 7, _ => rfl
 | m + 8, h => by omega
theorem u32_one (w : World) : (sizeOf 65).run Tryd.prog w = .ok 1 w := sizeOf_one (by kernel_rfl) w
def RndRel (w : World) (s ws : List Nat) (a b c d e f g h i : Value) (wr : World) : Prop :=
 ∃ k : Nat, k ≤ 64 ∧ i = .int .i64 (k : Int) ∧ RegIs (regs s ws k) a b c d e f g h ∧ ∃ q, wr = w.drewN q
def AddRel2 (w : World) (s zs : List Nat) (i : Value) (wr : World) : Prop :=
 ∃ m : Nat, m ≤ 8 ∧ i = .int .i64 (m : Int) ∧ NumAt 81 .u32 wr w.heap.size (upN s zs m) ∧ NumAt 81 .u32 wr (w.heap.size + 1 + 1) zeros8 ∧ Below w.heap.size w wr
theorem three_nums (T T' T'' : TypeId) (w : World) (xs ys zs : List Nat) :
  NumAt T .u32 (((w.alloc (.cells (arrN .u32 xs) T)).alloc (.cells (arrN .u32 ys) T')).alloc (.cells (arrN .u32 zs) T'')) w.heap.size xs ∧
  NumAt T' .u32 (((w.alloc (.cells (arrN .u32 xs) T)).alloc (.cells (arrN .u32 ys) T')).alloc (.cells (arrN .u32 zs) T'')) (w.heap.size + 1) ys ∧
  NumAt T'' .u32 (((w.alloc (.cells (arrN .u32 xs) T)).alloc (.cells (arrN .u32 ys) T')).alloc (.cells (arrN .u32 zs) T'')) (w.heap.size + 1 + 1) zs ∧
  Below w.heap.size w (((w.alloc (.cells (arrN .u32 xs) T)).alloc (.cells (arrN .u32 ys) T')).alloc (.cells (arrN .u32 zs) T'')) := by
 refine ⟨((NumAt.new T .u32 w xs).alloc _).alloc _, ?_, ?_, (((Below.refl _ _).alloc (Nat.le_refl _) _).alloc (by simp) _).alloc (by simp; omega) _⟩
 ·have h := (NumAt.new T' .u32 (w.alloc (.cells (arrN .u32 xs) T)) ys).alloc (.cells (arrN .u32 zs) T'')
  rwa [show (w.alloc (.cells (arrN .u32 xs) T)).heap.size = w.heap.size + 1 from by simp] at h
 ·have h := NumAt.new T'' .u32 ((w.alloc (.cells (arrN .u32 xs) T)).alloc (.cells (arrN .u32 ys) T')) zs
  rwa [show ((w.alloc (.cells (arrN .u32 xs) T)).alloc (.cells (arrN .u32 ys) T')).heap.size = w.heap.size + 1 + 1 from by simp] at h
theorem wEat8 (A : Option Addr) (c : Nat) (s : List Nat) (blk : List UInt8) (w : World) (hs8 : Is8 s) (ha : Rd w w.heap.size A 64 blk) (hc : 64 ≤ c) (hc' : c ≤ 9223372036854775807) :
  Calls Tryd.prog 44 #[.agg (arrN .u32 s), .slice A 64 c, .agg (arrN .u32 shaK)] w fun e w' => e = .returned (.agg (arrN .u32 (eatL s blk))) ∧ Below w.heap.size w w' := by
 have HA := qH ha
 have HS8 := qH hs8
 clear ha hs8
 have hz := st_zero
 have hz2 := k_zero
 go_enter Tryd.func44, Tryd.ntmps44
 go_wp2_with fail
 obtain ⟨h0, h1, h2, hb0⟩ := three_nums 81 66 81 w s shaK zeros8
 have N0 := qH h0
 have N1 := qH h1
 have N2 := qH h2
 have B := qH hb0
 clear h0 h1 h2 hb0
 generalize (((w.alloc (.cells (arrN .u32 s) 81)).alloc (.cells (arrN .u32 shaK) 66)).alloc (.cells (arrN .u32 zeros8) 81)) = w0 at *
 refine (wSpread A c blk w0 (HA.out.to B.out) hc hc').mono ?_
 rintro e w1 ⟨rfl, hb⟩
 have HLN : Hid ((numsW blk 64).length = 64) := numsW_len blk 64
 have HEL : Hid (eatL s blk = sumL s (regs s (numsW blk 64) 64)) := rfl
 have HWL := qH (numsW_lt blk 64)
 obtain ⟨ws, hws⟩ : ∃ ws, numsW blk 64 = ws := ⟨_, rfl⟩
 rw [hws] at HLN HEL HWL ⊢
 clear hws
 replace N0 := qH (N0.out.to hb)
 replace N1 := qH (N1.out.to hb)
 replace N2 := qH (N2.out.to hb)
 replace B := qH (B.out.trans (hb.mono B.out.size))
 clear hb HA
 have S1 := qH (k_size (xs := ws) HLN.out)
 have E1 := qH (same_size (k := .u32) (xs := zeros64) (ys := ws) (by rw [HLN.out]; exact List.length_replicate))
 go_wp2_with (refine wpList_store_row rfl 66 _ _ rfl w1.heap.size (arrN .u32 ws) rfl rfl 66 (arrN .u32 zeros64) (heap_alloc_last w1 _) S1.out E1.out (arrN_one _ _) ?_)
 clear hz hz2
 have NW : Hid (NumAt 66 .u32 ((w1.alloc (.cells (arrN .u32 zeros64) 66)).setRow w1.heap.size (arrN .u32 ws)) w1.heap.size ws) := (NumAt.new _ .u32 w1 zeros64).setRow
 replace N0 := qH ((N0.out.alloc (.cells (arrN .u32 zeros64) 66)).setRowOther (g' := w1.heap.size) (arrN .u32 ws) (Nat.ne_of_lt N0.out.lt))
 replace N1 := qH ((N1.out.alloc (.cells (arrN .u32 zeros64) 66)).setRowOther (g' := w1.heap.size) (arrN .u32 ws) (Nat.ne_of_lt N1.out.lt))
 have hl2 := N2.out.lt
 replace N2 := qH ((N2.out.alloc (.cells (arrN .u32 zeros64) 66)).setRowOther (g' := w1.heap.size) (arrN .u32 ws) (Nat.ne_of_lt N2.out.lt))
 replace B := qH (below_setRow (B.out.alloc B.out.size (.cells (arrN .u32 zeros64) 66)) B.out.size (arrN .u32 ws))
 have HG : Hid (w.heap.size + 1 + 1 < w1.heap.size) := hl2
 clear hl2 S1 E1
 generalize ((w1.alloc (.cells (arrN .u32 zeros64) 66)).setRow w1.heap.size (arrN .u32 ws)) = w2 at *
 generalize w1.heap.size = gw at *
 have hsl : s.length = 8 := HS8.out.1
 have f0 := (N0.out.cell (j := 0) (by omega)).1
 have f1 := (N0.out.cell (j := 1) (by omega)).1
 have f2 := (N0.out.cell (j := 2) (by omega)).1
 have f3 := (N0.out.cell (j := 3) (by omega)).1
 have f4 := (N0.out.cell (j := 4) (by omega)).1
 have f5 := (N0.out.cell (j := 5) (by omega)).1
 have f6 := (N0.out.cell (j := 6) (by omega)).1
 have f7 := (N0.out.cell (j := 7) (by omega)).1
 have HSL := qH hsl
 clear hsl
 go_quiet (fail)
 clear f0 f1 f2 f3 f4 f5 f6 f7
 go_wp2_with fail
 go_loopw [8, 9, 10, 11, 12, 13, 14, 15, 39] (fun a b c d e f g h i wr => RndRel w2 s ws a b c d e f g h i wr) (fun _ _ _ _ _ _ _ _ i _ => 64 - (intOf i).toNat)
 case atStart => exact ⟨0, Nat.zero_le _, rfl, ⟨rfl, rfl, rfl, rfl, rfl, rfl, rfl, rfl⟩, _, rfl⟩
 case round =>
  obtain ⟨k, hk, rfl, ⟨rfl, rfl, rfl, rfl, rfl, rfl, rfl, rfl⟩, hq⟩ := hrel
  have HK := qH hk
  have HQ := qH hq
  clear hk hq
  by_cases h64 : (k : Int) < 64
  ·have RO := qH (regs_ok (ws := ws) HS8.out k)
   have HE : Hid (regs s ws (k + 1) = rnd (nx shaK k) (nx ws k) (regs s ws k)) := rfl
   have g1 : wr.cell? ⟨gw, k, none⟩ = some (.int .u32 (nx ws k : Int)) := by
    obtain ⟨q, rfl⟩ := HQ.out
    exact (NW.out.cell (by rw [HLN.out]; omega)).1
   have g2 : wr.cell? ⟨w.heap.size + 1, k, none⟩ = some (.int .u32 (nx shaK k : Int)) := by
    obtain ⟨q, rfl⟩ := HQ.out
    exact (N1.out.cell (by show k < 64; omega)).1
   generalize regs s ws k = r at *
   obtain ⟨a, b_, c_, d_, e_, f_, g_, h_⟩ := r
   generalize nx ws k = wk at *
   generalize nx shaK k = kk at *
   have ha := RO.out.a
   have he := RO.out.e
   have hf := RO.out.f
   have hg := RO.out.g
   dsimp only at ha he hf hg
   go_wp2_with fail
   go_quiet (first | (go_at_call 55; with_reducible refine wSE _ _ he) | (go_at_call 56; with_reducible refine wChz _ _ he hf hg))
   have ht : (((h_ : Int) + (sE e_ : Int) + (chz e_ f_ g_ : Int) + (kk : Int)) % 4294967296 + (wk : Int)) % 4294967296 = (((h_ + sE e_ + chz e_ f_ g_ + kk + wk) % 4294967296 : Nat) : Int) := by omega
   rw [ht]
   have hb := RO.out.b
   have hc := RO.out.c
   dsimp only at hb hc
   generalize hz : wr.drewN nq = wz
   generalize htt : (h_ + sE e_ + chz e_ f_ g_ + kk + wk) % 4294967296 = tt
   have HZ := qH hz
   have HTT := qH htt
   clear hz htt ht g1 g2
   go_wp2_with fail
   refine (wSA wz ha).mono ?_
   rintro e w' ⟨rfl, rfl⟩
   go_wp2_with fail
   refine (wMajority a b_ c_ _ ha hb hc).mono ?_
   rintro e w' ⟨rfl, rfl⟩
   go_wp2_with fail
   go_roundw
   case rel =>
    refine ⟨k + 1, by have := HK.out; omega, by go_num, ?_, ?_⟩
    ·rw [HE.out]
     refine ⟨?_, rfl, rfl, rfl, ?_, rfl, rfl, rfl⟩
     ·simp only [rnd, rT, rU, HTT.out]; congr 1
     ·simp only [rnd, rT, HTT.out]; congr 1
    ·obtain ⟨q, rfl⟩ := HQ.out
     exact ⟨q + nq, by rw [← HZ.out, World.drewN_drewN]⟩
   case measure => simp [intOf]; omega
  ·obtain rfl : k = 64 := by have := HK.out; omega
   have RO := qH (regs_ok (ws := ws) HS8.out 64)
   obtain ⟨q, rfl⟩ := HQ.out
   have M0 : Hid (NumAt 81 .u32 (w2.drewN q) w.heap.size s) := N0.out
   have M2 : Hid (NumAt 81 .u32 (w2.drewN q) (w.heap.size + 1 + 1) zeros8) := N2.out
   have MB := qH (below_drewN B.out q)
   have HE2 : Hid (eatL s blk = sumL s (regs s ws 64)) := HEL
   have HZL : Hid ((sumL s (regs s ws 64)).length = 8) := (sumL_8 s (regs s ws 64)).1
   have hv : ∀ j, nx (sumL s (regs s ws 64)) j = nx (sumL s (regs s ws 64)) j := fun _ => rfl
   clear hv N0 N1 N2 NW B HEL
   generalize w2.drewN q = w3 at *
   obtain ⟨r, hr⟩ : ∃ r, regs s ws 64 = r := ⟨_, rfl⟩
   rw [hr] at HE2 HZL RO ⊢
   clear hr
   obtain ⟨a, b_, c_, d_, e_, f_, g_, h_⟩ := r
   have HIX : Hid (∀ (m : Nat), m < 8 → ∀ w : World, (Instr.index 81 (.agg #[.int .u32 (a : Int), .int .u32 (b_ : Int), .int .u32 (c_ : Int), .int .u32 (d_ : Int), .int .u32 (e_ : Int), .int .u32 (f_ : Int), .int .u32 (g_ : Int), .int .u32 (h_ : Int)]) (.int .i64 (m : Int))).run Tryd.prog w = .ok (.int .u32 (nx [a, b_, c_, d_, e_, f_, g_, h_] m : Int)) w) := fun m hm w =>
    run_index_arr Tryd.underlying81 Tryd.underlying65 u32_one _ m hm _ (arrN_at (k := .u32) (xs := [a, b_, c_, d_, e_, f_, g_, h_]) hm) w
   have HSA := qH (sum_at s a b_ c_ d_ e_ f_ g_ h_)
   obtain ⟨zs, hzs⟩ : ∃ zs, sumL s ⟨a, b_, c_, d_, e_, f_, g_, h_⟩ = zs := ⟨_, rfl⟩
   rw [hzs] at HE2 HZL HSA
   clear hzs RO
   obtain ⟨rs, hrs⟩ : ∃ rs, [a, b_, c_, d_, e_, f_, g_, h_] = rs := ⟨_, rfl⟩
   rw [hrs] at HIX HSA
   clear hrs
   go_wp2_with fail
   go_loopw [88] (fun i wr => AddRel2 w s zs i wr) (fun i _ => 8 - (intOf i).toNat)
   case atStart => exact ⟨0, Nat.zero_le _, rfl, by rw [upN_zero]; exact M0.out, M2.out, MB.out⟩
   case round =>
    obtain ⟨m, hm, rfl, h0, h2, hb⟩ := hrel
    have N0 := qH h0
    have N2 := qH h2
    have B := qH hb
    have HM := qH hm
    have HL : Hid (s.length = zs.length) := HSL.out.trans HZL.out.symm
    clear h0 h2 hb hm
    by_cases h8 : (m : Int) < 8
    ·have HM8 : Hid (m < 8) := by show _ < _; omega
     have hx := HIX.out m HM8.out
     obtain ⟨hc1, hfr⟩ := N0.out.cell (j := m) (by rw [upN_len HL.out (by rw [HSL.out]; exact HM.out), HSL.out]; exact HM8.out)
     rw [upN_at HL.out (by rw [HSL.out]; exact HM8.out)] at hc1
     have HV := qH (HSA.out m HM8.out)
     have HST := qH (N0.out.set (j := m) (nx zs m))
     rw [upN_set HL.out (by rw [HSL.out]; exact HM8.out)] at HST
     have HCV : Hid (((nx s m : Int) + (nx rs m : Int)) % 4294967296 = ((nx zs m : Nat) : Int)) := by show _ = _; rw [HV.out]; omega
     go_wp2_with fail
     rw [HCV.out]
     go_roundw
     case rel => exact ⟨m + 1, HM8.out, by go_num, HST.out, N2.out.other _ _ (by show w.heap.size + 1 + 1 ≠ w.heap.size; omega), B.out.setCell (Nat.le_refl _) _⟩
     case measure => simp [intOf]; omega
    ·obtain rfl : m = 8 := by have := HM.out; omega
     rw [upN_all HSL.out HZL.out] at N0
     have S1 := qH (st_size HZL.out)
     have E1 := qH (same_size (k := .u32) (xs := zeros8) (ys := zs) (by rw [HZL.out]; exact List.length_replicate))
     go_wp2_with (first | (refine wpList_load_row rfl 81 _ rfl w.heap.size rfl 81 (arrN .u32 zs) (0, 0) _ N0.out Tryd.underlying81 rfl S1.out ?_) | (refine wpList_store_row rfl 81 _ _ rfl (w.heap.size + 1 + 1) (arrN .u32 zs) rfl rfl 81 (arrN .u32 zeros8) N2.out S1.out E1.out (arrN_one _ _) ?_))
     (try simp only [Exit.inBlock, Exit.then])
     refine bodyPost_ret (v := .agg (arrN .u32 zs)) ?_ rfl ⟨by rw [HE2.out], below_setRow B.out (by omega) _⟩
     exact results_cell_row rfl _ _ (w.heap.size + 1 + 1) 81 (arrN .u32 zs) (0, 0) _ rfl (setRow_heap _ _ _ _ _ _ N2.out) Tryd.underlying81 rfl S1.out
end Go.Proofs.YtopilgedcnbdaaaDoor