/- For any manifest and any bytes and key the law ManifestBack of citadellaw14 returns true: what can be written is read as it was, what is read is written as those bytes, what is sealed is right. Conditions: none beyond those that the statement itself prints. -/
import Derived.Test.YtlmdidblgeeplaaGreatDoorTz
import Derived.Test.YtlmdidblgeeplaaGreatDoorRows
import Derived.Test.YtlmdidblgeeplaaGreatDoorTie
import Derived.Test.YtlmdidblgeeplaaGreatDoorCards
import Derived.Test.YtlmdidblgeeplaaGreatDoorPShaLaidy
import Derived.Test.YtlmdidblgeeplaaGreatDoorPMfWy
import Derived.Test.YtlmdidblgeeplaaGreatDoorPMfLy
import Derived.Test.YtlmdidblgeeplaaGreatDoorPMfPsx
import Derived.Deep.DeepCutAuto
import Derived.SizedLaws
import Derived.WalkKit
import Derived.ProofKit
import Derived.OpenShut
import Derived.ShutString
import Derived.ChangeOld
import Derived.Below
namespace Go.Proofs.YtlmdidblgeeplaaGreatDoor.manifestBack
set_option maxRecDepth 1000000
set_option maxHeartbeats 8000000
open Go.ChangeShapes Go.WideShapes Go.ChangeAt Go.RowKit
open Go.ChangeMaps (open_string shut_string)
set_option linter.unusedVariables false
set_option linter.unusedSimpArgs false
theorem own : ownKnob Tryz.prog.godebug = none := by kernel_rfl
theorem laidOut : laidOutB Tryz.prog = true := by kernel_rfl
theorem bd_of {w : World} {B : Nat} {v : CV} {c : Cf} (h : RdCf w B v c) (hg : greatC c = false) : Bd v := ⟨(bounds_of h hg).1, (bounds_of h hg).2.1, (bounds_of h hg).2.2.1⟩
theorem prE_of {m : Mf} : (prEM m == 0) = canM m := by
 unfold prEM
 cases canM m <;> rfl
theorem same_selfM (m : Mf) : sameM m m = true := decide_eq_true rfl
theorem walk (x0 : CV) (m0 : Mf) (a1 : Option Addr) (len1 cap1 : Nat) (z1 : List Int) (a2 : Option Addr) (len2 cap2 : Nat) (z2 : List Int) (w : World) (hpr : Pr w) (w0 : RdM w w.heap.size x0 m0 ∧ x0.kw ≤ 9223372036854775807 ∧ x0.kp ≤ 9223372036854775807 ∧ x0.kc ≤ 9223372036854775807 ∧ m0.In) (w1 : IsRow .u8 w a1 len1 cap1 z1) (w2 : IsRow .u8 w a2 len2 cap2 z2) :
  Calls Tryz.prog 6 #[.agg (mfL m0 x0).toArray, .slice a1 len1 cap1, .slice a2 len2 cap2] w fun e w' => e = .returned (.bool true) ∧ Below w.heap.size w w' := by
 obtain ⟨r0, -, -, -, hin⟩ := w0
 have IN := qH hin
 obtain ⟨r1, hcap1, hcap1'⟩ := w1.rd
 generalize bytesIn (z1.take len1) = bs at r1
 obtain ⟨r2, hcap2, hcap2'⟩ := w2.rd
 generalize bytesIn (z2.take len2) = kk at r2
 have hb1 := (Below.refl w.heap.size w).alloc (Nat.le_refl _) (.cells (mfL m0 x0).toArray 30)
 have M := qH (MB.new w r0.t x0)
 have R := qH (r0.to hb1)
 have RB := qH (r1.to hb1)
 have RK := qH (r2.to hb1)
 have HP := qH (hpr.to hb1)
 have B := qH hb1
 have HC1 := qH hcap1
 have HC1' := qH hcap1'
 have HC2 := qH hcap2
 have HC2' := qH hcap2'
 clear r0 hin w1 w2 r1 r2 hpr hb1 hcap1 hcap1' hcap2 hcap2'
 go_enter Tryz.func6, Tryz.ntmps6
 go_upto_region 1 with (fail)
 generalize w.alloc (.cells (mfL m0 x0).toArray 30) = wa at *
 obtain ⟨-, -, q2, q3, q4⟩ := M.out.cells
 go_wp2_with fail
 refine (lGreat x0 m0.cf wa R.out.cf).mono ?_
 rintro e wb ⟨rfl, hb⟩
 replace M := qH (M.out.to hb)
 replace R := qH (R.out.to hb)
 replace RB := qH (RB.out.to hb)
 replace RK := qH (RK.out.to hb)
 replace HP := qH (HP.out.to hb)
 replace B := qH (B.out.trans (hb.mono B.out.size))
 clear hb
 clear q2 q3 q4
 cases hg : greatC m0.cf
 rotate_left 1
 ·skip
  go_wp2_with fail
  refine (lAwakeM _ HP.out).mono ?_
  rintro e wz ⟨rfl, hb⟩
  have BZ := qH (B.out.trans (hb.mono B.out.size))
  clear hb
  go_wp2_with fail
  go_ret
  exact ⟨rfl, BZ.out⟩
 have D := qH (bd_of R.out.cf hg)
 clear hg
 by_cases h9 : 9000 < len1
 ·have h9I : (len1 : Int) > 9000 := by omega
  go_wp2_with fail
  refine (lAwakeM _ HP.out).mono ?_
  rintro e wz ⟨rfl, hb⟩
  have BZ := qH (B.out.trans (hb.mono B.out.size))
  clear hb
  go_wp2_with fail
  go_ret
  exact ⟨rfl, BZ.out⟩
 by_cases h2 : 200 < len2
 ·have h9I : ¬ (len1 : Int) > 9000 := by omega
  have h2I : (len2 : Int) > 200 := by omega
  go_wp2_with fail
  refine (lAwakeM _ HP.out).mono ?_
  rintro e wz ⟨rfl, hb⟩
  have BZ := qH (B.out.trans (hb.mono B.out.size))
  clear hb
  go_wp2_with fail
  go_ret
  exact ⟨rfl, BZ.out⟩
 have h9I : ¬ (len1 : Int) > 9000 := by omega
 have h2I : ¬ (len2 : Int) > 200 := by omega
 have H9 := qH h9
 have H2 := qH h2
 clear h9 h2
 go_upto_region 3 with (fail)
 clear h9I h2I
 have S9 := qH (mf_size M.out.1 x0)
 go_wp2_with (refine wpList_load_row rfl 30 _ rfl w.heap.size rfl 30 (mfL m0 x0).toArray (0, 0) _ M.out.row Tryz.underlying30 rfl S9.out ?_)
 refine (wPrintM x0 m0 wb R.out D.out).mono ?_
 rintro e wc' ⟨A4, n4, c4, rfl, hr4, h4, h4', hb⟩
 have RP := qH hr4
 have H4 := qH h4
 have H4' := qH h4'
 have L4 : Hid (n4 ≤ 140737488355328) := by (show _ ≤ _); rw [← hr4.1]; exact prB_len M.out.1
 replace M := qH (M.out.to hb)
 replace R := qH (R.out.to hb)
 replace RB := qH (RB.out.to hb)
 replace RK := qH (RK.out.to hb)
 replace HP := qH (HP.out.to hb)
 replace B := qH (B.out.trans (hb.mono B.out.size))
 clear hb
 clear hr4 h4 h4'
 have HE : Hid ((prEM m0 == 0) = canM m0) := prE_of
 have HB : Hid (prBM m0 = if canM m0 = true then bytesM m0 else []) := rfl
 obtain ⟨pe, hpe⟩ : ∃ x, prEM m0 = x := ⟨_, rfl⟩
 rw [hpe] at HE ⊢
 clear hpe
 go_upto_region 4 with (fail)
 go_wp2_with (refine wpList_load_row rfl 30 _ rfl w.heap.size rfl 30 (mfL m0 x0).toArray (0, 0) _ M.out.row Tryz.underlying30 rfl S9.out ?_)
 refine (wCanM x0 m0 wc' R.out D.out).mono ?_
 rintro e wd ⟨rfl, hb⟩
 replace RP := qH (RP.out.to hb)
 replace M := qH (M.out.to hb)
 replace R := qH (R.out.to hb)
 replace RB := qH (RB.out.to hb)
 replace RK := qH (RK.out.to hb)
 replace HP := qH (HP.out.to hb)
 replace B := qH (B.out.trans (hb.mono B.out.size))
 clear hb
 obtain ⟨cb, hcb⟩ : ∃ x, canM m0 = x := ⟨_, rfl⟩
 rw [hcb] at HE HB ⊢
 have HCB := qH hcb
 clear hcb
 have hp0 : (pe == 0) = cb := HE.out
 go_upto_if 40 with (fail)
 clear hp0
 go_cut [9, 10] from 41 to 61 (fun s9 s10 wx => Below wd.heap.size wd wx)
 case first =>
  cases cb
  ·have h0 : (pe == 0) = false := HE.out
   go_wp2_with fail
   go_meet
   exact Below.refl _ _
  ·have h0 : (pe == 0) = true := HE.out
   replace HB : Hid (prBM m0 = bytesM m0) := by (show _ = _); rw [HB.out, if_pos rfl]
   rw [HB.out] at RP
   obtain ⟨k1, k2⟩ := okM_bytes HCB.out IN.out
   obtain ⟨k3, k4⟩ := mfOut_yes k1
   rw [k2] at k3
   have K3 := qH k3
   have K4 := qH k4
   clear k1 k2 k3 k4
   go_wp2_with fail
   refine (wParseM A4 n4 c4 (bytesM m0) wd RP.out H4.out H4'.out L4.out).mono ?_
   rw [K3.out, K4.out]
   rintro e we ⟨v5, rfl, hr5, hb⟩
   have R5 := qH hr5
   have B5 := qH hb
   replace M := qH (M.out.to hb)
   replace R := qH (R.out.to hb)
   replace RB := qH (RB.out.to hb)
   replace RK := qH (RK.out.to hb)
   replace HP := qH (HP.out.to hb)
   replace B := qH (B.out.trans (hb.mono B.out.size))
   clear hb
   clear hr5
   have S5 := qH (mf_size M.out.1 v5)
   have SZ : Hid ((mfL Mf.zero nilV).toArray.size = (mfL m0 v5).toArray.size) := by (show _ = _); rw [mfL_size MfT.zero, mfL_size M.out.1]
   have hz := mf_zero
   go_upto_region 8 with (refine wpList_store_row rfl 30 _ _ rfl we.heap.size (mfL m0 v5).toArray rfl rfl 30 (mfL Mf.zero nilV).toArray (heap_alloc_last we _) S5.out SZ.out (mf_one _ _) ?_; rw [World.setRow_alloc_new])
   have hal : Below we.heap.size we (we.alloc (.cells (mfL m0 v5).toArray 30)) := (Below.refl _ _).alloc (Nat.le_refl _) _
   have N := qH (MB.new we M.out.1 v5)
   replace R5 := qH (R5.out.to hal)
   replace B5 := qH (B5.out.trans (hal.mono B5.out.size))
   replace M := qH (M.out.to hal)
   replace R := qH (R.out.to hal)
   replace RK := qH (RK.out.to hal)
   replace HP := qH (HP.out.to hal)
   have D5 := qH (bd_can R5.out.cf (canM_iff.1 HCB.out).2.2.2.2)
   clear hal hz SZ RB RP B
   generalize we.alloc (.cells (mfL m0 v5).toArray 30) = wf at *
   generalize we.heap.size = g5 at *
   clear we
   go_wp2_with (first | (refine wpList_load_rowGm (by rfl) 30 _ rfl w.heap.size rfl 30 (mfL m0 x0).toArray (0, 0) _ M.out.row Tryz.underlying30 rfl S9.out ?_) | (refine wpList_load_rowGm (by rfl) 30 _ rfl g5 rfl 30 (mfL m0 v5).toArray (0, 0) _ N.out.row Tryz.underlying30 rfl S5.out ?_))
   refine (wSameM x0 v5 m0 m0 wf R.out R5.out D.out D5.out).mono ?_
   rw [same_selfM]
   rintro e wg ⟨rfl, hb⟩
   replace B5 := qH (B5.out.trans (hb.mono B5.out.size))
   replace M := qH (M.out.to hb)
   replace R := qH (R.out.to hb)
   replace RK := qH (RK.out.to hb)
   replace HP := qH (HP.out.to hb)
   clear hb N R5 D5 S5
   go_wp2_with (refine wpList_load_rowGm (by rfl) 30 _ rfl w.heap.size rfl 30 (mfL m0 x0).toArray (0, 0) _ M.out.row Tryz.underlying30 rfl S9.out ?_)
   refine (wSealM a2 len2 cap2 kk x0 m0 wg HP.out RK.out (by have := H2.out; omega) HC2.out HC2'.out R.out D.out).mono ?_
   rintro e wh ⟨v9, rfl, hoc, hbd, hb⟩
   have RS := qH (show RdM wh wh.heap.size v9 (sealM kk m0) from ⟨sealM_t M.out.1, by rw [sealM_cf]; exact hoc.rd⟩)
   have DS9 := qH hbd
   clear hoc hbd
   replace B5 := qH (B5.out.trans (hb.mono B5.out.size))
   replace RK := qH (RK.out.to hb)
   replace HP := qH (HP.out.to hb)
   clear hb
   go_wp2_with fail
   refine (wRightM a2 len2 cap2 kk v9 (sealM kk m0) wh HP.out RK.out (by have := H2.out; omega) HC2.out HC2'.out RS.out DS9.out).mono ?_
   rw [right_seal HCB.out]
   rintro e wi ⟨rfl, hb⟩
   replace B5 := qH (B5.out.trans (hb.mono B5.out.size))
   clear hb
   go_wp2_with fail
   go_meet
   exact B5.out
 case rest =>
 have hb := hcut
 obtain ⟨wo, hwo⟩ : ∃ x, x = wc := ⟨_, rfl⟩
 subst hwo
 replace RB := qH (RB.out.to hb)
 replace HP := qH (HP.out.to hb)
 replace B := qH (B.out.trans (hb.mono B.out.size))
 clear hb hcut M R RK RP HE HB HCB D S9 H4 H4' L4 IN
 go_upto_region 10 with (fail)
 go_wp2_with fail
 refine (wParseM a1 len1 cap1 bs wo RB.out HC1.out HC1'.out (by have := H9.out; omega)).mono ?_
 rintro e we ⟨v5, rfl, hr5, hb⟩
 have R5 := qH hr5
 replace RB := qH (RB.out.to hb)
 replace HP := qH (HP.out.to hb)
 replace B := qH (B.out.trans (hb.mono B.out.size))
 clear hr5 hb
 have T5 := qH R5.out.t
 have S5 := qH (mf_size R5.out.t v5)
 have SZ : Hid ((mfL Mf.zero nilV).toArray.size = (mfL (mfOut bs) v5).toArray.size) := by (show _ = _); rw [mfL_size MfT.zero, mfL_size R5.out.t]
 have hz := mf_zero
 cases hok : okM bs
 ·obtain ⟨k1, k2⟩ := mfOut_no hok
  rw [k1] at T5 S5 SZ
  rw [k1, k2]
  clear k1 k2 hok R5
  go_upto_region 11 with (refine wpList_store_row rfl 30 _ _ rfl we.heap.size (mfL Mf.zero v5).toArray rfl rfl 30 (mfL Mf.zero nilV).toArray (heap_alloc_last we _) S5.out SZ.out (mf_one _ _) ?_; rw [World.setRow_alloc_new])
  have hal : Below we.heap.size we (we.alloc (.cells (mfL Mf.zero v5).toArray 30)) := (Below.refl _ _).alloc (Nat.le_refl _) _
  replace HP := qH (HP.out.to hal)
  replace B := qH (B.out.trans (hal.mono B.out.size))
  clear hal hz SZ RB
  generalize we.alloc (.cells (mfL Mf.zero v5).toArray 30) = wf at *
  go_wp2_with fail
  refine (lAwakeM _ HP.out).mono ?_
  rintro e wz ⟨rfl, hb⟩
  have BZ := qH (B.out.trans (hb.mono B.out.size))
  clear hb
  go_wp2_with fail
  go_ret
  exact ⟨rfl, BZ.out⟩
 obtain ⟨k1, k2⟩ := mfOut_yes hok
 obtain ⟨j1, j2, j3⟩ := okM_got hok
 rw [k1] at T5 S5 SZ R5
 rw [k1, k2]
 have J1 := qH j1
 have J2 := qH j2
 clear k1 k2 hok j1 j2 j3
 generalize gotM bs = m1 at *
 go_upto_region 11 with (refine wpList_store_row rfl 30 _ _ rfl we.heap.size (mfL m1 v5).toArray rfl rfl 30 (mfL Mf.zero nilV).toArray (heap_alloc_last we _) S5.out SZ.out (mf_one _ _) ?_; rw [World.setRow_alloc_new])
 have hal : Below we.heap.size we (we.alloc (.cells (mfL m1 v5).toArray 30)) := (Below.refl _ _).alloc (Nat.le_refl _) _
 have N := qH (MB.new we T5.out v5)
 replace R5 := qH (R5.out.to hal)
 replace RB := qH (RB.out.to hal)
 replace HP := qH (HP.out.to hal)
 replace B := qH (B.out.trans (hal.mono B.out.size))
 have D5 := qH (bd_can R5.out.cf (canM_iff.1 J2.out).2.2.2.2)
 clear hal hz SZ
 generalize we.alloc (.cells (mfL m1 v5).toArray 30) = wf at *
 generalize we.heap.size = g5 at *
 go_upto_region 13 with (fail)
 go_wp2_with (refine wpList_load_row rfl 30 _ rfl g5 rfl 30 (mfL m1 v5).toArray (0, 0) _ N.out.row Tryz.underlying30 rfl S5.out ?_)
 refine (wPrintM v5 m1 wf R5.out D5.out).mono ?_
 have hB : prBM m1 = bs := by
  unfold prBM
  rw [if_pos J2.out]
  exact J1.out.symm
 have hE : prEM m1 = 0 := by
  unfold prEM
  rw [if_pos J2.out]
 rw [hB, hE]
 rintro e wg ⟨A6, n6, c6, rfl, hr6, -, -, hb⟩
 have RF := qH hr6
 replace RB := qH (RB.out.to hb)
 replace HP := qH (HP.out.to hb)
 replace B := qH (B.out.trans (hb.mono B.out.size))
 clear hr6 hb hB hE N R5 D5 S5 T5
 obtain ⟨s1, hs1, hs1'⟩ := str_is bs
 have cv1 := RF.out.strC (c := c6) hs1
 have cv2 := RB.out.strC (c := cap1) hs1
 go_wp2_with fail
 refine (lAwakeM _ HP.out).mono ?_
 rintro e wz ⟨rfl, hb⟩
 have BZ := qH (B.out.trans (hb.mono B.out.size))
 clear hb cv1 cv2 hs1 hs1'
 go_wp2_with fail
 go_ret
 exact ⟨rfl, BZ.out⟩
theorem lifted (os : Os) (started : os.Started) (H : Type) (enc : TypeId × Value → H) :
  ReturnsInHanded {} Tryz.checked os 6 .any (fun w args => (Rows.manifestBackSpec.pre enc Tryz.prog Tryz.f6 Rows.manifestBackRow.domain false w args ∧ laidMetH Tryz.prog Rows.manifestBackRow.laid w) ∧ sizedMet enc Tryz.prog Tryz.f6 (OpenSpec.ofChange Rows.manifestBackSpec) false w args)
   (Rows.manifestBackSpec.post enc Tryz.prog Tryz.f6 false true false false) := by
 refine returnsInHanded_of_change_and (C := Tryz.checked) (X := fun w _ => laidMetH Tryz.prog Rows.manifestBackRow.laid w) (fun _ _ _ hh h => h.of_heap hh) own started (by kernel_rfl) Tryz.func6
  (ChangeSpec.witness_shaped (enc := enc) (C := Tryz.checked) (os := os) (X := fun w _ => laidMetH Tryz.prog Rows.manifestBackRow.laid w) false (World.doorLaid Tryz.prog 400 os) #[.agg #[.int .i64 0, .int .u8 0, .int .u8 0, .int .u8 0, .int .u8 0, .int .u8 0, .int .u8 0, .int .u8 0, .int .u8 0, .int .u8 0, .int .u8 0, .int .u8 0, .int .u8 0, .int .u8 0, .int .u8 0, .int .u8 0, .int .u8 0, .int .u8 0, .int .u8 0, .int .u8 0, .int .u8 0, .int .u8 0, .int .u8 0, .int .u8 0, .int .u8 0, .int .u8 0, .int .u8 0, .int .u8 0, .int .u8 0, .int .u8 0, .int .u8 0, .int .u8 0, .int .u8 0, .int .i64 0, .slice none 0 0, .slice none 0 0, .slice none 0 0, .int .u8 0, .int .u8 0, .int .u8 0, .int .u8 0, .int .u8 0, .int .u8 0, .int .u8 0, .int .u8 0, .int .u8 0, .int .u8 0, .int .u8 0, .int .u8 0, .int .u8 0, .int .u8 0, .int .u8 0, .int .u8 0, .int .u8 0, .int .u8 0, .int .u8 0, .int .u8 0, .int .u8 0, .int .u8 0, .int .u8 0, .int .u8 0, .int .u8 0, .int .u8 0, .int .u8 0, .int .u8 0, .int .u8 0, .int .u8 0, .int .u8 0, .int .u8 0], .slice none 0 0, .slice none 0 0] 8 rfl (World.shaped_of_RefB (by kernel_rfl) (by kernel_rfl)) (by kernel_rfl) (by kernel_rfl) (by kernel_rfl) (door_met os _)) ?_
 intro W base args ds gs before hval0 hW hcnd hsz0 hL _
 have hval : ∀ (j : Nat) t v, Tryz.f6.params[j]? = some t → args[j]? = some v → Value.okWide Tryz.prog W .any base t v := hval0
 have hsz : (DataW.weightsEach Tryz.prog (Tryz.f6.params.toList ++ Rows.manifestBackSpec.plain.varTypes Tryz.prog) (ds ++ gs)).all (· ≤ reachBytes) = true := hsz0
 have hW' := hW
 obtain ⟨p, q, hA0, hV, rfl, hfz, hnd⟩ := hW
 have hA : DataW.TrodAll enc Tryz.prog W 0 (fun _ => true) true Tryz.f6.params.toList args.toList ds p := hA0
 rw [Tryz.params6] at hA hval hsz
 obtain ⟨v0, vs0, d0, ds0, p0, q0, hargs, rfl, rfl, h0, r0⟩ := trodAll_cons hA
 obtain ⟨v1, vs1, d1, ds1, p1, q1, rfl, rfl, rfl, h1, r1⟩ := trodAll_cons r0
 obtain ⟨v2, vs2, d2, ds2, p2, q2, rfl, rfl, rfl, h2, r2⟩ := trodAll_cons r1
 obtain ⟨rfl, rfl, rfl⟩ := trodAll_nil r2
 obtain rfl : args = #[v0, v1, v2] := by cases args; simp_all
 obtain ⟨rfl, rfl⟩ := trodVars_none hV
 have sz0 : ∀ x ∈ d0.weights Tryz.prog 30, x ≤ reachBytes := fun x hx => by simpa using List.all_eq_true.1 hsz _ (DataW.weights_mem_each (j := 0) rfl rfl x hx)
 have k0 := h0
 have lt0 : ∀ x ∈ p0, x.block < W.heap.size := by obtain ⟨m, hm⟩ := k0; exact DataW.trod_lt m _ _ _ hm
 obtain ⟨x0, m0, rfl, w0⟩ := open_mf (hval 0 30 v0 rfl rfl) h0 sz0
 obtain ⟨a1, len1, cap1, rfl⟩ := okWide_slice Tryz.underlying31 (hval 1 31 v1 rfl rfl)
 have k1 := h1
 have lt1 : ∀ x ∈ p1, x.block < W.heap.size := by obtain ⟨m, hm⟩ := k1; exact DataW.trod_lt m _ _ _ hm
 obtain ⟨z1, w1⟩ : ∃ zs, IsRow .u8 W a1 len1 cap1 zs := by
  obtain ⟨fuel, hf⟩ := h1
  rcases open_ints Tryz.underlying31 Tryz.underlying5 (by kernel_rfl) hf with ⟨hcs, _⟩ | ⟨x, l, c, zs, hcs, _, hl, hm, hz, _, hcell, hwz⟩
  ·simp [Value.cells] at hcs
   obtain ⟨rfl, rfl, rfl⟩ := hcs
   exact ⟨[], .inl ⟨rfl, rfl, rfl, rfl⟩⟩
  ·simp [Value.cells] at hcs
   obtain ⟨rfl, rfl, rfl⟩ := hcs
   exact ⟨zs, .inr ⟨_, rfl, hl, hm, by simpa using hz, hcell, hwz⟩⟩
 obtain ⟨a2, len2, cap2, rfl⟩ := okWide_slice Tryz.underlying31 (hval 2 31 v2 rfl rfl)
 have k2 := h2
 have lt2 : ∀ x ∈ p2, x.block < W.heap.size := by obtain ⟨m, hm⟩ := k2; exact DataW.trod_lt m _ _ _ hm
 obtain ⟨z2, w2⟩ : ∃ zs, IsRow .u8 W a2 len2 cap2 zs := by
  obtain ⟨fuel, hf⟩ := h2
  rcases open_ints Tryz.underlying31 Tryz.underlying5 (by kernel_rfl) hf with ⟨hcs, _⟩ | ⟨x, l, c, zs, hcs, _, hl, hm, hz, _, hcell, hwz⟩
  ·simp [Value.cells] at hcs
   obtain ⟨rfl, rfl, rfl⟩ := hcs
   exact ⟨[], .inl ⟨rfl, rfl, rfl, rfl⟩⟩
  ·simp [Value.cells] at hcs
   obtain ⟨rfl, rfl, rfl⟩ := hcs
   exact ⟨zs, .inr ⟨_, rfl, hl, hm, by simpa using hz, hcell, hwz⟩⟩
 clear hA0 hval0
 refine (walk x0 m0 a1 len1 cap1 z1 a2 len2 cap2 z2 W (pr_of_laid hL) w0 w1 w2).mono fun e W' ⟨he, bel⟩ => ?_
 subst he
 exact ⟨_, rfl, _, _, _, [], _, [], hW', trodAll_mk1 (shut_bool Tryz.underlying4 _), (trodAll_cons_mk (Below.trod laidOut (by kernel_rfl) (of_decide_eq_true (by kernel_rfl)) k0 bel lt0) (trodAll_cons_mk (Below.trod laidOut (by kernel_rfl) (of_decide_eq_true (by kernel_rfl)) k1 bel lt1) (trodAll_cons_mk (Below.trod laidOut (by kernel_rfl) (of_decide_eq_true (by kernel_rfl)) k2 bel lt2) trodAll_mk0))), rfl, bel.frame _, fun h => by cases h⟩
theorem over : Rows.manifestBackRow.holds Tryz.pinned (OpenSpec.ofChange Rows.manifestBackSpec) :=
 OpenClaim.holds_of_wide 6 Tryz.f6 rfl rfl rfl rfl rfl rfl rfl ⟨rfl, rfl, rfl, rfl, rfl⟩ rfl rfl rfl rfl rfl (by kernel_rfl) Tryz.func6 (by kernel_rfl)
  (of_decide_eq_true (by kernel_rfl)) (by unfold Func.isWrapper; first | (rw [if_pos (by decide +kernel)]; kernel_rfl) | (rw [if_neg (by decide +kernel)]; exact ⟨rfl, rfl⟩))
  (fun os started H enc _ => lifted os started H enc)
theorem wants : ∀ (j : Nat) t, Tryz.f6.params[j]? = some t → Tryz.prog.wantsStandIn t = false := by
 intro j t ht
 rw [Tryz.params6] at ht
 rcases j with _ | j
 ·obtain rfl : 30 = t := by simpa using ht
  kernel_rfl
 rcases j with _ | j
 ·obtain rfl : 31 = t := by simpa using ht
  kernel_rfl
 rcases j with _ | j
 ·obtain rfl : 31 = t := by simpa using ht
  kernel_rfl
 simp at ht
theorem proved : Rows.ManifestBackCardSaid :=
 Claim7.holds_tied_plain_at .later [] [.data] true Rows.manifestBackCard.stood.harness Rows.manifestBackCard.stood.looks over (fun _ h => by cases h) (by kernel_rfl) (fun _ h => by cases h) manifestBack_row_tie rfl ⟨rfl, rfl⟩ (by kernel_rfl) rfl
  (fun f fn hf hfn => by
   obtain rfl : f = 6 := Option.some.inj ((show Tryz.prog.funcNamed "citadel/citadellaw14.ManifestBack" = some 6 by kernel_rfl).symm.trans hf) |>.symm
   obtain rfl : fn = Tryz.f6 := (Option.some.inj (Tryz.func6.symm.trans hfn)).symm
   exact ⟨by kernel_rfl, wants⟩)
  (by kernel_rfl)
end Go.Proofs.YtlmdidblgeeplaaGreatDoor.manifestBack