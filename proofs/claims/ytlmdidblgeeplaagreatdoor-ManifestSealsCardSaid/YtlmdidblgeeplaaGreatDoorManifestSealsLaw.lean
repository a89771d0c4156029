/- For any keys and manifests the law ManifestSeals of citadellaw14 returns true: a manifest that is sealed, whether its tag is right, whether two are the same, is as the chapter says. Conditions: none beyond those that the statement itself prints. -/
import Derived.Test.YtlmdidblgeeplaaGreatDoorTz
import Derived.Test.YtlmdidblgeeplaaGreatDoorRows
import Derived.Test.YtlmdidblgeeplaaGreatDoorTie
import Derived.Test.YtlmdidblgeeplaaGreatDoorCards
import Derived.Test.YtlmdidblgeeplaaGreatDoorPShaLaidy
import Derived.Test.YtlmdidblgeeplaaGreatDoorPMfWy
import Derived.Test.YtlmdidblgeeplaaGreatDoorPMfLy
import Derived.Test.YtlmdidblgeeplaaGreatDoorPMfPsx
import Derived.Test.YtlmdidblgeeplaaGreatDoorPOwEy
import Derived.Deep.DeepCutAuto
import Derived.SizedLaws
import Derived.WalkKit
import Derived.ProofKit
import Derived.OpenShut
import Derived.ShutString
import Derived.ChangeOld
import Derived.Below
namespace Go.Proofs.YtlmdidblgeeplaaGreatDoor.manifestSeals
set_option maxRecDepth 1000000
set_option maxHeartbeats 8000000
open Go.ChangeShapes Go.WideShapes Go.ChangeAt Go.RowKit
open Go.ChangeMaps (open_string shut_string)
set_option linter.unusedVariables false
set_option linter.unusedSimpArgs false
theorem own : ownKnob Tryz.prog.godebug = none := by kernel_rfl
theorem laidOut : laidOutB Tryz.prog = true := by kernel_rfl
theorem bd_ofS {w : World} {B : Nat} {v : CV} {c : Cf} (h : RdCf w B v c) (hg : greatC c = false) : Bd v := ⟨(bounds_of h hg).1, (bounds_of h hg).2.1, (bounds_of h hg).2.2.1⟩
theorem keep_twoRows {w : World} (gs gt : Nat) (c1 c2 : Array Value) : Keep (fun k => k = gs ∨ k = gt) w ((w.setRow gs c1).setRow gt c2) := ((keep_setRow gs c1).weak (fun _ h => .inl h)).trans ((keep_setRow gt c2).weak (fun _ h => .inr h))
theorem same_selfS (m : Mf) : sameM m m = true := decide_eq_true rfl
theorem walk (a0 : Option Addr) (len0 cap0 : Nat) (z0 : List Int) (a1 : Option Addr) (len1 cap1 : Nat) (z1 : List Int) (x2 : CV) (m2 : Mf) (x3 : CV) (m3 : Mf) (w : World) (hpr : Pr w) (w0 : IsRow .u8 w a0 len0 cap0 z0) (w1 : IsRow .u8 w a1 len1 cap1 z1) (w2 : RdM w w.heap.size x2 m2 ∧ x2.kw ≤ 9223372036854775807 ∧ x2.kp ≤ 9223372036854775807 ∧ x2.kc ≤ 9223372036854775807 ∧ m2.In) (w3 : RdM w w.heap.size x3 m3 ∧ x3.kw ≤ 9223372036854775807 ∧ x3.kp ≤ 9223372036854775807 ∧ x3.kc ≤ 9223372036854775807 ∧ m3.In) :
  Calls Tryz.prog 4 #[.slice a0 len0 cap0, .slice a1 len1 cap1, .agg (mfL m2 x2).toArray, .agg (mfL m3 x3).toArray] w fun e w' => e = .returned (.bool true) ∧ Below w.heap.size w w' := by
 obtain ⟨r0, hcap0, hcap0'⟩ := w0.rd
 generalize bytesIn (z0.take len0) = kk at r0
 obtain ⟨r1, hcap1, hcap1'⟩ := w1.rd
 generalize bytesIn (z1.take len1) = ko at r1
 obtain ⟨r2, -, -, -, -⟩ := w2
 obtain ⟨r3, -, -, -, -⟩ := w3
 obtain ⟨wa, hwa, hb1, hx, hy, hr, hs⟩ := mf_two w r2 r3
 have HWA := qH hwa
 have M := qH hx
 have M3 := qH hy
 have R := qH hr
 have R3 := qH hs
 have RK := qH (r0.to hb1)
 have RO := qH (r1.to hb1)
 have HP := qH (hpr.to hb1)
 have B := qH hb1
 have HC0 := qH hcap0
 have HC0' := qH hcap0'
 have HC1 := qH hcap1
 have HC1' := qH hcap1'
 clear r0 w0 r1 w1 r2 r3 hpr hwa hb1 hx hy hr hs hcap0 hcap0' hcap1 hcap1'
 go_enter Tryz.func4, Tryz.ntmps4
 go_upto_region 1 with (fail)
 rw [HWA.out]
 clear HWA
 obtain ⟨-, -, q2, q3, q4⟩ := M.out.cells
 go_wp2_with fail
 refine (lGreat x2 m2.cf wa R.out.cf).mono ?_
 rintro e wb ⟨rfl, hb⟩
 replace M := qH (M.out.to hb)
 replace M3 := qH (M3.out.to hb)
 replace R := qH (R.out.to hb)
 replace R3 := qH (R3.out.to hb)
 replace RK := qH (RK.out.to hb)
 replace RO := qH (RO.out.to hb)
 replace HP := qH (HP.out.to hb)
 replace B := qH (B.out.trans (hb.mono B.out.size))
 clear hb q2 q3 q4
 cases hg : greatC m2.cf
 rotate_left 1
 ·skip
  go_wp2_with fail
  go_ret
  exact ⟨rfl, B.out⟩
 obtain ⟨-, -, -, hni⟩ := bounds_of R.out.cf hg
 have HNI := qH hni
 have D := qH (bd_ofS R.out.cf hg)
 clear hg hni
 obtain ⟨-, -, q2, q3, q4⟩ := M3.out.cells
 go_wp2_with fail
 refine (lGreat x3 m3.cf wb R3.out.cf).mono ?_
 rintro e wd ⟨rfl, hb⟩
 replace M := qH (M.out.to hb)
 replace M3 := qH (M3.out.to hb)
 replace R := qH (R.out.to hb)
 replace R3 := qH (R3.out.to hb)
 replace RK := qH (RK.out.to hb)
 replace RO := qH (RO.out.to hb)
 replace HP := qH (HP.out.to hb)
 replace B := qH (B.out.trans (hb.mono B.out.size))
 clear hb q2 q3 q4
 cases hg : greatC m3.cf
 rotate_left 1
 ·skip
  go_wp2_with fail
  go_ret
  exact ⟨rfl, B.out⟩
 have D3 := qH (bd_ofS R3.out.cf hg)
 clear hg
 by_cases h2 : 200 < len0
 ·have h2I : (len0 : Int) > 200 := by omega
  go_wp2_with fail
  go_ret
  exact ⟨rfl, B.out⟩
 by_cases h3 : 200 < len1
 ·have h2I : ¬ (len0 : Int) > 200 := by omega
  have h3I : (len1 : Int) > 200 := by omega
  go_wp2_with fail
  go_ret
  exact ⟨rfl, B.out⟩
 have h3I : ¬ (len1 : Int) > 200 := by omega
 have h2I : ¬ (len0 : Int) > 200 := by omega
 have H2 : Hid (len0 ≤ 1000) := by (show _ ≤ _); omega
 have H3 : Hid (len1 ≤ 1000) := by (show _ ≤ _); omega
 clear h2 h3
 have S0 := qH (mf_size M.out.1 x2)
 have S3 := qH (mf_size M3.out.1 x3)
 go_upto_region 3 with (fail)
 clear h2I h3I
 go_wp2_with (refine wpList_load_row rfl 30 _ rfl w.heap.size rfl 30 (mfL m2 x2).toArray (0, 0) _ M.out.row Tryz.underlying30 rfl S0.out ?_)
 refine (lCopiedM x2 m2 wd R.out D.out HNI.out).mono ?_
 rintro e w5 ⟨v5, qs, rfl, ho, hb⟩
 have R5 := qH (RdM.mk (w := w5) (B := w5.heap.size) (v := v5) (m := m2) M.out.1 ho.cf.rd)
 have D5 : Hid (Bd v5) := by
  have h := ho.cf.rd
  have h1 := R.out.cf
  have d := D.out
  exact ⟨by have := h.ww.1; have := h1.ww.1; have := d.1; omega, by have := h.pp.1; have := h1.pp.1; have := d.2.1; omega, by have := h.cc.1; have := h1.cc.1; have := d.2.2; omega⟩
 replace M := qH (M.out.to hb)
 replace M3 := qH (M3.out.to hb)
 replace R := qH (R.out.to hb)
 replace R3 := qH (R3.out.to hb)
 replace RK := qH (RK.out.to hb)
 replace RO := qH (RO.out.to hb)
 replace HP := qH (HP.out.to hb)
 replace B := qH (B.out.trans (hb.mono B.out.size))
 clear ho hb
 have hz := mf_zero
 have S5 := qH (mf_size M.out.1 v5)
 have SZ : Hid ((mfL Mf.zero nilV).toArray.size = (mfL m2 v5).toArray.size) := by (show _ = _); rw [mfL_size MfT.zero, mfL_size M.out.1]
 go_upto_region 4 with (refine wpList_store_row rfl 30 _ _ rfl w5.heap.size (mfL m2 v5).toArray rfl rfl 30 (mfL Mf.zero nilV).toArray (heap_alloc_last w5 _) S5.out SZ.out (mf_one _ _) ?_; rw [World.setRow_alloc_new])
 have hb : Below w5.heap.size w5 (w5.alloc (.cells (mfL m2 v5).toArray 30)) := (Below.refl _ _).alloc (Nat.le_refl _) _
 have N := qH (MB.new w5 M.out.1 v5)
 replace R5 := qH (R5.out.to hb)
 replace M := qH (M.out.to hb)
 replace M3 := qH (M3.out.to hb)
 replace R := qH (R.out.to hb)
 replace R3 := qH (R3.out.to hb)
 replace RK := qH (RK.out.to hb)
 replace RO := qH (RO.out.to hb)
 replace HP := qH (HP.out.to hb)
 replace B := qH (B.out.trans (hb.mono B.out.size))
 clear hb SZ
 generalize w5.alloc (.cells (mfL m2 v5).toArray 30) = wo at *
 generalize w5.heap.size = g5 at *
 clear w5 wa wb wd
 have TS := qH (sealM_t (key := kk) M.out.1)
 have ST := qH (mf_size TS.out x2)
 (try simp only [pR])
 go_cut [10, 11] from 32 to 37 (fun s10 s11 wx => ∃ (gs gt : Nat) (v6 : CV), s10 = .pointer (some ⟨gs, 0, none⟩) ∧ s11 = .pointer (some ⟨gt, 0, none⟩) ∧ MB wx gs (sealM kk m2) v6 ∧ MB wx gt (sealM kk m2) x2 ∧ RdCf wx wx.heap.size v6 m2.cf ∧ Bd v6 ∧ Below wo.heap.size wo wx)
 case first =>
  have SZT : Hid ((mfL Mf.zero nilV).toArray.size = (mfL (sealM kk m2) x2).toArray.size) := by (show _ = _); rw [mfL_size MfT.zero, mfL_size TS.out]
  obtain ⟨wd, hwd⟩ : ∃ x, wo.drew = x := ⟨_, rfl⟩
  have BW : Hid (Below wo.heap.size wo wd) := by (show Below _ _ _); rw [← hwd]; exact (Below.refl _ _).drew
  refine wp_region_held_drew (S := (fun w' => Below wo.heap.size wo w')) (by kernel_rfl) ((Below.refl _ _).drew) (fun hHeld => ?_)
  rw [hwd] at hHeld ⊢
  clear hwd hHeld
  have hHeld := BW.out
  refine tk 0 ?_
  simp only [pR]
  refine tk 3 ?_
  simp only [pR]
  refine tl 1 (.agg (mfL m2 v5).toArray) rfl (yieldsIf_load_row (by rfl) 30 _ rfl g5 rfl 30 (mfL m2 v5).toArray (0, 0) _ (fun w' h => (N.out.to h).row) Tryz.underlying30 rfl S5.out) ?_
  simp only [pR]
  refine tl 4 (.agg (mfL m2 x2).toArray) rfl (yieldsIf_load_row (by rfl) 30 _ rfl w.heap.size rfl 30 (mfL m2 x2).toArray (0, 0) _ (fun w' h => (M.out.to h).row) Tryz.underlying30 rfl S0.out) ?_
  simp only [pR]
  clear hHeld
  obtain ⟨wm, hwm⟩ : ∃ x, x = wd := ⟨_, rfl⟩
  subst hwm
  have hHeld := BW.out
  refine wpAnyH_ready (rs := [2, 6, 7]) (by kernel_rfl) (by simp) ?_
  refine AllReadyH.cons rfl (fun K hK => ?_) (AllReadyH.cons rfl (fun K hK => ?_) (AllReadyH.cons rfl (fun K hK => ?_) AllReadyH.nil))
  ·skip
   go_simp
   refine (wSealM a0 len0 cap0 kk v5 m2 wm (HP.out.to BW.out) (RK.out.to BW.out) H2.out HC0.out HC0'.out (R5.out.to BW.out) D5.out).mono ?_
   rintro e wn ⟨v6, rfl, hoc, hbd, hb⟩
   obtain ⟨Bm, hBm⟩ : ∃ x, wm.heap.size = x := ⟨_, rfl⟩
   obtain ⟨E, hE⟩ : ∃ x, wn.heap.size = x := ⟨_, rfl⟩
   have D6 := qH hbd
   have CE : Hid (RdCf wn E v6 m2.cf) := by (show RdCf _ _ _ _); rw [← hE]; exact hoc.rd
   have SP : Hid (Sp wn Bm v6) := by (show Sp _ _ _); rw [← hBm]; exact hoc.sp
   have HE : Hid (E ≤ wn.heap.size) := Nat.le_of_eq hE.symm
   clear hoc hbd hBm hE
   replace BW := qH (BW.out.trans (hb.mono BW.out.size))
   clear hb
   go_wp2_with fail
   refine hK.out _ _ BW.out (fun hHeld => ?_)
   clear hK K hHeld
   obtain ⟨wm, hwm⟩ : ∃ x, x = wn := ⟨_, rfl⟩
   subst hwm
   have hHeld := BW.out
   refine wpAnyH_ready (rs := [5, 6, 7]) (by kernel_rfl) (by simp) ?_
   refine AllReadyH.cons rfl (fun K hK => ?_) (AllReadyH.cons rfl (fun K hK => ?_) (AllReadyH.cons rfl (fun K hK => ?_) AllReadyH.nil))
   ·skip
    go_simp
    refine (rSealM a0 len0 cap0 kk x2 m2 wm (RK.out.to BW.out) (by have := H2.out; omega) (R.out.to BW.out) D.out).mono ?_
    rintro e wn ⟨rfl, hb⟩
    replace CE := qH (CE.out.below (hb.mono HE.out))
    replace SP := qH (SP.out.to hb)
    replace HE := qH (Nat.le_trans HE.out hb.size)
    replace BW := qH (BW.out.trans (hb.mono BW.out.size))
    clear hb
    go_wp2_with fail
    refine hK.out _ _ BW.out (fun hHeld => ?_)
    clear hK K hHeld
    obtain ⟨wm, hwm⟩ : ∃ x, x = wn := ⟨_, rfl⟩
    subst hwm
    have hHeld := BW.out
    refine wpAnyH_ready (rs := [6, 7]) (by kernel_rfl) (by simp) ?_
    refine AllReadyH.cons rfl (fun K hK => ?_) (AllReadyH.cons rfl (fun K hK => ?_) AllReadyH.nil)
    ·skip
     go_simp
     have hb : Below wm.heap.size wm (wm.alloc (.cells (mfL Mf.zero nilV).toArray 30)) := (Below.refl _ _).alloc (Nat.le_refl _) _
     have ZS := qH (MB.new wm MfT.zero nilV)
     have LS : Hid (wo.heap.size ≤ wm.heap.size) := BW.out.size
     have GS1 : Hid (wm.heap.size < Bm ∨ E ≤ wm.heap.size) := .inr HE.out
     replace CE := qH (CE.out.below (hb.mono HE.out))
     replace SP := qH (SP.out.to hb)
     replace HE := qH (Nat.le_trans HE.out hb.size)
     replace BW := qH (BW.out.trans (hb.mono BW.out.size))
     clear hb
     refine hK.out _ _ BW.out (fun hHeld => ?_)
     clear hK K hHeld
     generalize wm.alloc (.cells (mfL Mf.zero nilV).toArray 30) = wn at *
     generalize wm.heap.size = gs at *
     obtain ⟨wm, hwm⟩ : ∃ x, x = wn := ⟨_, rfl⟩
     subst hwm
     have hHeld := BW.out
     refine rd1 7 (fun K hK => ?_)
     ·skip
      go_simp
      have hb : Below wm.heap.size wm (wm.alloc (.cells (mfL Mf.zero nilV).toArray 30)) := (Below.refl _ _).alloc (Nat.le_refl _) _
      have ZT := qH (MB.new wm MfT.zero nilV)
      have LT : Hid (wo.heap.size ≤ wm.heap.size) := BW.out.size
      have NST : Hid (gs ≠ wm.heap.size) := by (show _ ≠ _); have := ZS.out.lt; omega
      have GT1 : Hid (wm.heap.size < Bm ∨ E ≤ wm.heap.size) := .inr HE.out
      replace CE := qH (CE.out.below (hb.mono HE.out))
      replace SP := qH (SP.out.to hb)
      replace HE := qH (Nat.le_trans HE.out hb.size)
      replace BW := qH (BW.out.trans (hb.mono BW.out.size))
      replace ZS := qH (ZS.out.to hb)
      clear hb
      refine hK.out _ _ BW.out (fun hHeld => ?_)
      clear hK K hHeld
      generalize wm.alloc (.cells (mfL Mf.zero nilV).toArray 30) = wn at *
      generalize wm.heap.size = gt at *
      obtain ⟨wm, hwm⟩ : ∃ x, x = wn := ⟨_, rfl⟩
      subst hwm
      have SS := qH (mf_size TS.out v6)
      have SZS : Hid ((mfL Mf.zero nilV).toArray.size = (mfL (sealM kk m2) v6).toArray.size) := by (show _ = _); rw [mfL_size MfT.zero, mfL_size TS.out]
      have HK := qH (keep_twoRows (w := wm) gs gt (mfL (sealM kk m2) v6).toArray (mfL (sealM kk m2) x2).toArray)
      have hHeld := BW.out
      refine rd1 8 (fun K hK => ?_)
      rw [if_pos (by rfl)]
      refine wp_store_row0 30 _ _ rfl rfl gs (mfL (sealM kk m2) v6).toArray rfl rfl 30 _ ZS.out.row SS.out SZS.out (mf_one _ _) ?_
      refine hK.out _ _ ((below_setRow BW.out LS.out _)) (fun hHeld => ?_)
      clear hK K
      clear hHeld
      replace ZT := qH (ZT.out.kept (keep_setRow gs (mfL (sealM kk m2) v6).toArray) (by have := NST.out; omega))
      replace ZS := qH (ZS.out.setRow TS.out v6)
      replace BW := qH (below_setRow BW.out LS.out (mfL (sealM kk m2) v6).toArray)
      generalize wm.setRow gs (mfL (sealM kk m2) v6).toArray = wm1 at *
      have hHeld := BW.out
      refine rd1 9 (fun K hK => ?_)
      rw [if_pos (by rfl)]
      refine wp_store_row0 30 _ _ rfl rfl gt (mfL (sealM kk m2) x2).toArray rfl rfl 30 _ ZT.out.row ST.out SZT.out (mf_one _ _) ?_
      refine hK.out _ _ ((below_setRow BW.out LT.out _)) (fun hHeld => ?_)
      clear hK K
      clear hHeld
      replace ZS := qH (ZS.out.kept (keep_setRow gt (mfL (sealM kk m2) x2).toArray) (by have := NST.out; omega))
      replace ZT := qH (ZT.out.setRow TS.out x2)
      replace BW := qH (below_setRow BW.out LT.out (mfL (sealM kk m2) x2).toArray)
      generalize wm1.setRow gt (mfL (sealM kk m2) x2).toArray = wm3 at *
      refine wpAnyH_done (by kernel_rfl) ?_ _
      go_wp2_with fail
      go_meet
      have HGG : ∀ k, k = gs ∨ k = gt → k < Bm ∨ E ≤ k := fun k hk => by
       rcases hk with rfl | rfl
       ·exact GS1.out
       ·exact GT1.out
      exact ⟨gs, gt, v6, rfl, rfl, ZS.out, ZT.out, (CE.out.keptE SP.out HK.out HE.out HGG).more (Nat.le_trans HE.out HK.out.size), D6.out, BW.out⟩
    ·skip
     go_simp
     have hb : Below wm.heap.size wm (wm.alloc (.cells (mfL Mf.zero nilV).toArray 30)) := (Below.refl _ _).alloc (Nat.le_refl _) _
     have ZT := qH (MB.new wm MfT.zero nilV)
     have LT : Hid (wo.heap.size ≤ wm.heap.size) := BW.out.size
     have GT1 : Hid (wm.heap.size < Bm ∨ E ≤ wm.heap.size) := .inr HE.out
     replace CE := qH (CE.out.below (hb.mono HE.out))
     replace SP := qH (SP.out.to hb)
     replace HE := qH (Nat.le_trans HE.out hb.size)
     replace BW := qH (BW.out.trans (hb.mono BW.out.size))
     clear hb
     refine hK.out _ _ BW.out (fun hHeld => ?_)
     clear hK K hHeld
     generalize wm.alloc (.cells (mfL Mf.zero nilV).toArray 30) = wn at *
     generalize wm.heap.size = gt at *
     obtain ⟨wm, hwm⟩ : ∃ x, x = wn := ⟨_, rfl⟩
     subst hwm
     have hHeld := BW.out
     refine rd1 6 (fun K hK => ?_)
     ·skip
      go_simp
      have hb : Below wm.heap.size wm (wm.alloc (.cells (mfL Mf.zero nilV).toArray 30)) := (Below.refl _ _).alloc (Nat.le_refl _) _
      have ZS := qH (MB.new wm MfT.zero nilV)
      have LS : Hid (wo.heap.size ≤ wm.heap.size) := BW.out.size
      have NST : Hid (wm.heap.size ≠ gt) := by (show _ ≠ _); have := ZT.out.lt; omega
      have GS1 : Hid (wm.heap.size < Bm ∨ E ≤ wm.heap.size) := .inr HE.out
      replace CE := qH (CE.out.below (hb.mono HE.out))
      replace SP := qH (SP.out.to hb)
      replace HE := qH (Nat.le_trans HE.out hb.size)
      replace BW := qH (BW.out.trans (hb.mono BW.out.size))
      replace ZT := qH (ZT.out.to hb)
      clear hb
      refine hK.out _ _ BW.out (fun hHeld => ?_)
      clear hK K hHeld
      generalize wm.alloc (.cells (mfL Mf.zero nilV).toArray 30) = wn at *
      generalize wm.heap.size = gs at *
      obtain ⟨wm, hwm⟩ : ∃ x, x = wn := ⟨_, rfl⟩
      subst hwm
      have SS := qH (mf_size TS.out v6)
      have SZS : Hid ((mfL Mf.zero nilV).toArray.size = (mfL (sealM kk m2) v6).toArray.size) := by (show _ = _); rw [mfL_size MfT.zero, mfL_size TS.out]
      have HK := qH (keep_twoRows (w := wm) gs gt (mfL (sealM kk m2) v6).toArray (mfL (sealM kk m2) x2).toArray)
      have hHeld := BW.out
      refine rd1 8 (fun K hK => ?_)
      rw [if_pos (by rfl)]
      refine wp_store_row0 30 _ _ rfl rfl gs (mfL (sealM kk m2) v6).toArray rfl rfl 30 _ ZS.out.row SS.out SZS.out (mf_one _ _) ?_
      refine hK.out _ _ ((below_setRow BW.out LS.out _)) (fun hHeld => ?_)
      clear hK K
      clear hHeld
      replace ZT := qH (ZT.out.kept (keep_setRow gs (mfL (sealM kk m2) v6).toArray) (by have := NST.out; omega))
      replace ZS := qH (ZS.out.setRow TS.out v6)
      replace BW := qH (below_setRow BW.out LS.out (mfL (sealM kk m2) v6).toArray)
      generalize wm.setRow gs (mfL (sealM kk m2) v6).toArray = wm1 at *
      have hHeld := BW.out
      refine rd1 9 (fun K hK => ?_)
      rw [if_pos (by rfl)]
      refine wp_store_row0 30 _ _ rfl rfl gt (mfL (sealM kk m2) x2).toArray rfl rfl 30 _ ZT.out.row ST.out SZT.out (mf_one _ _) ?_
      refine hK.out _ _ ((below_setRow BW.out LT.out _)) (fun hHeld => ?_)
      clear hK K
      clear hHeld
      replace ZS := qH (ZS.out.kept (keep_setRow gt (mfL (sealM kk m2) x2).toArray) (by have := NST.out; omega))
      replace ZT := qH (ZT.out.setRow TS.out x2)
      replace BW := qH (below_setRow BW.out LT.out (mfL (sealM kk m2) x2).toArray)
      generalize wm1.setRow gt (mfL (sealM kk m2) x2).toArray = wm3 at *
      refine wpAnyH_done (by kernel_rfl) ?_ _
      go_wp2_with fail
      go_meet
      have HGG : ∀ k, k = gs ∨ k = gt → k < Bm ∨ E ≤ k := fun k hk => by
       rcases hk with rfl | rfl
       ·exact GS1.out
       ·exact GT1.out
      exact ⟨gs, gt, v6, rfl, rfl, ZS.out, ZT.out, (CE.out.keptE SP.out HK.out HE.out HGG).more (Nat.le_trans HE.out HK.out.size), D6.out, BW.out⟩
   ·skip
    go_simp
    have hb : Below wm.heap.size wm (wm.alloc (.cells (mfL Mf.zero nilV).toArray 30)) := (Below.refl _ _).alloc (Nat.le_refl _) _
    have ZS := qH (MB.new wm MfT.zero nilV)
    have LS : Hid (wo.heap.size ≤ wm.heap.size) := BW.out.size
    have GS1 : Hid (wm.heap.size < Bm ∨ E ≤ wm.heap.size) := .inr HE.out
    replace CE := qH (CE.out.below (hb.mono HE.out))
    replace SP := qH (SP.out.to hb)
    replace HE := qH (Nat.le_trans HE.out hb.size)
    replace BW := qH (BW.out.trans (hb.mono BW.out.size))
    clear hb
    refine hK.out _ _ BW.out (fun hHeld => ?_)
    clear hK K hHeld
    generalize wm.alloc (.cells (mfL Mf.zero nilV).toArray 30) = wn at *
    generalize wm.heap.size = gs at *
    obtain ⟨wm, hwm⟩ : ∃ x, x = wn := ⟨_, rfl⟩
    subst hwm
    have hHeld := BW.out
    refine wpAnyH_ready (rs := [5, 7]) (by kernel_rfl) (by simp) ?_
    refine AllReadyH.cons rfl (fun K hK => ?_) (AllReadyH.cons rfl (fun K hK => ?_) AllReadyH.nil)
    ·skip
     go_simp
     refine (rSealM a0 len0 cap0 kk x2 m2 wm (RK.out.to BW.out) (by have := H2.out; omega) (R.out.to BW.out) D.out).mono ?_
     rintro e wn ⟨rfl, hb⟩
     replace CE := qH (CE.out.below (hb.mono HE.out))
     replace SP := qH (SP.out.to hb)
     replace HE := qH (Nat.le_trans HE.out hb.size)
     replace BW := qH (BW.out.trans (hb.mono BW.out.size))
     replace ZS := qH (ZS.out.to hb)
     clear hb
     go_wp2_with fail
     refine hK.out _ _ BW.out (fun hHeld => ?_)
     clear hK K hHeld
     obtain ⟨wm, hwm⟩ : ∃ x, x = wn := ⟨_, rfl⟩
     subst hwm
     have hHeld := BW.out
     refine rd1 7 (fun K hK => ?_)
     ·skip
      go_simp
      have hb : Below wm.heap.size wm (wm.alloc (.cells (mfL Mf.zero nilV).toArray 30)) := (Below.refl _ _).alloc (Nat.le_refl _) _
      have ZT := qH (MB.new wm MfT.zero nilV)
      have LT : Hid (wo.heap.size ≤ wm.heap.size) := BW.out.size
      have NST : Hid (gs ≠ wm.heap.size) := by (show _ ≠ _); have := ZS.out.lt; omega
      have GT1 : Hid (wm.heap.size < Bm ∨ E ≤ wm.heap.size) := .inr HE.out
      replace CE := qH (CE.out.below (hb.mono HE.out))
      replace SP := qH (SP.out.to hb)
      replace HE := qH (Nat.le_trans HE.out hb.size)
      replace BW := qH (BW.out.trans (hb.mono BW.out.size))
      replace ZS := qH (ZS.out.to hb)
      clear hb
      refine hK.out _ _ BW.out (fun hHeld => ?_)
      clear hK K hHeld
      generalize wm.alloc (.cells (mfL Mf.zero nilV).toArray 30) = wn at *
      generalize wm.heap.size = gt at *
      obtain ⟨wm, hwm⟩ : ∃ x, x = wn := ⟨_, rfl⟩
      subst hwm
      have SS := qH (mf_size TS.out v6)
      have SZS : Hid ((mfL Mf.zero nilV).toArray.size = (mfL (sealM kk m2) v6).toArray.size) := by (show _ = _); rw [mfL_size MfT.zero, mfL_size TS.out]
      have HK := qH (keep_twoRows (w := wm) gs gt (mfL (sealM kk m2) v6).toArray (mfL (sealM kk m2) x2).toArray)
      have hHeld := BW.out
      refine rd1 8 (fun K hK => ?_)
      rw [if_pos (by rfl)]
      refine wp_store_row0 30 _ _ rfl rfl gs (mfL (sealM kk m2) v6).toArray rfl rfl 30 _ ZS.out.row SS.out SZS.out (mf_one _ _) ?_
      refine hK.out _ _ ((below_setRow BW.out LS.out _)) (fun hHeld => ?_)
      clear hK K
      clear hHeld
      replace ZT := qH (ZT.out.kept (keep_setRow gs (mfL (sealM kk m2) v6).toArray) (by have := NST.out; omega))
      replace ZS := qH (ZS.out.setRow TS.out v6)
      replace BW := qH (below_setRow BW.out LS.out (mfL (sealM kk m2) v6).toArray)
      generalize wm.setRow gs (mfL (sealM kk m2) v6).toArray = wm1 at *
      have hHeld := BW.out
      refine rd1 9 (fun K hK => ?_)
      rw [if_pos (by rfl)]
      refine wp_store_row0 30 _ _ rfl rfl gt (mfL (sealM kk m2) x2).toArray rfl rfl 30 _ ZT.out.row ST.out SZT.out (mf_one _ _) ?_
      refine hK.out _ _ ((below_setRow BW.out LT.out _)) (fun hHeld => ?_)
      clear hK K
      clear hHeld
      replace ZS := qH (ZS.out.kept (keep_setRow gt (mfL (sealM kk m2) x2).toArray) (by have := NST.out; omega))
      replace ZT := qH (ZT.out.setRow TS.out x2)
      replace BW := qH (below_setRow BW.out LT.out (mfL (sealM kk m2) x2).toArray)
      generalize wm1.setRow gt (mfL (sealM kk m2) x2).toArray = wm3 at *
      refine wpAnyH_done (by kernel_rfl) ?_ _
      go_wp2_with fail
      go_meet
      have HGG : ∀ k, k = gs ∨ k = gt → k < Bm ∨ E ≤ k := fun k hk => by
       rcases hk with rfl | rfl
       ·exact GS1.out
       ·exact GT1.out
      exact ⟨gs, gt, v6, rfl, rfl, ZS.out, ZT.out, (CE.out.keptE SP.out HK.out HE.out HGG).more (Nat.le_trans HE.out HK.out.size), D6.out, BW.out⟩
    ·skip
     go_simp
     have hb : Below wm.heap.size wm (wm.alloc (.cells (mfL Mf.zero nilV).toArray 30)) := (Below.refl _ _).alloc (Nat.le_refl _) _
     have ZT := qH (MB.new wm MfT.zero nilV)
     have LT : Hid (wo.heap.size ≤ wm.heap.size) := BW.out.size
     have NST : Hid (gs ≠ wm.heap.size) := by (show _ ≠ _); have := ZS.out.lt; omega
     have GT1 : Hid (wm.heap.size < Bm ∨ E ≤ wm.heap.size) := .inr HE.out
     replace CE := qH (CE.out.below (hb.mono HE.out))
     replace SP := qH (SP.out.to hb)
     replace HE := qH (Nat.le_trans HE.out hb.size)
     replace BW := qH (BW.out.trans (hb.mono BW.out.size))
     replace ZS := qH (ZS.out.to hb)
     clear hb
     refine hK.out _ _ BW.out (fun hHeld => ?_)
     clear hK K hHeld
     generalize wm.alloc (.cells (mfL Mf.zero nilV).toArray 30) = wn at *
     generalize wm.heap.size = gt at *
     obtain ⟨wm, hwm⟩ : ∃ x, x = wn := ⟨_, rfl⟩
     subst hwm
     have hHeld := BW.out
     refine rd1 5 (fun K hK => ?_)
     ·skip
      go_simp
      refine (rSealM a0 len0 cap0 kk x2 m2 wm (RK.out.to BW.out) (by have := H2.out; omega) (R.out.to BW.out) D.out).mono ?_
      rintro e wn ⟨rfl, hb⟩
      replace CE := qH (CE.out.below (hb.mono HE.out))
      replace SP := qH (SP.out.to hb)
      replace HE := qH (Nat.le_trans HE.out hb.size)
      replace BW := qH (BW.out.trans (hb.mono BW.out.size))
      replace ZS := qH (ZS.out.to hb)
      replace ZT := qH (ZT.out.to hb)
      clear hb
      go_wp2_with fail
      refine hK.out _ _ BW.out (fun hHeld => ?_)
      clear hK K hHeld
      obtain ⟨wm, hwm⟩ : ∃ x, x = wn := ⟨_, rfl⟩
      subst hwm
      have SS := qH (mf_size TS.out v6)
      have SZS : Hid ((mfL Mf.zero nilV).toArray.size = (mfL (sealM kk m2) v6).toArray.size) := by (show _ = _); rw [mfL_size MfT.zero, mfL_size TS.out]
      have HK := qH (keep_twoRows (w := wm) gs gt (mfL (sealM kk m2) v6).toArray (mfL (sealM kk m2) x2).toArray)
      have hHeld := BW.out
      refine rd1 8 (fun K hK => ?_)
      rw [if_pos (by rfl)]
      refine wp_store_row0 30 _ _ rfl rfl gs (mfL (sealM kk m2) v6).toArray rfl rfl 30 _ ZS.out.row SS.out SZS.out (mf_one _ _) ?_
      refine hK.out _ _ ((below_setRow BW.out LS.out _)) (fun hHeld => ?_)
      clear hK K
      clear hHeld
      replace ZT := qH (ZT.out.kept (keep_setRow gs (mfL (sealM kk m2) v6).toArray) (by have := NST.out; omega))
      replace ZS := qH (ZS.out.setRow TS.out v6)
      replace BW := qH (below_setRow BW.out LS.out (mfL (sealM kk m2) v6).toArray)
      generalize wm.setRow gs (mfL (sealM kk m2) v6).toArray = wm1 at *
      have hHeld := BW.out
      refine rd1 9 (fun K hK => ?_)
      rw [if_pos (by rfl)]
      refine wp_store_row0 30 _ _ rfl rfl gt (mfL (sealM kk m2) x2).toArray rfl rfl 30 _ ZT.out.row ST.out SZT.out (mf_one _ _) ?_
      refine hK.out _ _ ((below_setRow BW.out LT.out _)) (fun hHeld => ?_)
      clear hK K
      clear hHeld
      replace ZS := qH (ZS.out.kept (keep_setRow gt (mfL (sealM kk m2) x2).toArray) (by have := NST.out; omega))
      replace ZT := qH (ZT.out.setRow TS.out x2)
      replace BW := qH (below_setRow BW.out LT.out (mfL (sealM kk m2) x2).toArray)
      generalize wm1.setRow gt (mfL (sealM kk m2) x2).toArray = wm3 at *
      refine wpAnyH_done (by kernel_rfl) ?_ _
      go_wp2_with fail
      go_meet
      have HGG : ∀ k, k = gs ∨ k = gt → k < Bm ∨ E ≤ k := fun k hk => by
       rcases hk with rfl | rfl
       ·exact GS1.out
       ·exact GT1.out
      exact ⟨gs, gt, v6, rfl, rfl, ZS.out, ZT.out, (CE.out.keptE SP.out HK.out HE.out HGG).more (Nat.le_trans HE.out HK.out.size), D6.out, BW.out⟩
   ·skip
    go_simp
    have hb : Below wm.heap.size wm (wm.alloc (.cells (mfL Mf.zero nilV).toArray 30)) := (Below.refl _ _).alloc (Nat.le_refl _) _
    have ZT := qH (MB.new wm MfT.zero nilV)
    have LT : Hid (wo.heap.size ≤ wm.heap.size) := BW.out.size
    have GT1 : Hid (wm.heap.size < Bm ∨ E ≤ wm.heap.size) := .inr HE.out
    replace CE := qH (CE.out.below (hb.mono HE.out))
    replace SP := qH (SP.out.to hb)
    replace HE := qH (Nat.le_trans HE.out hb.size)
    replace BW := qH (BW.out.trans (hb.mono BW.out.size))
    clear hb
    refine hK.out _ _ BW.out (fun hHeld => ?_)
    clear hK K hHeld
    generalize wm.alloc (.cells (mfL Mf.zero nilV).toArray 30) = wn at *
    generalize wm.heap.size = gt at *
    obtain ⟨wm, hwm⟩ : ∃ x, x = wn := ⟨_, rfl⟩
    subst hwm
    have hHeld := BW.out
    refine wpAnyH_ready (rs := [5, 6]) (by kernel_rfl) (by simp) ?_
    refine AllReadyH.cons rfl (fun K hK => ?_) (AllReadyH.cons rfl (fun K hK => ?_) AllReadyH.nil)
    ·skip
     go_simp
     refine (rSealM a0 len0 cap0 kk x2 m2 wm (RK.out.to BW.out) (by have := H2.out; omega) (R.out.to BW.out) D.out).mono ?_
     rintro e wn ⟨rfl, hb⟩
     replace CE := qH (CE.out.below (hb.mono HE.out))
     replace SP := qH (SP.out.to hb)
     replace HE := qH (Nat.le_trans HE.out hb.size)
     replace BW := qH (BW.out.trans (hb.mono BW.out.size))
     replace ZT := qH (ZT.out.to hb)
     clear hb
     go_wp2_with fail
     refine hK.out _ _ BW.out (fun hHeld => ?_)
     clear hK K hHeld
     obtain ⟨wm, hwm⟩ : ∃ x, x = wn := ⟨_, rfl⟩
     subst hwm
     have hHeld := BW.out
     refine rd1 6 (fun K hK => ?_)
     ·skip
      go_simp
      have hb : Below wm.heap.size wm (wm.alloc (.cells (mfL Mf.zero nilV).toArray 30)) := (Below.refl _ _).alloc (Nat.le_refl _) _
      have ZS := qH (MB.new wm MfT.zero nilV)
      have LS : Hid (wo.heap.size ≤ wm.heap.size) := BW.out.size
      have NST : Hid (wm.heap.size ≠ gt) := by (show _ ≠ _); have := ZT.out.lt; omega
      have GS1 : Hid (wm.heap.size < Bm ∨ E ≤ wm.heap.size) := .inr HE.out
      replace CE := qH (CE.out.below (hb.mono HE.out))
      replace SP := qH (SP.out.to hb)
      replace HE := qH (Nat.le_trans HE.out hb.size)
      replace BW := qH (BW.out.trans (hb.mono BW.out.size))
      replace ZT := qH (ZT.out.to hb)
      clear hb
      refine hK.out _ _ BW.out (fun hHeld => ?_)
      clear hK K hHeld
      generalize wm.alloc (.cells (mfL Mf.zero nilV).toArray 30) = wn at *
      generalize wm.heap.size = gs at *
      obtain ⟨wm, hwm⟩ : ∃ x, x = wn := ⟨_, rfl⟩
      subst hwm
      have SS := qH (mf_size TS.out v6)
      have SZS : Hid ((mfL Mf.zero nilV).toArray.size = (mfL (sealM kk m2) v6).toArray.size) := by (show _ = _); rw [mfL_size MfT.zero, mfL_size TS.out]
      have HK := qH (keep_twoRows (w := wm) gs gt (mfL (sealM kk m2) v6).toArray (mfL (sealM kk m2) x2).toArray)
      have hHeld := BW.out
      refine rd1 8 (fun K hK => ?_)
      rw [if_pos (by rfl)]
      refine wp_store_row0 30 _ _ rfl rfl gs (mfL (sealM kk m2) v6).toArray rfl rfl 30 _ ZS.out.row SS.out SZS.out (mf_one _ _) ?_
      refine hK.out _ _ ((below_setRow BW.out LS.out _)) (fun hHeld => ?_)
      clear hK K
      clear hHeld
      replace ZT := qH (ZT.out.kept (keep_setRow gs (mfL (sealM kk m2) v6).toArray) (by have := NST.out; omega))
      replace ZS := qH (ZS.out.setRow TS.out v6)
      replace BW := qH (below_setRow BW.out LS.out (mfL (sealM kk m2) v6).toArray)
      generalize wm.setRow gs (mfL (sealM kk m2) v6).toArray = wm1 at *
      have hHeld := BW.out
      refine rd1 9 (fun K hK => ?_)
      rw [if_pos (by rfl)]
      refine wp_store_row0 30 _ _ rfl rfl gt (mfL (sealM kk m2) x2).toArray rfl rfl 30 _ ZT.out.row ST.out SZT.out (mf_one _ _) ?_
      refine hK.out _ _ ((below_setRow BW.out LT.out _)) (fun hHeld => ?_)
      clear hK K
      clear hHeld
      replace ZS := qH (ZS.out.kept (keep_setRow gt (mfL (sealM kk m2) x2).toArray) (by have := NST.out; omega))
      replace ZT := qH (ZT.out.setRow TS.out x2)
      replace BW := qH (below_setRow BW.out LT.out (mfL (sealM kk m2) x2).toArray)
      generalize wm1.setRow gt (mfL (sealM kk m2) x2).toArray = wm3 at *
      refine wpAnyH_done (by kernel_rfl) ?_ _
      go_wp2_with fail
      go_meet
      have HGG : ∀ k, k = gs ∨ k = gt → k < Bm ∨ E ≤ k := fun k hk => by
       rcases hk with rfl | rfl
       ·exact GS1.out
       ·exact GT1.out
      exact ⟨gs, gt, v6, rfl, rfl, ZS.out, ZT.out, (CE.out.keptE SP.out HK.out HE.out HGG).more (Nat.le_trans HE.out HK.out.size), D6.out, BW.out⟩
    ·skip
     go_simp
     have hb : Below wm.heap.size wm (wm.alloc (.cells (mfL Mf.zero nilV).toArray 30)) := (Below.refl _ _).alloc (Nat.le_refl _) _
     have ZS := qH (MB.new wm MfT.zero nilV)
     have LS : Hid (wo.heap.size ≤ wm.heap.size) := BW.out.size
     have NST : Hid (wm.heap.size ≠ gt) := by (show _ ≠ _); have := ZT.out.lt; omega
     have GS1 : Hid (wm.heap.size < Bm ∨ E ≤ wm.heap.size) := .inr HE.out
     replace CE := qH (CE.out.below (hb.mono HE.out))
     replace SP := qH (SP.out.to hb)
     replace HE := qH (Nat.le_trans HE.out hb.size)
     replace BW := qH (BW.out.trans (hb.mono BW.out.size))
     replace ZT := qH (ZT.out.to hb)
     clear hb
     refine hK.out _ _ BW.out (fun hHeld => ?_)
     clear hK K hHeld
     generalize wm.alloc (.cells (mfL Mf.zero nilV).toArray 30) = wn at *
     generalize wm.heap.size = gs at *
     obtain ⟨wm, hwm⟩ : ∃ x, x = wn := ⟨_, rfl⟩
     subst hwm
     have hHeld := BW.out
     refine rd1 5 (fun K hK => ?_)
     ·skip
      go_simp
      refine (rSealM a0 len0 cap0 kk x2 m2 wm (RK.out.to BW.out) (by have := H2.out; omega) (R.out.to BW.out) D.out).mono ?_
      rintro e wn ⟨rfl, hb⟩
      replace CE := qH (CE.out.below (hb.mono HE.out))
      replace SP := qH (SP.out.to hb)
      replace HE := qH (Nat.le_trans HE.out hb.size)
      replace BW := qH (BW.out.trans (hb.mono BW.out.size))
      replace ZT := qH (ZT.out.to hb)
      replace ZS := qH (ZS.out.to hb)
      clear hb
      go_wp2_with fail
      refine hK.out _ _ BW.out (fun hHeld => ?_)
      clear hK K hHeld
      obtain ⟨wm, hwm⟩ : ∃ x, x = wn := ⟨_, rfl⟩
      subst hwm
      have SS := qH (mf_size TS.out v6)
      have SZS : Hid ((mfL Mf.zero nilV).toArray.size = (mfL (sealM kk m2) v6).toArray.size) := by (show _ = _); rw [mfL_size MfT.zero, mfL_size TS.out]
      have HK := qH (keep_twoRows (w := wm) gs gt (mfL (sealM kk m2) v6).toArray (mfL (sealM kk m2) x2).toArray)
      have hHeld := BW.out
      refine rd1 8 (fun K hK => ?_)
      rw [if_pos (by rfl)]
      refine wp_store_row0 30 _ _ rfl rfl gs (mfL (sealM kk m2) v6).toArray rfl rfl 30 _ ZS.out.row SS.out SZS.out (mf_one _ _) ?_
      refine hK.out _ _ ((below_setRow BW.out LS.out _)) (fun hHeld => ?_)
      clear hK K
      clear hHeld
      replace ZT := qH (ZT.out.kept (keep_setRow gs (mfL (sealM kk m2) v6).toArray) (by have := NST.out; omega))
      replace ZS := qH (ZS.out.setRow TS.out v6)
      replace BW := qH (below_setRow BW.out LS.out (mfL (sealM kk m2) v6).toArray)
      generalize wm.setRow gs (mfL (sealM kk m2) v6).toArray = wm1 at *
      have hHeld := BW.out
      refine rd1 9 (fun K hK => ?_)
      rw [if_pos (by rfl)]
      refine wp_store_row0 30 _ _ rfl rfl gt (mfL (sealM kk m2) x2).toArray rfl rfl 30 _ ZT.out.row ST.out SZT.out (mf_one _ _) ?_
      refine hK.out _ _ ((below_setRow BW.out LT.out _)) (fun hHeld => ?_)
      clear hK K
      clear hHeld
      replace ZS := qH (ZS.out.kept (keep_setRow gt (mfL (sealM kk m2) x2).toArray) (by have := NST.out; omega))
      replace ZT := qH (ZT.out.setRow TS.out x2)
      replace BW := qH (below_setRow BW.out LT.out (mfL (sealM kk m2) x2).toArray)
      generalize wm1.setRow gt (mfL (sealM kk m2) x2).toArray = wm3 at *
      refine wpAnyH_done (by kernel_rfl) ?_ _
      go_wp2_with fail
      go_meet
      have HGG : ∀ k, k = gs ∨ k = gt → k < Bm ∨ E ≤ k := fun k hk => by
       rcases hk with rfl | rfl
       ·exact GS1.out
       ·exact GT1.out
      exact ⟨gs, gt, v6, rfl, rfl, ZS.out, ZT.out, (CE.out.keptE SP.out HK.out HE.out HGG).more (Nat.le_trans HE.out HK.out.size), D6.out, BW.out⟩
  ·skip
   go_simp
   have hb : Below wm.heap.size wm (wm.alloc (.cells (mfL Mf.zero nilV).toArray 30)) := (Below.refl _ _).alloc (Nat.le_refl _) _
   have ZS := qH (MB.new wm MfT.zero nilV)
   have LS : Hid (wo.heap.size ≤ wm.heap.size) := BW.out.size
   replace BW := qH (BW.out.trans (hb.mono BW.out.size))
   clear hb
   refine hK.out _ _ BW.out (fun hHeld => ?_)
   clear hK K hHeld
   generalize wm.alloc (.cells (mfL Mf.zero nilV).toArray 30) = wn at *
   generalize wm.heap.size = gs at *
   obtain ⟨wm, hwm⟩ : ∃ x, x = wn := ⟨_, rfl⟩
   subst hwm
   have hHeld := BW.out
   refine wpAnyH_ready (rs := [2, 7]) (by kernel_rfl) (by simp) ?_
   refine AllReadyH.cons rfl (fun K hK => ?_) (AllReadyH.cons rfl (fun K hK => ?_) AllReadyH.nil)
   ·skip
    go_simp
    refine (wSealM a0 len0 cap0 kk v5 m2 wm (HP.out.to BW.out) (RK.out.to BW.out) H2.out HC0.out HC0'.out (R5.out.to BW.out) D5.out).mono ?_
    rintro e wn ⟨v6, rfl, hoc, hbd, hb⟩
    obtain ⟨Bm, hBm⟩ : ∃ x, wm.heap.size = x := ⟨_, rfl⟩
    obtain ⟨E, hE⟩ : ∃ x, wn.heap.size = x := ⟨_, rfl⟩
    have D6 := qH hbd
    have CE : Hid (RdCf wn E v6 m2.cf) := by (show RdCf _ _ _ _); rw [← hE]; exact hoc.rd
    have SP : Hid (Sp wn Bm v6) := by (show Sp _ _ _); rw [← hBm]; exact hoc.sp
    have HE : Hid (E ≤ wn.heap.size) := Nat.le_of_eq hE.symm
    have GS1 : Hid (gs < Bm ∨ E ≤ gs) := .inl (by rw [← hBm]; exact ZS.out.lt)
    clear hoc hbd hBm hE
    replace BW := qH (BW.out.trans (hb.mono BW.out.size))
    replace ZS := qH (ZS.out.to hb)
    clear hb
    go_wp2_with fail
    refine hK.out _ _ BW.out (fun hHeld => ?_)
    clear hK K hHeld
    obtain ⟨wm, hwm⟩ : ∃ x, x = wn := ⟨_, rfl⟩
    subst hwm
    have hHeld := BW.out
    refine wpAnyH_ready (rs := [5, 7]) (by kernel_rfl) (by simp) ?_
    refine AllReadyH.cons rfl (fun K hK => ?_) (AllReadyH.cons rfl (fun K hK => ?_) AllReadyH.nil)
    ·skip
     go_simp
     refine (rSealM a0 len0 cap0 kk x2 m2 wm (RK.out.to BW.out) (by have := H2.out; omega) (R.out.to BW.out) D.out).mono ?_
     rintro e wn ⟨rfl, hb⟩
     replace CE := qH (CE.out.below (hb.mono HE.out))
     replace SP := qH (SP.out.to hb)
     replace HE := qH (Nat.le_trans HE.out hb.size)
     replace BW := qH (BW.out.trans (hb.mono BW.out.size))
     replace ZS := qH (ZS.out.to hb)
     clear hb
     go_wp2_with fail
     refine hK.out _ _ BW.out (fun hHeld => ?_)
     clear hK K hHeld
     obtain ⟨wm, hwm⟩ : ∃ x, x = wn := ⟨_, rfl⟩
     subst hwm
     have hHeld := BW.out
     refine rd1 7 (fun K hK => ?_)
     ·skip
      go_simp
      have hb : Below wm.heap.size wm (wm.alloc (.cells (mfL Mf.zero nilV).toArray 30)) := (Below.refl _ _).alloc (Nat.le_refl _) _
      have ZT := qH (MB.new wm MfT.zero nilV)
      have LT : Hid (wo.heap.size ≤ wm.heap.size) := BW.out.size
      have NST : Hid (gs ≠ wm.heap.size) := by (show _ ≠ _); have := ZS.out.lt; omega
      have GT1 : Hid (wm.heap.size < Bm ∨ E ≤ wm.heap.size) := .inr HE.out
      replace CE := qH (CE.out.below (hb.mono HE.out))
      replace SP := qH (SP.out.to hb)
      replace HE := qH (Nat.le_trans HE.out hb.size)
      replace BW := qH (BW.out.trans (hb.mono BW.out.size))
      replace ZS := qH (ZS.out.to hb)
      clear hb
      refine hK.out _ _ BW.out (fun hHeld => ?_)
      clear hK K hHeld
      generalize wm.alloc (.cells (mfL Mf.zero nilV).toArray 30) = wn at *
      generalize wm.heap.size = gt at *
      obtain ⟨wm, hwm⟩ : ∃ x, x = wn := ⟨_, rfl⟩
      subst hwm
      have SS := qH (mf_size TS.out v6)
      have SZS : Hid ((mfL Mf.zero nilV).toArray.size = (mfL (sealM kk m2) v6).toArray.size) := by (show _ = _); rw [mfL_size MfT.zero, mfL_size TS.out]
      have HK := qH (keep_twoRows (w := wm) gs gt (mfL (sealM kk m2) v6).toArray (mfL (sealM kk m2) x2).toArray)
      have hHeld := BW.out
      refine rd1 8 (fun K hK => ?_)
      rw [if_pos (by rfl)]
      refine wp_store_row0 30 _ _ rfl rfl gs (mfL (sealM kk m2) v6).toArray rfl rfl 30 _ ZS.out.row SS.out SZS.out (mf_one _ _) ?_
      refine hK.out _ _ ((below_setRow BW.out LS.out _)) (fun hHeld => ?_)
      clear hK K
      clear hHeld
      replace ZT := qH (ZT.out.kept (keep_setRow gs (mfL (sealM kk m2) v6).toArray) (by have := NST.out; omega))
      replace ZS := qH (ZS.out.setRow TS.out v6)
      replace BW := qH (below_setRow BW.out LS.out (mfL (sealM kk m2) v6).toArray)
      generalize wm.setRow gs (mfL (sealM kk m2) v6).toArray = wm1 at *
      have hHeld := BW.out
      refine rd1 9 (fun K hK => ?_)
      rw [if_pos (by rfl)]
      refine wp_store_row0 30 _ _ rfl rfl gt (mfL (sealM kk m2) x2).toArray rfl rfl 30 _ ZT.out.row ST.out SZT.out (mf_one _ _) ?_
      refine hK.out _ _ ((below_setRow BW.out LT.out _)) (fun hHeld => ?_)
      clear hK K
      clear hHeld
      replace ZS := qH (ZS.out.kept (keep_setRow gt (mfL (sealM kk m2) x2).toArray) (by have := NST.out; omega))
      replace ZT := qH (ZT.out.setRow TS.out x2)
      replace BW := qH (below_setRow BW.out LT.out (mfL (sealM kk m2) x2).toArray)
      generalize wm1.setRow gt (mfL (sealM kk m2) x2).toArray = wm3 at *
      refine wpAnyH_done (by kernel_rfl) ?_ _
      go_wp2_with fail
      go_meet
      have HGG : ∀ k, k = gs ∨ k = gt → k < Bm ∨ E ≤ k := fun k hk => by
       rcases hk with rfl | rfl
       ·exact GS1.out
       ·exact GT1.out
      exact ⟨gs, gt, v6, rfl, rfl, ZS.out, ZT.out, (CE.out.keptE SP.out HK.out HE.out HGG).more (Nat.le_trans HE.out HK.out.size), D6.out, BW.out⟩
    ·skip
     go_simp
     have hb : Below wm.heap.size wm (wm.alloc (.cells (mfL Mf.zero nilV).toArray 30)) := (Below.refl _ _).alloc (Nat.le_refl _) _
     have ZT := qH (MB.new wm MfT.zero nilV)
     have LT : Hid (wo.heap.size ≤ wm.heap.size) := BW.out.size
     have NST : Hid (gs ≠ wm.heap.size) := by (show _ ≠ _); have := ZS.out.lt; omega
     have GT1 : Hid (wm.heap.size < Bm ∨ E ≤ wm.heap.size) := .inr HE.out
     replace CE := qH (CE.out.below (hb.mono HE.out))
     replace SP := qH (SP.out.to hb)
     replace HE := qH (Nat.le_trans HE.out hb.size)
     replace BW := qH (BW.out.trans (hb.mono BW.out.size))
     replace ZS := qH (ZS.out.to hb)
     clear hb
     refine hK.out _ _ BW.out (fun hHeld => ?_)
     clear hK K hHeld
     generalize wm.alloc (.cells (mfL Mf.zero nilV).toArray 30) = wn at *
     generalize wm.heap.size = gt at *
     obtain ⟨wm, hwm⟩ : ∃ x, x = wn := ⟨_, rfl⟩
     subst hwm
     have hHeld := BW.out
     refine rd1 5 (fun K hK => ?_)
     ·skip
      go_simp
      refine (rSealM a0 len0 cap0 kk x2 m2 wm (RK.out.to BW.out) (by have := H2.out; omega) (R.out.to BW.out) D.out).mono ?_
      rintro e wn ⟨rfl, hb⟩
      replace CE := qH (CE.out.below (hb.mono HE.out))
      replace SP := qH (SP.out.to hb)
      replace HE := qH (Nat.le_trans HE.out hb.size)
      replace BW := qH (BW.out.trans (hb.mono BW.out.size))
      replace ZS := qH (ZS.out.to hb)
      replace ZT := qH (ZT.out.to hb)
      clear hb
      go_wp2_with fail
      refine hK.out _ _ BW.out (fun hHeld => ?_)
      clear hK K hHeld
      obtain ⟨wm, hwm⟩ : ∃ x, x = wn := ⟨_, rfl⟩
      subst hwm
      have SS := qH (mf_size TS.out v6)
      have SZS : Hid ((mfL Mf.zero nilV).toArray.size = (mfL (sealM kk m2) v6).toArray.size) := by (show _ = _); rw [mfL_size MfT.zero, mfL_size TS.out]
      have HK := qH (keep_twoRows (w := wm) gs gt (mfL (sealM kk m2) v6).toArray (mfL (sealM kk m2) x2).toArray)
      have hHeld := BW.out
      refine rd1 8 (fun K hK => ?_)
      rw [if_pos (by rfl)]
      refine wp_store_row0 30 _ _ rfl rfl gs (mfL (sealM kk m2) v6).toArray rfl rfl 30 _ ZS.out.row SS.out SZS.out (mf_one _ _) ?_
      refine hK.out _ _ ((below_setRow BW.out LS.out _)) (fun hHeld => ?_)
      clear hK K
      clear hHeld
      replace ZT := qH (ZT.out.kept (keep_setRow gs (mfL (sealM kk m2) v6).toArray) (by have := NST.out; omega))
      replace ZS := qH (ZS.out.setRow TS.out v6)
      replace BW := qH (below_setRow BW.out LS.out (mfL (sealM kk m2) v6).toArray)
      generalize wm.setRow gs (mfL (sealM kk m2) v6).toArray = wm1 at *
      have hHeld := BW.out
      refine rd1 9 (fun K hK => ?_)
      rw [if_pos (by rfl)]
      refine wp_store_row0 30 _ _ rfl rfl gt (mfL (sealM kk m2) x2).toArray rfl rfl 30 _ ZT.out.row ST.out SZT.out (mf_one _ _) ?_
      refine hK.out _ _ ((below_setRow BW.out LT.out _)) (fun hHeld => ?_)
      clear hK K
      clear hHeld
      replace ZS := qH (ZS.out.kept (keep_setRow gt (mfL (sealM kk m2) x2).toArray) (by have := NST.out; omega))
      replace ZT := qH (ZT.out.setRow TS.out x2)
      replace BW := qH (below_setRow BW.out LT.out (mfL (sealM kk m2) x2).toArray)
      generalize wm1.setRow gt (mfL (sealM kk m2) x2).toArray = wm3 at *
      refine wpAnyH_done (by kernel_rfl) ?_ _
      go_wp2_with fail
      go_meet
      have HGG : ∀ k, k = gs ∨ k = gt → k < Bm ∨ E ≤ k := fun k hk => by
       rcases hk with rfl | rfl
       ·exact GS1.out
       ·exact GT1.out
      exact ⟨gs, gt, v6, rfl, rfl, ZS.out, ZT.out, (CE.out.keptE SP.out HK.out HE.out HGG).more (Nat.le_trans HE.out HK.out.size), D6.out, BW.out⟩
   ·skip
    go_simp
    have hb : Below wm.heap.size wm (wm.alloc (.cells (mfL Mf.zero nilV).toArray 30)) := (Below.refl _ _).alloc (Nat.le_refl _) _
    have ZT := qH (MB.new wm MfT.zero nilV)
    have LT : Hid (wo.heap.size ≤ wm.heap.size) := BW.out.size
    have NST : Hid (gs ≠ wm.heap.size) := by (show _ ≠ _); have := ZS.out.lt; omega
    replace BW := qH (BW.out.trans (hb.mono BW.out.size))
    replace ZS := qH (ZS.out.to hb)
    clear hb
    refine hK.out _ _ BW.out (fun hHeld => ?_)
    clear hK K hHeld
    generalize wm.alloc (.cells (mfL Mf.zero nilV).toArray 30) = wn at *
    generalize wm.heap.size = gt at *
    obtain ⟨wm, hwm⟩ : ∃ x, x = wn := ⟨_, rfl⟩
    subst hwm
    have hHeld := BW.out
    refine rd1 2 (fun K hK => ?_)
    ·skip
     go_simp
     refine (wSealM a0 len0 cap0 kk v5 m2 wm (HP.out.to BW.out) (RK.out.to BW.out) H2.out HC0.out HC0'.out (R5.out.to BW.out) D5.out).mono ?_
     rintro e wn ⟨v6, rfl, hoc, hbd, hb⟩
     obtain ⟨Bm, hBm⟩ : ∃ x, wm.heap.size = x := ⟨_, rfl⟩
     obtain ⟨E, hE⟩ : ∃ x, wn.heap.size = x := ⟨_, rfl⟩
     have D6 := qH hbd
     have CE : Hid (RdCf wn E v6 m2.cf) := by (show RdCf _ _ _ _); rw [← hE]; exact hoc.rd
     have SP : Hid (Sp wn Bm v6) := by (show Sp _ _ _); rw [← hBm]; exact hoc.sp
     have HE : Hid (E ≤ wn.heap.size) := Nat.le_of_eq hE.symm
     have GS1 : Hid (gs < Bm ∨ E ≤ gs) := .inl (by rw [← hBm]; exact ZS.out.lt)
     have GT1 : Hid (gt < Bm ∨ E ≤ gt) := .inl (by rw [← hBm]; exact ZT.out.lt)
     clear hoc hbd hBm hE
     replace BW := qH (BW.out.trans (hb.mono BW.out.size))
     replace ZS := qH (ZS.out.to hb)
     replace ZT := qH (ZT.out.to hb)
     clear hb
     go_wp2_with fail
     refine hK.out _ _ BW.out (fun hHeld => ?_)
     clear hK K hHeld
     obtain ⟨wm, hwm⟩ : ∃ x, x = wn := ⟨_, rfl⟩
     subst hwm
     have hHeld := BW.out
     refine rd1 5 (fun K hK => ?_)
     ·skip
      go_simp
      refine (rSealM a0 len0 cap0 kk x2 m2 wm (RK.out.to BW.out) (by have := H2.out; omega) (R.out.to BW.out) D.out).mono ?_
      rintro e wn ⟨rfl, hb⟩
      replace CE := qH (CE.out.below (hb.mono HE.out))
      replace SP := qH (SP.out.to hb)
      replace HE := qH (Nat.le_trans HE.out hb.size)
      replace BW := qH (BW.out.trans (hb.mono BW.out.size))
      replace ZS := qH (ZS.out.to hb)
      replace ZT := qH (ZT.out.to hb)
      clear hb
      go_wp2_with fail
      refine hK.out _ _ BW.out (fun hHeld => ?_)
      clear hK K hHeld
      obtain ⟨wm, hwm⟩ : ∃ x, x = wn := ⟨_, rfl⟩
      subst hwm
      have SS := qH (mf_size TS.out v6)
      have SZS : Hid ((mfL Mf.zero nilV).toArray.size = (mfL (sealM kk m2) v6).toArray.size) := by (show _ = _); rw [mfL_size MfT.zero, mfL_size TS.out]
      have HK := qH (keep_twoRows (w := wm) gs gt (mfL (sealM kk m2) v6).toArray (mfL (sealM kk m2) x2).toArray)
      have hHeld := BW.out
      refine rd1 8 (fun K hK => ?_)
      rw [if_pos (by rfl)]
      refine wp_store_row0 30 _ _ rfl rfl gs (mfL (sealM kk m2) v6).toArray rfl rfl 30 _ ZS.out.row SS.out SZS.out (mf_one _ _) ?_
      refine hK.out _ _ ((below_setRow BW.out LS.out _)) (fun hHeld => ?_)
      clear hK K
      clear hHeld
      replace ZT := qH (ZT.out.kept (keep_setRow gs (mfL (sealM kk m2) v6).toArray) (by have := NST.out; omega))
      replace ZS := qH (ZS.out.setRow TS.out v6)
      replace BW := qH (below_setRow BW.out LS.out (mfL (sealM kk m2) v6).toArray)
      generalize wm.setRow gs (mfL (sealM kk m2) v6).toArray = wm1 at *
      have hHeld := BW.out
      refine rd1 9 (fun K hK => ?_)
      rw [if_pos (by rfl)]
      refine wp_store_row0 30 _ _ rfl rfl gt (mfL (sealM kk m2) x2).toArray rfl rfl 30 _ ZT.out.row ST.out SZT.out (mf_one _ _) ?_
      refine hK.out _ _ ((below_setRow BW.out LT.out _)) (fun hHeld => ?_)
      clear hK K
      clear hHeld
      replace ZS := qH (ZS.out.kept (keep_setRow gt (mfL (sealM kk m2) x2).toArray) (by have := NST.out; omega))
      replace ZT := qH (ZT.out.setRow TS.out x2)
      replace BW := qH (below_setRow BW.out LT.out (mfL (sealM kk m2) x2).toArray)
      generalize wm1.setRow gt (mfL (sealM kk m2) x2).toArray = wm3 at *
      refine wpAnyH_done (by kernel_rfl) ?_ _
      go_wp2_with fail
      go_meet
      have HGG : ∀ k, k = gs ∨ k = gt → k < Bm ∨ E ≤ k := fun k hk => by
       rcases hk with rfl | rfl
       ·exact GS1.out
       ·exact GT1.out
      exact ⟨gs, gt, v6, rfl, rfl, ZS.out, ZT.out, (CE.out.keptE SP.out HK.out HE.out HGG).more (Nat.le_trans HE.out HK.out.size), D6.out, BW.out⟩
  ·skip
   go_simp
   have hb : Below wm.heap.size wm (wm.alloc (.cells (mfL Mf.zero nilV).toArray 30)) := (Below.refl _ _).alloc (Nat.le_refl _) _
   have ZT := qH (MB.new wm MfT.zero nilV)
   have LT : Hid (wo.heap.size ≤ wm.heap.size) := BW.out.size
   replace BW := qH (BW.out.trans (hb.mono BW.out.size))
   clear hb
   refine hK.out _ _ BW.out (fun hHeld => ?_)
   clear hK K hHeld
   generalize wm.alloc (.cells (mfL Mf.zero nilV).toArray 30) = wn at *
   generalize wm.heap.size = gt at *
   obtain ⟨wm, hwm⟩ : ∃ x, x = wn := ⟨_, rfl⟩
   subst hwm
   have hHeld := BW.out
   refine wpAnyH_ready (rs := [2, 6]) (by kernel_rfl) (by simp) ?_
   refine AllReadyH.cons rfl (fun K hK => ?_) (AllReadyH.cons rfl (fun K hK => ?_) AllReadyH.nil)
   ·skip
    go_simp
    refine (wSealM a0 len0 cap0 kk v5 m2 wm (HP.out.to BW.out) (RK.out.to BW.out) H2.out HC0.out HC0'.out (R5.out.to BW.out) D5.out).mono ?_
    rintro e wn ⟨v6, rfl, hoc, hbd, hb⟩
    obtain ⟨Bm, hBm⟩ : ∃ x, wm.heap.size = x := ⟨_, rfl⟩
    obtain ⟨E, hE⟩ : ∃ x, wn.heap.size = x := ⟨_, rfl⟩
    have D6 := qH hbd
    have CE : Hid (RdCf wn E v6 m2.cf) := by (show RdCf _ _ _ _); rw [← hE]; exact hoc.rd
    have SP : Hid (Sp wn Bm v6) := by (show Sp _ _ _); rw [← hBm]; exact hoc.sp
    have HE : Hid (E ≤ wn.heap.size) := Nat.le_of_eq hE.symm
    have GT1 : Hid (gt < Bm ∨ E ≤ gt) := .inl (by rw [← hBm]; exact ZT.out.lt)
    clear hoc hbd hBm hE
    replace BW := qH (BW.out.trans (hb.mono BW.out.size))
    replace ZT := qH (ZT.out.to hb)
    clear hb
    go_wp2_with fail
    refine hK.out _ _ BW.out (fun hHeld => ?_)
    clear hK K hHeld
    obtain ⟨wm, hwm⟩ : ∃ x, x = wn := ⟨_, rfl⟩
    subst hwm
    have hHeld := BW.out
    refine wpAnyH_ready (rs := [5, 6]) (by kernel_rfl) (by simp) ?_
    refine AllReadyH.cons rfl (fun K hK => ?_) (AllReadyH.cons rfl (fun K hK => ?_) AllReadyH.nil)
    ·skip
     go_simp
     refine (rSealM a0 len0 cap0 kk x2 m2 wm (RK.out.to BW.out) (by have := H2.out; omega) (R.out.to BW.out) D.out).mono ?_
     rintro e wn ⟨rfl, hb⟩
     replace CE := qH (CE.out.below (hb.mono HE.out))
     replace SP := qH (SP.out.to hb)
     replace HE := qH (Nat.le_trans HE.out hb.size)
     replace BW := qH (BW.out.trans (hb.mono BW.out.size))
     replace ZT := qH (ZT.out.to hb)
     clear hb
     go_wp2_with fail
     refine hK.out _ _ BW.out (fun hHeld => ?_)
     clear hK K hHeld
     obtain ⟨wm, hwm⟩ : ∃ x, x = wn := ⟨_, rfl⟩
     subst hwm
     have hHeld := BW.out
     refine rd1 6 (fun K hK => ?_)
     ·skip
      go_simp
      have hb : Below wm.heap.size wm (wm.alloc (.cells (mfL Mf.zero nilV).toArray 30)) := (Below.refl _ _).alloc (Nat.le_refl _) _
      have ZS := qH (MB.new wm MfT.zero nilV)
      have LS : Hid (wo.heap.size ≤ wm.heap.size) := BW.out.size
      have NST : Hid (wm.heap.size ≠ gt) := by (show _ ≠ _); have := ZT.out.lt; omega
      have GS1 : Hid (wm.heap.size < Bm ∨ E ≤ wm.heap.size) := .inr HE.out
      replace CE := qH (CE.out.below (hb.mono HE.out))
      replace SP := qH (SP.out.to hb)
      replace HE := qH (Nat.le_trans HE.out hb.size)
      replace BW := qH (BW.out.trans (hb.mono BW.out.size))
      replace ZT := qH (ZT.out.to hb)
      clear hb
      refine hK.out _ _ BW.out (fun hHeld => ?_)
      clear hK K hHeld
      generalize wm.alloc (.cells (mfL Mf.zero nilV).toArray 30) = wn at *
      generalize wm.heap.size = gs at *
      obtain ⟨wm, hwm⟩ : ∃ x, x = wn := ⟨_, rfl⟩
      subst hwm
      have SS := qH (mf_size TS.out v6)
      have SZS : Hid ((mfL Mf.zero nilV).toArray.size = (mfL (sealM kk m2) v6).toArray.size) := by (show _ = _); rw [mfL_size MfT.zero, mfL_size TS.out]
      have HK := qH (keep_twoRows (w := wm) gs gt (mfL (sealM kk m2) v6).toArray (mfL (sealM kk m2) x2).toArray)
      have hHeld := BW.out
      refine rd1 8 (fun K hK => ?_)
      rw [if_pos (by rfl)]
      refine wp_store_row0 30 _ _ rfl rfl gs (mfL (sealM kk m2) v6).toArray rfl rfl 30 _ ZS.out.row SS.out SZS.out (mf_one _ _) ?_
      refine hK.out _ _ ((below_setRow BW.out LS.out _)) (fun hHeld => ?_)
      clear hK K
      clear hHeld
      replace ZT := qH (ZT.out.kept (keep_setRow gs (mfL (sealM kk m2) v6).toArray) (by have := NST.out; omega))
      replace ZS := qH (ZS.out.setRow TS.out v6)
      replace BW := qH (below_setRow BW.out LS.out (mfL (sealM kk m2) v6).toArray)
      generalize wm.setRow gs (mfL (sealM kk m2) v6).toArray = wm1 at *
      have hHeld := BW.out
      refine rd1 9 (fun K hK => ?_)
      rw [if_pos (by rfl)]
      refine wp_store_row0 30 _ _ rfl rfl gt (mfL (sealM kk m2) x2).toArray rfl rfl 30 _ ZT.out.row ST.out SZT.out (mf_one _ _) ?_
      refine hK.out _ _ ((below_setRow BW.out LT.out _)) (fun hHeld => ?_)
      clear hK K
      clear hHeld
      replace ZS := qH (ZS.out.kept (keep_setRow gt (mfL (sealM kk m2) x2).toArray) (by have := NST.out; omega))
      replace ZT := qH (ZT.out.setRow TS.out x2)
      replace BW := qH (below_setRow BW.out LT.out (mfL (sealM kk m2) x2).toArray)
      generalize wm1.setRow gt (mfL (sealM kk m2) x2).toArray = wm3 at *
      refine wpAnyH_done (by kernel_rfl) ?_ _
      go_wp2_with fail
      go_meet
      have HGG : ∀ k, k = gs ∨ k = gt → k < Bm ∨ E ≤ k := fun k hk => by
       rcases hk with rfl | rfl
       ·exact GS1.out
       ·exact GT1.out
      exact ⟨gs, gt, v6, rfl, rfl, ZS.out, ZT.out, (CE.out.keptE SP.out HK.out HE.out HGG).more (Nat.le_trans HE.out HK.out.size), D6.out, BW.out⟩
    ·skip
     go_simp
     have hb : Below wm.heap.size wm (wm.alloc (.cells (mfL Mf.zero nilV).toArray 30)) := (Below.refl _ _).alloc (Nat.le_refl _) _
     have ZS := qH (MB.new wm MfT.zero nilV)
     have LS : Hid (wo.heap.size ≤ wm.heap.size) := BW.out.size
     have NST : Hid (wm.heap.size ≠ gt) := by (show _ ≠ _); have := ZT.out.lt; omega
     have GS1 : Hid (wm.heap.size < Bm ∨ E ≤ wm.heap.size) := .inr HE.out
     replace CE := qH (CE.out.below (hb.mono HE.out))
     replace SP := qH (SP.out.to hb)
     replace HE := qH (Nat.le_trans HE.out hb.size)
     replace BW := qH (BW.out.trans (hb.mono BW.out.size))
     replace ZT := qH (ZT.out.to hb)
     clear hb
     refine hK.out _ _ BW.out (fun hHeld => ?_)
     clear hK K hHeld
     generalize wm.alloc (.cells (mfL Mf.zero nilV).toArray 30) = wn at *
     generalize wm.heap.size = gs at *
     obtain ⟨wm, hwm⟩ : ∃ x, x = wn := ⟨_, rfl⟩
     subst hwm
     have hHeld := BW.out
     refine rd1 5 (fun K hK => ?_)
     ·skip
      go_simp
      refine (rSealM a0 len0 cap0 kk x2 m2 wm (RK.out.to BW.out) (by have := H2.out; omega) (R.out.to BW.out) D.out).mono ?_
      rintro e wn ⟨rfl, hb⟩
      replace CE := qH (CE.out.below (hb.mono HE.out))
      replace SP := qH (SP.out.to hb)
      replace HE := qH (Nat.le_trans HE.out hb.size)
      replace BW := qH (BW.out.trans (hb.mono BW.out.size))
      replace ZT := qH (ZT.out.to hb)
      replace ZS := qH (ZS.out.to hb)
      clear hb
      go_wp2_with fail
      refine hK.out _ _ BW.out (fun hHeld => ?_)
      clear hK K hHeld
      obtain ⟨wm, hwm⟩ : ∃ x, x = wn := ⟨_, rfl⟩
      subst hwm
      have SS := qH (mf_size TS.out v6)
      have SZS : Hid ((mfL Mf.zero nilV).toArray.size = (mfL (sealM kk m2) v6).toArray.size) := by (show _ = _); rw [mfL_size MfT.zero, mfL_size TS.out]
      have HK := qH (keep_twoRows (w := wm) gs gt (mfL (sealM kk m2) v6).toArray (mfL (sealM kk m2) x2).toArray)
      have hHeld := BW.out
      refine rd1 8 (fun K hK => ?_)
      rw [if_pos (by rfl)]
      refine wp_store_row0 30 _ _ rfl rfl gs (mfL (sealM kk m2) v6).toArray rfl rfl 30 _ ZS.out.row SS.out SZS.out (mf_one _ _) ?_
      refine hK.out _ _ ((below_setRow BW.out LS.out _)) (fun hHeld => ?_)
      clear hK K
      clear hHeld
      replace ZT := qH (ZT.out.kept (keep_setRow gs (mfL (sealM kk m2) v6).toArray) (by have := NST.out; omega))
      replace ZS := qH (ZS.out.setRow TS.out v6)
      replace BW := qH (below_setRow BW.out LS.out (mfL (sealM kk m2) v6).toArray)
      generalize wm.setRow gs (mfL (sealM kk m2) v6).toArray = wm1 at *
      have hHeld := BW.out
      refine rd1 9 (fun K hK => ?_)
      rw [if_pos (by rfl)]
      refine wp_store_row0 30 _ _ rfl rfl gt (mfL (sealM kk m2) x2).toArray rfl rfl 30 _ ZT.out.row ST.out SZT.out (mf_one _ _) ?_
      refine hK.out _ _ ((below_setRow BW.out LT.out _)) (fun hHeld => ?_)
      clear hK K
      clear hHeld
      replace ZS := qH (ZS.out.kept (keep_setRow gt (mfL (sealM kk m2) x2).toArray) (by have := NST.out; omega))
      replace ZT := qH (ZT.out.setRow TS.out x2)
      replace BW := qH (below_setRow BW.out LT.out (mfL (sealM kk m2) x2).toArray)
      generalize wm1.setRow gt (mfL (sealM kk m2) x2).toArray = wm3 at *
      refine wpAnyH_done (by kernel_rfl) ?_ _
      go_wp2_with fail
      go_meet
      have HGG : ∀ k, k = gs ∨ k = gt → k < Bm ∨ E ≤ k := fun k hk => by
       rcases hk with rfl | rfl
       ·exact GS1.out
       ·exact GT1.out
      exact ⟨gs, gt, v6, rfl, rfl, ZS.out, ZT.out, (CE.out.keptE SP.out HK.out HE.out HGG).more (Nat.le_trans HE.out HK.out.size), D6.out, BW.out⟩
   ·skip
    go_simp
    have hb : Below wm.heap.size wm (wm.alloc (.cells (mfL Mf.zero nilV).toArray 30)) := (Below.refl _ _).alloc (Nat.le_refl _) _
    have ZS := qH (MB.new wm MfT.zero nilV)
    have LS : Hid (wo.heap.size ≤ wm.heap.size) := BW.out.size
    have NST : Hid (wm.heap.size ≠ gt) := by (show _ ≠ _); have := ZT.out.lt; omega
    replace BW := qH (BW.out.trans (hb.mono BW.out.size))
    replace ZT := qH (ZT.out.to hb)
    clear hb
    refine hK.out _ _ BW.out (fun hHeld => ?_)
    clear hK K hHeld
    generalize wm.alloc (.cells (mfL Mf.zero nilV).toArray 30) = wn at *
    generalize wm.heap.size = gs at *
    obtain ⟨wm, hwm⟩ : ∃ x, x = wn := ⟨_, rfl⟩
    subst hwm
    have hHeld := BW.out
    refine rd1 2 (fun K hK => ?_)
    ·skip
     go_simp
     refine (wSealM a0 len0 cap0 kk v5 m2 wm (HP.out.to BW.out) (RK.out.to BW.out) H2.out HC0.out HC0'.out (R5.out.to BW.out) D5.out).mono ?_
     rintro e wn ⟨v6, rfl, hoc, hbd, hb⟩
     obtain ⟨Bm, hBm⟩ : ∃ x, wm.heap.size = x := ⟨_, rfl⟩
     obtain ⟨E, hE⟩ : ∃ x, wn.heap.size = x := ⟨_, rfl⟩
     have D6 := qH hbd
     have CE : Hid (RdCf wn E v6 m2.cf) := by (show RdCf _ _ _ _); rw [← hE]; exact hoc.rd
     have SP : Hid (Sp wn Bm v6) := by (show Sp _ _ _); rw [← hBm]; exact hoc.sp
     have HE : Hid (E ≤ wn.heap.size) := Nat.le_of_eq hE.symm
     have GT1 : Hid (gt < Bm ∨ E ≤ gt) := .inl (by rw [← hBm]; exact ZT.out.lt)
     have GS1 : Hid (gs < Bm ∨ E ≤ gs) := .inl (by rw [← hBm]; exact ZS.out.lt)
     clear hoc hbd hBm hE
     replace BW := qH (BW.out.trans (hb.mono BW.out.size))
     replace ZT := qH (ZT.out.to hb)
     replace ZS := qH (ZS.out.to hb)
     clear hb
     go_wp2_with fail
     refine hK.out _ _ BW.out (fun hHeld => ?_)
     clear hK K hHeld
     obtain ⟨wm, hwm⟩ : ∃ x, x = wn := ⟨_, rfl⟩
     subst hwm
     have hHeld := BW.out
     refine rd1 5 (fun K hK => ?_)
     ·skip
      go_simp
      refine (rSealM a0 len0 cap0 kk x2 m2 wm (RK.out.to BW.out) (by have := H2.out; omega) (R.out.to BW.out) D.out).mono ?_
      rintro e wn ⟨rfl, hb⟩
      replace CE := qH (CE.out.below (hb.mono HE.out))
      replace SP := qH (SP.out.to hb)
      replace HE := qH (Nat.le_trans HE.out hb.size)
      replace BW := qH (BW.out.trans (hb.mono BW.out.size))
      replace ZT := qH (ZT.out.to hb)
      replace ZS := qH (ZS.out.to hb)
      clear hb
      go_wp2_with fail
      refine hK.out _ _ BW.out (fun hHeld => ?_)
      clear hK K hHeld
      obtain ⟨wm, hwm⟩ : ∃ x, x = wn := ⟨_, rfl⟩
      subst hwm
      have SS := qH (mf_size TS.out v6)
      have SZS : Hid ((mfL Mf.zero nilV).toArray.size = (mfL (sealM kk m2) v6).toArray.size) := by (show _ = _); rw [mfL_size MfT.zero, mfL_size TS.out]
      have HK := qH (keep_twoRows (w := wm) gs gt (mfL (sealM kk m2) v6).toArray (mfL (sealM kk m2) x2).toArray)
      have hHeld := BW.out
      refine rd1 8 (fun K hK => ?_)
      rw [if_pos (by rfl)]
      refine wp_store_row0 30 _ _ rfl rfl gs (mfL (sealM kk m2) v6).toArray rfl rfl 30 _ ZS.out.row SS.out SZS.out (mf_one _ _) ?_
      refine hK.out _ _ ((below_setRow BW.out LS.out _)) (fun hHeld => ?_)
      clear hK K
      clear hHeld
      replace ZT := qH (ZT.out.kept (keep_setRow gs (mfL (sealM kk m2) v6).toArray) (by have := NST.out; omega))
      replace ZS := qH (ZS.out.setRow TS.out v6)
      replace BW := qH (below_setRow BW.out LS.out (mfL (sealM kk m2) v6).toArray)
      generalize wm.setRow gs (mfL (sealM kk m2) v6).toArray = wm1 at *
      have hHeld := BW.out
      refine rd1 9 (fun K hK => ?_)
      rw [if_pos (by rfl)]
      refine wp_store_row0 30 _ _ rfl rfl gt (mfL (sealM kk m2) x2).toArray rfl rfl 30 _ ZT.out.row ST.out SZT.out (mf_one _ _) ?_
      refine hK.out _ _ ((below_setRow BW.out LT.out _)) (fun hHeld => ?_)
      clear hK K
      clear hHeld
      replace ZS := qH (ZS.out.kept (keep_setRow gt (mfL (sealM kk m2) x2).toArray) (by have := NST.out; omega))
      replace ZT := qH (ZT.out.setRow TS.out x2)
      replace BW := qH (below_setRow BW.out LT.out (mfL (sealM kk m2) x2).toArray)
      generalize wm1.setRow gt (mfL (sealM kk m2) x2).toArray = wm3 at *
      refine wpAnyH_done (by kernel_rfl) ?_ _
      go_wp2_with fail
      go_meet
      have HGG : ∀ k, k = gs ∨ k = gt → k < Bm ∨ E ≤ k := fun k hk => by
       rcases hk with rfl | rfl
       ·exact GS1.out
       ·exact GT1.out
      exact ⟨gs, gt, v6, rfl, rfl, ZS.out, ZT.out, (CE.out.keptE SP.out HK.out HE.out HGG).more (Nat.le_trans HE.out HK.out.size), D6.out, BW.out⟩
 case rest =>
 obtain ⟨gs, gt, v6, rfl, rfl, hs, ht, hrc, hbd, hb⟩ := hcut
 obtain ⟨wp, hwp⟩ : ∃ x, x = wc := ⟨_, rfl⟩
 subst hwp
 have GS := qH hs
 have GT := qH ht
 have D6 := qH hbd
 have SS := qH (mf_size TS.out v6)
 replace R5 := qH (R5.out.to hb)
 replace N := qH (N.out.to hb)
 replace M := qH (M.out.to hb)
 replace M3 := qH (M3.out.to hb)
 replace R := qH (R.out.to hb)
 replace R3 := qH (R3.out.to hb)
 replace RK := qH (RK.out.to hb)
 replace RO := qH (RO.out.to hb)
 replace HP := qH (HP.out.to hb)
 replace B := qH (B.out.trans (hb.mono B.out.size))
 clear hb hs ht hz hbd
 have RS := qH (RdM.mk (w := wp) (B := wp.heap.size) (v := v6) (m := sealM kk m2) TS.out (by rw [sealM_cf]; exact hrc))
 have RT := qH (RdM.mk (w := wp) (B := wp.heap.size) (v := x2) (m := sealM kk m2) TS.out (by rw [sealM_cf]; exact R.out.cf))
 clear hrc
 go_upto_region 5 with (fail)
 go_cut [59] from 38 to 59 (fun s59 wx => s59 = .bool false ∧ Below wp.heap.size wp wx)
 case first =>
  obtain ⟨wd, hwd⟩ : ∃ x, wp.drew = x := ⟨_, rfl⟩
  have BW : Hid (Below wp.heap.size wp wd) := by (show Below _ _ _); rw [← hwd]; exact (Below.refl _ _).drew
  refine wp_region_held_drew (S := (fun w' => Below wp.heap.size wp w')) (by kernel_rfl) ((Below.refl _ _).drew) (fun hHeld => ?_)
  rw [hwd] at hHeld ⊢
  clear hwd hHeld
  have hHeld := BW.out
  refine tl 0 (.agg (mfL (sealM kk m2) v6).toArray) rfl (yieldsIf_load_row (by rfl) 30 _ rfl gs rfl 30 (mfL (sealM kk m2) v6).toArray (0, 0) _ (fun w' h => (GS.out.to h).row) Tryz.underlying30 rfl SS.out) ?_
  simp only [pR]
  refine tl 1 (.agg (mfL (sealM kk m2) x2).toArray) rfl (yieldsIf_load_row (by rfl) 30 _ rfl gt rfl 30 (mfL (sealM kk m2) x2).toArray (0, 0) _ (fun w' h => (GT.out.to h).row) Tryz.underlying30 rfl ST.out) ?_
  simp only [pR]
  clear hHeld
  refine rd1 2 (fun K hK => ?_)
  go_simp
  refine (rSameM v6 x2 (sealM kk m2) (sealM kk m2) wd (RS.out.to BW.out) (RT.out.to BW.out) D6.out D.out).mono ?_
  rw [same_selfS]
  rintro e wn ⟨rfl, hb⟩
  replace BW := qH (BW.out.trans (hb.mono BW.out.size))
  clear hb
  go_wp2_with fail
  refine hK.out _ _ (BW.out) (fun hHeld => ?_)
  clear hK K
  clear hHeld
  have hHeld := BW.out
  refine tk 3 ?_
  simp only [pR]
  refine tk 4 ?_
  simp only [pR]
  refine tk 5 ?_
  simp only [pR]
  refine tk 8 ?_
  simp only [pR]
  refine tl 6 (.agg (mfL (sealM kk m2) v6).toArray) rfl (yieldsIf_load_row (by rfl) 30 _ rfl gs rfl 30 (mfL (sealM kk m2) v6).toArray (0, 0) _ (fun w' h => (GS.out.to h).row) Tryz.underlying30 rfl SS.out) ?_
  simp only [pR]
  refine tl 9 (.agg (mfL (sealM kk m2) x2).toArray) rfl (yieldsIf_load_row (by rfl) 30 _ rfl gt rfl 30 (mfL (sealM kk m2) x2).toArray (0, 0) _ (fun w' h => (GT.out.to h).row) Tryz.underlying30 rfl ST.out) ?_
  simp only [pR]
  clear hHeld
  refine rd1 7 (fun K hK => ?_)
  go_simp
  refine (wRightM a1 len1 cap1 ko v6 (sealM kk m2) wn (HP.out.to BW.out) (RO.out.to BW.out) H3.out HC1.out HC1'.out (RS.out.to BW.out) D6.out).mono ?_
  rintro e wn2 ⟨rfl, hb⟩
  replace BW := qH (BW.out.trans (hb.mono BW.out.size))
  clear hb
  go_wp2_with fail
  refine hK.out _ _ (BW.out) (fun hHeld => ?_)
  clear hK K
  clear hHeld
  refine rd1 10 (fun K hK => ?_)
  go_simp
  refine (rRightM a1 len1 cap1 ko x2 (sealM kk m2) wn2 (RO.out.to BW.out) (by have := H3.out; omega) (RT.out.to BW.out) D.out).mono ?_
  rintro e wn3 ⟨rfl, hb⟩
  replace BW := qH (BW.out.trans (hb.mono BW.out.size))
  clear hb
  go_wp2_with fail
  refine hK.out _ _ (BW.out) (fun hHeld => ?_)
  clear hK K
  clear hHeld
  obtain ⟨c1, hc1⟩ : ∃ x, rightM ko (sealM kk m2) = x := ⟨_, rfl⟩
  rw [hc1]
  clear hc1
  have hHeld := BW.out
  have hbn1 : (c1 != c1) = false := by simp
  refine tk 11 ?_
  simp only [pR]
  refine tk 12 ?_
  simp only [pR]
  refine tk 13 ?_
  simp only [pR]
  try simp only [hbn1, Bool.or_false, Bool.false_or, bne_self_eq_false]
  refine tk 14 ?_
  simp only [pR]
  refine tk 17 ?_
  simp only [pR]
  refine tl 15 (.agg (mfL m2 v5).toArray) rfl (yieldsIf_load_row (by rfl) 30 _ rfl g5 rfl 30 (mfL m2 v5).toArray (0, 0) _ (fun w' h => (N.out.to h).row) Tryz.underlying30 rfl S5.out) ?_
  simp only [pR]
  refine tl 18 (.agg (mfL m2 x2).toArray) rfl (yieldsIf_load_row (by rfl) 30 _ rfl w.heap.size rfl 30 (mfL m2 x2).toArray (0, 0) _ (fun w' h => (M.out.to h).row) Tryz.underlying30 rfl S0.out) ?_
  simp only [pR]
  clear hHeld
  refine rd1 16 (fun K hK => ?_)
  go_simp
  refine (wRightM a0 len0 cap0 kk v5 m2 wn3 (HP.out.to BW.out) (RK.out.to BW.out) H2.out HC0.out HC0'.out (R5.out.to BW.out) D5.out).mono ?_
  rintro e wn4 ⟨rfl, hb⟩
  replace BW := qH (BW.out.trans (hb.mono BW.out.size))
  clear hb
  go_wp2_with fail
  refine hK.out _ _ (BW.out) (fun hHeld => ?_)
  clear hK K
  clear hHeld
  refine rd1 19 (fun K hK => ?_)
  go_simp
  refine (rRightM a0 len0 cap0 kk x2 m2 wn4 (RK.out.to BW.out) (by have := H2.out; omega) (R.out.to BW.out) D.out).mono ?_
  rintro e wn5 ⟨rfl, hb⟩
  replace BW := qH (BW.out.trans (hb.mono BW.out.size))
  clear hb
  go_wp2_with fail
  refine hK.out _ _ (BW.out) (fun hHeld => ?_)
  clear hK K
  clear hHeld
  obtain ⟨c2, hc2⟩ : ∃ x, rightM kk m2 = x := ⟨_, rfl⟩
  rw [hc2]
  clear hc2
  have hHeld := BW.out
  have hbn2 : (c2 != c2) = false := by simp
  refine tk 20 ?_
  simp only [pR]
  refine tk 21 ?_
  simp only [pR]
  refine wpAnyH_done (by kernel_rfl) ?_ _
  (try simp only [hbn2])
  go_wp2_with fail
  go_meet
  exact ⟨by simp, BW.out⟩
 case rest =>
 obtain ⟨rfl, hb⟩ := hcut
 obtain ⟨wq, hwq⟩ : ∃ x, x = wc := ⟨_, rfl⟩
 subst hwq
 replace R5 := qH (R5.out.to hb)
 replace N := qH (N.out.to hb)
 replace M := qH (M.out.to hb)
 replace M3 := qH (M3.out.to hb)
 replace R := qH (R.out.to hb)
 replace R3 := qH (R3.out.to hb)
 replace RK := qH (RK.out.to hb)
 replace RO := qH (RO.out.to hb)
 replace HP := qH (HP.out.to hb)
 replace B := qH (B.out.trans (hb.mono B.out.size))
 clear hb GS GT RS RT
 go_upto_region 7 with (fail)
 have S3b := S3
 obtain ⟨wd, hwd⟩ : ∃ x, wq.drew = x := ⟨_, rfl⟩
 have BW : Hid (Below wq.heap.size wq wd) := by (show Below _ _ _); rw [← hwd]; exact (Below.refl _ _).drew
 refine wp_region_held_drew (S := (fun w' => Below wq.heap.size wq w')) (by kernel_rfl) ((Below.refl _ _).drew) (fun hHeld => ?_)
 rw [hwd] at hHeld ⊢
 clear hwd hHeld
 have hHeld := BW.out
 refine tl 0 (.agg (mfL m2 v5).toArray) rfl (yieldsIf_load_row (by rfl) 30 _ rfl g5 rfl 30 (mfL m2 v5).toArray (0, 0) _ (fun w' h => (N.out.to h).row) Tryz.underlying30 rfl S5.out) ?_
 simp only [pR]
 refine tl 1 (.agg (mfL m3 x3).toArray) rfl (yieldsIf_load_row (by rfl) 30 _ rfl (w.heap.size + 1) rfl 30 (mfL m3 x3).toArray (0, 0) _ (fun w' h => (M3.out.to h).row) Tryz.underlying30 rfl S3.out) ?_
 simp only [pR]
 refine tl 3 (.agg (mfL m2 x2).toArray) rfl (yieldsIf_load_row (by rfl) 30 _ rfl w.heap.size rfl 30 (mfL m2 x2).toArray (0, 0) _ (fun w' h => (M.out.to h).row) Tryz.underlying30 rfl S0.out) ?_
 simp only [pR]
 refine tl 4 (.agg (mfL m3 x3).toArray) rfl (yieldsIf_load_row (by rfl) 30 _ rfl (w.heap.size + 1) rfl 30 (mfL m3 x3).toArray (0, 0) _ (fun w' h => (M3.out.to h).row) Tryz.underlying30 rfl S3.out) ?_
 simp only [pR]
 clear hHeld
 refine rd1 2 (fun K hK => ?_)
 go_simp
 refine (wSameM v5 x3 m2 m3 wd (R5.out.to BW.out) (R3.out.to BW.out) D5.out D3.out).mono ?_
 rintro e wn ⟨rfl, hb⟩
 replace BW := qH (BW.out.trans (hb.mono BW.out.size))
 clear hb
 go_wp2_with fail
 refine hK.out _ _ (BW.out) (fun hHeld => ?_)
 clear hK K
 clear hHeld
 refine rd1 5 (fun K hK => ?_)
 go_simp
 refine (rSameM x2 x3 m2 m3 wn (R.out.to BW.out) (R3.out.to BW.out) D.out D3.out).mono ?_
 rintro e wn2 ⟨rfl, hb⟩
 replace BW := qH (BW.out.trans (hb.mono BW.out.size))
 clear hb
 go_wp2_with fail
 refine hK.out _ _ (BW.out) (fun hHeld => ?_)
 clear hK K
 clear hHeld
 obtain ⟨cs, hcs⟩ : ∃ x, sameM m2 m3 = x := ⟨_, rfl⟩
 rw [hcs]
 clear hcs
 have hHeld := BW.out
 have hbs : (cs == cs) = true := by simp
 refine tk 6 ?_
 simp only [pR]
 refine tk 7 ?_
 simp only [pR]
 try simp only [hbs]
 refine tl 8 (.agg (mfL m2 v5).toArray) rfl (yieldsIf_load_row (by rfl) 30 _ rfl g5 rfl 30 (mfL m2 v5).toArray (0, 0) _ (fun w' h => (N.out.to h).row) Tryz.underlying30 rfl S5.out) ?_
 simp only [pR]
 refine tl 9 (.agg (mfL m2 x2).toArray) rfl (yieldsIf_load_row (by rfl) 30 _ rfl w.heap.size rfl 30 (mfL m2 x2).toArray (0, 0) _ (fun w' h => (M.out.to h).row) Tryz.underlying30 rfl S0.out) ?_
 simp only [pR]
 clear hHeld
 refine rd1 10 (fun K hK => ?_)
 go_simp
 refine (lCopiedM x2 m2 wn2 (R.out.to BW.out) D.out HNI.out).mono ?_
 rintro e wn3 ⟨v8, qs8, rfl, ho, hb⟩
 replace BW := qH (BW.out.trans (hb.mono BW.out.size))
 have R8 := qH (RdM.mk (w := wn3) (B := wn3.heap.size) (v := v8) (m := m2) M.out.1 ho.cf.rd)
 clear ho hb
 go_wp2_with fail
 refine hK.out _ _ (BW.out) (fun hHeld => ?_)
 clear hK K
 clear hHeld
 have D8 : Hid (Bd v8) := by
  have h := R8.out.cf
  have h1 := R.out.cf
  have d := D.out
  exact ⟨by have := h.ww.1; have := h1.ww.1; have := d.1; omega, by have := h.pp.1; have := h1.pp.1; have := d.2.1; omega, by have := h.cc.1; have := h1.cc.1; have := d.2.2; omega⟩
 refine rd1 11 (fun K hK => ?_)
 go_simp
 refine (wSameM v5 v8 m2 m2 wn3 (R5.out.to BW.out) R8.out D5.out D8.out).mono ?_
 rw [same_selfS]
 rintro e wn4 ⟨rfl, hb⟩
 replace BW := qH (BW.out.trans (hb.mono BW.out.size))
 clear hb
 go_wp2_with fail
 refine hK.out _ _ (BW.out) (fun hHeld => ?_)
 clear hK K
 clear hHeld
 have hHeld := BW.out
 refine tk 12 ?_
 simp only [pR]
 refine tk 13 ?_
 simp only [pR]
 refine tl 14 (.agg (mfL m2 v5).toArray) rfl (yieldsIf_load_row (by rfl) 30 _ rfl g5 rfl 30 (mfL m2 v5).toArray (0, 0) _ (fun w' h => (N.out.to h).row) Tryz.underlying30 rfl S5.out) ?_
 simp only [pR]
 refine tl 15 (.agg (mfL m2 x2).toArray) rfl (yieldsIf_load_row (by rfl) 30 _ rfl w.heap.size rfl 30 (mfL m2 x2).toArray (0, 0) _ (fun w' h => (M.out.to h).row) Tryz.underlying30 rfl S0.out) ?_
 simp only [pR]
 clear hHeld
 refine rd1 16 (fun K hK => ?_)
 go_simp
 refine (rSameM v5 x2 m2 m2 wn4 (R5.out.to BW.out) (R.out.to BW.out) D5.out D.out).mono ?_
 rw [same_selfS]
 rintro e wn5 ⟨rfl, hb⟩
 replace BW := qH (BW.out.trans (hb.mono BW.out.size))
 clear hb
 go_wp2_with fail
 refine hK.out _ _ (BW.out) (fun hHeld => ?_)
 clear hK K
 clear hHeld
 have hHeld := BW.out
 refine tk 17 ?_
 simp only [pR]
 refine tk 18 ?_
 simp only [pR]
 clear hHeld
 refine rd1 19 (fun K hK => ?_)
 go_simp
 refine (lAwakeM wn5 (HP.out.to BW.out)).mono ?_
 rintro e wn6 ⟨rfl, hb⟩
 replace BW := qH (BW.out.trans (hb.mono BW.out.size))
 clear hb
 go_wp2_with fail
 refine hK.out _ _ (BW.out) (fun hHeld => ?_)
 clear hK K
 refine tk 20 ?_
 simp only [pR]
 refine tk 21 ?_
 simp only [pR]
 refine wpAnyH_done (by kernel_rfl) ?_ _
 go_wp2_with fail
 go_ret
 exact ⟨rfl, B.out.trans (BW.out.mono B.out.size)⟩
theorem lifted (os : Os) (started : os.Started) (H : Type) (enc : TypeId × Value → H) :
  ReturnsInHanded {} Tryz.checked os 4 .any (fun w args => (Rows.manifestSealsSpec.pre enc Tryz.prog Tryz.f4 Rows.manifestSealsRow.domain false w args ∧ laidMetH Tryz.prog Rows.manifestSealsRow.laid w) ∧ sizedMet enc Tryz.prog Tryz.f4 (OpenSpec.ofChange Rows.manifestSealsSpec) false w args)
   (Rows.manifestSealsSpec.post enc Tryz.prog Tryz.f4 false true false false) := by
 refine returnsInHanded_of_change_and (C := Tryz.checked) (X := fun w _ => laidMetH Tryz.prog Rows.manifestSealsRow.laid w) (fun _ _ _ hh h => h.of_heap hh) own started (by kernel_rfl) Tryz.func4
  (ChangeSpec.witness_shaped (enc := enc) (C := Tryz.checked) (os := os) (X := fun w _ => laidMetH Tryz.prog Rows.manifestSealsRow.laid w) false (World.doorLaid Tryz.prog 400 os) #[.slice none 0 0, .slice none 0 0, .agg #[.int .i64 0, .int .u8 0, .int .u8 0, .int .u8 0, .int .u8 0, .int .u8 0, .int .u8 0, .int .u8 0, .int .u8 0, .int .u8 0, .int .u8 0, .int .u8 0, .int .u8 0, .int .u8 0, .int .u8 0, .int .u8 0, .int .u8 0, .int .u8 0, .int .u8 0, .int .u8 0, .int .u8 0, .int .u8 0, .int .u8 0, .int .u8 0, .int .u8 0, .int .u8 0, .int .u8 0, .int .u8 0, .int .u8 0, .int .u8 0, .int .u8 0, .int .u8 0, .int .u8 0, .int .i64 0, .slice none 0 0, .slice none 0 0, .slice none 0 0, .int .u8 0, .int .u8 0, .int .u8 0, .int .u8 0, .int .u8 0, .int .u8 0, .int .u8 0, .int .u8 0, .int .u8 0, .int .u8 0, .int .u8 0, .int .u8 0, .int .u8 0, .int .u8 0, .int .u8 0, .int .u8 0, .int .u8 0, .int .u8 0, .int .u8 0, .int .u8 0, .int .u8 0, .int .u8 0, .int .u8 0, .int .u8 0, .int .u8 0, .int .u8 0, .int .u8 0, .int .u8 0, .int .u8 0, .int .u8 0, .int .u8 0, .int .u8 0], .agg #[.int .i64 0, .int .u8 0, .int .u8 0, .int .u8 0, .int .u8 0, .int .u8 0, .int .u8 0, .int .u8 0, .int .u8 0, .int .u8 0, .int .u8 0, .int .u8 0, .int .u8 0, .int .u8 0, .int .u8 0, .int .u8 0, .int .u8 0, .int .u8 0, .int .u8 0, .int .u8 0, .int .u8 0, .int .u8 0, .int .u8 0, .int .u8 0, .int .u8 0, .int .u8 0, .int .u8 0, .int .u8 0, .int .u8 0, .int .u8 0, .int .u8 0, .int .u8 0, .int .u8 0, .int .i64 0, .slice none 0 0, .slice none 0 0, .slice none 0 0, .int .u8 0, .int .u8 0, .int .u8 0, .int .u8 0, .int .u8 0, .int .u8 0, .int .u8 0, .int .u8 0, .int .u8 0, .int .u8 0, .int .u8 0, .int .u8 0, .int .u8 0, .int .u8 0, .int .u8 0, .int .u8 0, .int .u8 0, .int .u8 0, .int .u8 0, .int .u8 0, .int .u8 0, .int .u8 0, .int .u8 0, .int .u8 0, .int .u8 0, .int .u8 0, .int .u8 0, .int .u8 0, .int .u8 0, .int .u8 0, .int .u8 0, .int .u8 0]] 8 rfl (World.shaped_of_RefB (by kernel_rfl) (by kernel_rfl)) (by kernel_rfl) (by kernel_rfl) (by kernel_rfl) (door_met os _)) ?_
 intro W base args ds gs before hval0 hW hcnd hsz0 hL _
 have hval : ∀ (j : Nat) t v, Tryz.f4.params[j]? = some t → args[j]? = some v → Value.okWide Tryz.prog W .any base t v := hval0
 have hsz : (DataW.weightsEach Tryz.prog (Tryz.f4.params.toList ++ Rows.manifestSealsSpec.plain.varTypes Tryz.prog) (ds ++ gs)).all (· ≤ reachBytes) = true := hsz0
 have hW' := hW
 obtain ⟨p, q, hA0, hV, rfl, hfz, hnd⟩ := hW
 have hA : DataW.TrodAll enc Tryz.prog W 0 (fun _ => true) true Tryz.f4.params.toList args.toList ds p := hA0
 rw [Tryz.params4] at hA hval hsz
 obtain ⟨v0, vs0, d0, ds0, p0, q0, hargs, rfl, rfl, h0, r0⟩ := trodAll_cons hA
 obtain ⟨v1, vs1, d1, ds1, p1, q1, rfl, rfl, rfl, h1, r1⟩ := trodAll_cons r0
 obtain ⟨v2, vs2, d2, ds2, p2, q2, rfl, rfl, rfl, h2, r2⟩ := trodAll_cons r1
 obtain ⟨v3, vs3, d3, ds3, p3, q3, rfl, rfl, rfl, h3, r3⟩ := trodAll_cons r2
 obtain ⟨rfl, rfl, rfl⟩ := trodAll_nil r3
 obtain rfl : args = #[v0, v1, v2, v3] := by cases args; simp_all
 obtain ⟨rfl, rfl⟩ := trodVars_none hV
 have sz2 : ∀ x ∈ d2.weights Tryz.prog 30, x ≤ reachBytes := fun x hx => by simpa using List.all_eq_true.1 hsz _ (DataW.weights_mem_each (j := 2) rfl rfl x hx)
 have sz3 : ∀ x ∈ d3.weights Tryz.prog 30, x ≤ reachBytes := fun x hx => by simpa using List.all_eq_true.1 hsz _ (DataW.weights_mem_each (j := 3) rfl rfl x hx)
 obtain ⟨a0, len0, cap0, rfl⟩ := okWide_slice Tryz.underlying31 (hval 0 31 v0 rfl rfl)
 have k0 := h0
 have lt0 : ∀ x ∈ p0, x.block < W.heap.size := by obtain ⟨m, hm⟩ := k0; exact DataW.trod_lt m _ _ _ hm
 obtain ⟨z0, w0⟩ : ∃ zs, IsRow .u8 W a0 len0 cap0 zs := by
  obtain ⟨fuel, hf⟩ := h0
  rcases open_ints Tryz.underlying31 Tryz.underlying5 (by kernel_rfl) hf with ⟨hcs, _⟩ | ⟨x, l, c, zs, hcs, _, hl, hm, hz, _, hcell, hwz⟩
  ·simp [Value.cells] at hcs
   obtain ⟨rfl, rfl, rfl⟩ := hcs
   exact ⟨[], .inl ⟨rfl, rfl, rfl, rfl⟩⟩
  ·simp [Value.cells] at hcs
   obtain ⟨rfl, rfl, rfl⟩ := hcs
   exact ⟨zs, .inr ⟨_, rfl, hl, hm, by simpa using hz, hcell, hwz⟩⟩
 obtain ⟨a1, len1, cap1, rfl⟩ := okWide_slice Tryz.underlying31 (hval 1 31 v1 rfl rfl)
 have k1 := h1
 have lt1 : ∀ x ∈ p1, x.block < W.heap.size := by obtain ⟨m, hm⟩ := k1; exact DataW.trod_lt m _ _ _ hm
 obtain ⟨z1, w1⟩ : ∃ zs, IsRow .u8 W a1 len1 cap1 zs := by
  obtain ⟨fuel, hf⟩ := h1
  rcases open_ints Tryz.underlying31 Tryz.underlying5 (by kernel_rfl) hf with ⟨hcs, _⟩ | ⟨x, l, c, zs, hcs, _, hl, hm, hz, _, hcell, hwz⟩
  ·simp [Value.cells] at hcs
   obtain ⟨rfl, rfl, rfl⟩ := hcs
   exact ⟨[], .inl ⟨rfl, rfl, rfl, rfl⟩⟩
  ·simp [Value.cells] at hcs
   obtain ⟨rfl, rfl, rfl⟩ := hcs
   exact ⟨zs, .inr ⟨_, rfl, hl, hm, by simpa using hz, hcell, hwz⟩⟩
 have k2 := h2
 have lt2 : ∀ x ∈ p2, x.block < W.heap.size := by obtain ⟨m, hm⟩ := k2; exact DataW.trod_lt m _ _ _ hm
 obtain ⟨x2, m2, rfl, w2⟩ := open_mf (hval 2 30 v2 rfl rfl) h2 sz2
 have k3 := h3
 have lt3 : ∀ x ∈ p3, x.block < W.heap.size := by obtain ⟨m, hm⟩ := k3; exact DataW.trod_lt m _ _ _ hm
 obtain ⟨x3, m3, rfl, w3⟩ := open_mf (hval 3 30 v3 rfl rfl) h3 sz3
 clear hA0 hval0
 refine (walk a0 len0 cap0 z0 a1 len1 cap1 z1 x2 m2 x3 m3 W (pr_of_laid hL) w0 w1 w2 w3).mono fun e W' ⟨he, bel⟩ => ?_
 subst he
 exact ⟨_, rfl, _, _, _, [], _, [], hW', trodAll_mk1 (shut_bool Tryz.underlying4 _), (trodAll_cons_mk (Below.trod laidOut (by kernel_rfl) (of_decide_eq_true (by kernel_rfl)) k0 bel lt0) (trodAll_cons_mk (Below.trod laidOut (by kernel_rfl) (of_decide_eq_true (by kernel_rfl)) k1 bel lt1) (trodAll_cons_mk (Below.trod laidOut (by kernel_rfl) (of_decide_eq_true (by kernel_rfl)) k2 bel lt2) (trodAll_cons_mk (Below.trod laidOut (by kernel_rfl) (of_decide_eq_true (by kernel_rfl)) k3 bel lt3) trodAll_mk0)))), rfl, bel.frame _, fun h => by cases h⟩
theorem over : Rows.manifestSealsRow.holds Tryz.pinned (OpenSpec.ofChange Rows.manifestSealsSpec) :=
 OpenClaim.holds_of_wide 4 Tryz.f4 rfl rfl rfl rfl rfl rfl rfl ⟨rfl, rfl, rfl, rfl, rfl⟩ rfl rfl rfl rfl rfl (by kernel_rfl) Tryz.func4 (by kernel_rfl)
  (of_decide_eq_true (by kernel_rfl)) (by unfold Func.isWrapper; first | (rw [if_pos (by decide +kernel)]; kernel_rfl) | (rw [if_neg (by decide +kernel)]; exact ⟨rfl, rfl⟩))
  (fun os started H enc _ => lifted os started H enc)
theorem wants : ∀ (j : Nat) t, Tryz.f4.params[j]? = some t → Tryz.prog.wantsStandIn t = false := by
 intro j t ht
 rw [Tryz.params4] at ht
 rcases j with _ | j
 ·obtain rfl : 31 = t := by simpa using ht
  kernel_rfl
 rcases j with _ | j
 ·obtain rfl : 31 = t := by simpa using ht
  kernel_rfl
 rcases j with _ | j
 ·obtain rfl : 30 = t := by simpa using ht
  kernel_rfl
 rcases j with _ | j
 ·obtain rfl : 30 = t := by simpa using ht
  kernel_rfl
 simp at ht
theorem proved : Rows.ManifestSealsCardSaid :=
 Claim7.holds_tied_plain_at .later [] [.data] true Rows.manifestSealsCard.stood.harness Rows.manifestSealsCard.stood.looks over (fun _ h => by cases h) (by kernel_rfl) (fun _ h => by cases h) manifestSeals_row_tie rfl ⟨rfl, rfl⟩ (by kernel_rfl) rfl
  (fun f fn hf hfn => by
   obtain rfl : f = 4 := Option.some.inj ((show Tryz.prog.funcNamed "citadel/citadellaw14.ManifestSeals" = some 4 by kernel_rfl).symm.trans hf) |>.symm
   obtain rfl : fn = Tryz.f4 := (Option.some.inj (Tryz.func4.symm.trans hfn)).symm
   exact ⟨by kernel_rfl, wants⟩)
  (by kernel_rfl)
end Go.Proofs.YtlmdidblgeeplaaGreatDoor.manifestSeals