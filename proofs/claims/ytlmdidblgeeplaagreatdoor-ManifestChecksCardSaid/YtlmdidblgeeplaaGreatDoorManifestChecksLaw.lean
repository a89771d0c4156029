/- For any key, any running manifest, any other one and any bytes the law ManifestChecks of citadellaw14 returns true: whether an update may be committed, and why not, is as the chapter says. Conditions: none beyond those that the statement itself prints. -/
import Derived.Test.YtlmdidblgeeplaaGreatDoorTz
import Derived.Test.YtlmdidblgeeplaaGreatDoorRows
import Derived.Test.YtlmdidblgeeplaaGreatDoorTie
import Derived.Test.YtlmdidblgeeplaaGreatDoorCards
import Derived.Test.YtlmdidblgeeplaaGreatDoorPShaLaidy
import Derived.Test.YtlmdidblgeeplaaGreatDoorPMfWy
import Derived.Test.YtlmdidblgeeplaaGreatDoorPMfCy
import Derived.Test.YtlmdidblgeeplaaGreatDoorPMfLy
import Derived.Deep.DeepCutAuto
import Derived.SizedLaws
import Derived.WalkKit
import Derived.ProofKit
import Derived.OpenShut
import Derived.ShutString
import Derived.ChangeOld
import Derived.Below
namespace Go.Proofs.YtlmdidblgeeplaaGreatDoor.manifestChecks
set_option maxRecDepth 1000000
set_option maxHeartbeats 8000000
open Go.ChangeShapes Go.WideShapes Go.ChangeAt Go.RowKit
open Go.ChangeMaps (open_string shut_string)
set_option linter.unusedVariables false
set_option linter.unusedSimpArgs false
theorem own : ownKnob Tryz.prog.godebug = none := by kernel_rfl
theorem laidOut : laidOutB Tryz.prog = true := by kernel_rfl
theorem bd_ofC {w : World} {B : Nat} {v : CV} {c : Cf} (h : RdCf w B v c) (hg : greatC c = false) : Bd v := ⟨(bounds_of h hg).1, (bounds_of h hg).2.1, (bounds_of h hg).2.2.1⟩
theorem same_selfC (m : Mf) : sameM m m = true := decide_eq_true rfl
theorem taken_can (key : List UInt8) (run : Mf) (bs : List UInt8) : canC (takenM key run bs).cf = true := by
 unfold takenM
 split
 ·rename_i h
  cases hok : okM bs
  ·unfold checkM at h
   rw [hok, if_pos rfl] at h
   cases h
  ·exact (canM_iff.1 (okM_got hok).2.1).2.2.2.2
 ·decide
theorem walk (a0 : Option Addr) (len0 cap0 : Nat) (z0 : List Int) (x1 : CV) (m1 : Mf) (x2 : CV) (m2 : Mf) (a3 : Option Addr) (len3 cap3 : Nat) (z3 : List Int) (b4 : Bool) (b5 : Bool) (b6 : Bool) (w : World) (hpr : Pr w) (w0 : IsRow .u8 w a0 len0 cap0 z0) (w1 : RdM w w.heap.size x1 m1 ∧ x1.kw ≤ 9223372036854775807 ∧ x1.kp ≤ 9223372036854775807 ∧ x1.kc ≤ 9223372036854775807 ∧ m1.In) (w2 : RdM w w.heap.size x2 m2 ∧ x2.kw ≤ 9223372036854775807 ∧ x2.kp ≤ 9223372036854775807 ∧ x2.kc ≤ 9223372036854775807 ∧ m2.In) (w3 : IsRow .u8 w a3 len3 cap3 z3) :
  Calls Tryz.prog 5 #[.slice a0 len0 cap0, .agg (mfL m1 x1).toArray, .agg (mfL m2 x2).toArray, .slice a3 len3 cap3, .bool b4, .bool b5, .bool b6] w fun e w' => e = .returned (.bool true) ∧ Below w.heap.size w w' := by
 obtain ⟨r0, hcap0, hcap0'⟩ := w0.rd
 generalize bytesIn (z0.take len0) = kk at r0
 obtain ⟨r1, -, -, -, -⟩ := w1
 obtain ⟨r2, -, -, -, -⟩ := w2
 obtain ⟨r3, hcap3, hcap3'⟩ := w3.rd
 generalize bytesIn (z3.take len3) = bs0 at r3
 obtain ⟨wa, hwa, hb1, hx, hy, hr, hs⟩ := mf_two w r1 r2
 have HWA := qH hwa
 have M1 := qH hx
 have M2 := qH hy
 have R1 := qH hr
 have R2 := qH hs
 have RB := qH (r3.to hb1)
 have RK := qH (r0.to hb1)
 have HP := qH (hpr.to hb1)
 have B := qH hb1
 have HC0 := qH hcap0
 have HC0' := qH hcap0'
 have HC3 := qH hcap3
 have HC3' := qH hcap3'
 clear r0 w0 r1 r2 w3 r3 hpr hwa hb1 hx hy hr hs hcap0 hcap0' hcap3 hcap3'
 go_enter Tryz.func5, Tryz.ntmps5
 go_upto_region 1 with (fail)
 rw [HWA.out]
 clear HWA
 obtain ⟨-, -, q2, q3, q4⟩ := M1.out.cells
 go_wp2_with fail
 refine (lGreat x1 m1.cf wa R1.out.cf).mono ?_
 rintro e wb ⟨rfl, hb⟩
 replace M1 := qH (M1.out.to hb)
 replace M2 := qH (M2.out.to hb)
 replace R1 := qH (R1.out.to hb)
 replace R2 := qH (R2.out.to hb)
 replace RB := qH (RB.out.to hb)
 replace RK := qH (RK.out.to hb)
 replace HP := qH (HP.out.to hb)
 replace B := qH (B.out.trans (hb.mono B.out.size))
 clear hb
 clear q2 q3 q4
 cases hg : greatC m1.cf
 rotate_left 1
 ·skip
  go_wp2_with fail
  go_ret
  exact ⟨rfl, B.out⟩
 obtain ⟨-, -, -, hni⟩ := bounds_of R1.out.cf hg
 have HNI := qH hni
 have D1 := qH (bd_ofC R1.out.cf hg)
 clear hg hni
 obtain ⟨-, -, q2, q3, q4⟩ := M2.out.cells
 go_wp2_with fail
 refine (lGreat x2 m2.cf wb R2.out.cf).mono ?_
 rintro e wd ⟨rfl, hb⟩
 replace M1 := qH (M1.out.to hb)
 replace M2 := qH (M2.out.to hb)
 replace R1 := qH (R1.out.to hb)
 replace R2 := qH (R2.out.to hb)
 replace RB := qH (RB.out.to hb)
 replace RK := qH (RK.out.to hb)
 replace HP := qH (HP.out.to hb)
 replace B := qH (B.out.trans (hb.mono B.out.size))
 clear hb
 clear q2 q3 q4
 cases hg : greatC m2.cf
 rotate_left 1
 ·skip
  go_wp2_with fail
  go_ret
  exact ⟨rfl, B.out⟩
 have D2 := qH (bd_ofC R2.out.cf hg)
 clear hg
 by_cases h2 : 200 < len0
 ·have h2I : (len0 : Int) > 200 := by omega
  go_wp2_with fail
  go_ret
  exact ⟨rfl, B.out⟩
 by_cases h9 : 9000 < len3
 ·have h2I : ¬ (len0 : Int) > 200 := by omega
  have h9I : (len3 : Int) > 9000 := by omega
  go_wp2_with fail
  go_ret
  exact ⟨rfl, B.out⟩
 have h9I : ¬ (len3 : Int) > 9000 := by omega
 have h2I : ¬ (len0 : Int) > 200 := by omega
 have H9 := qH h9
 have H2 : Hid (len0 ≤ 1000) := by (show _ ≤ _); omega
 clear h9 h2
 go_upto_region 3 with (fail)
 clear h9I h2I
 have S1 := qH (mf_size M1.out.1 x1)
 have S2 := qH (mf_size M2.out.1 x2)
 go_cut [44] from 40 to 44 (fun s44 wx => s44 = .bool (b4 && canM m2) ∧ Below wd.heap.size wd wx)
 case first =>
  cases b4
  ·go_wp2_with fail
   go_meet
   exact ⟨rfl, Below.refl _ _⟩
  ·go_wp2_with (refine wpList_load_rowGm (by rfl) 30 _ rfl (w.heap.size + 1) rfl 30 (mfL m2 x2).toArray (0, 0) _ M2.out.row Tryz.underlying30 rfl S2.out ?_)
   refine (rCanM x2 m2 wd R2.out D2.out).mono ?_
   rintro e we ⟨rfl, hb⟩
   have B5 := qH hb
   clear hb
   obtain ⟨cb, hcb⟩ : ∃ x, canM m2 = x := ⟨_, rfl⟩
   rw [hcb]
   have HCB := qH hcb
   clear hcb
   go_wp2_with fail
   go_meet
   exact ⟨by rw [HCB.out]; rfl, B5.out⟩
 case rest =>
 obtain ⟨rfl, hb⟩ := hcut
 obtain ⟨wo, hwo⟩ : ∃ x, x = wc := ⟨_, rfl⟩
 subst hwo
 replace M1 := qH (M1.out.to hb)
 replace M2 := qH (M2.out.to hb)
 replace R1 := qH (R1.out.to hb)
 replace R2 := qH (R2.out.to hb)
 replace RB := qH (RB.out.to hb)
 replace RK := qH (RK.out.to hb)
 replace HP := qH (HP.out.to hb)
 replace B := qH (B.out.trans (hb.mono B.out.size))
 clear hb
 clear wa wb
 go_upto_if 44 with (fail)
 go_cut [3, 15] from 44 to 55 (fun s3 s15 wx => ∃ A n c bs, s3 = .slice A n c ∧ Rd wx wx.heap.size A n bs ∧ n ≤ 9000 ∧ n ≤ c ∧ c ≤ 9223372036854775807 ∧ Below wo.heap.size wo wx)
 case first =>
  obtain ⟨z, hz⟩ : ∃ z, (b4 && canM m2) = z := ⟨_, rfl⟩
  rw [hz]
  cases z
  ·clear hz
   go_wp2_with fail
   go_meet
   exact ⟨_, _, _, _, rfl, RB.out, by have := H9.out; omega, HC3.out, HC3'.out, Below.refl _ _⟩
  ·have HC : Hid (canM m2 = true) := by
    (show _ = _)
    rw [Bool.and_eq_true] at hz
    exact hz.2
   clear hz
   have hz := mf_zero
   have SZ : Hid ((mfL Mf.zero nilV).toArray.size = (mfL m2 x2).toArray.size) := by (show _ = _); rw [mfL_size MfT.zero, mfL_size M2.out.1]
   go_upto_region 5 with (first | (refine wpList_load_row rfl 30 _ rfl (w.heap.size + 1) rfl 30 (mfL m2 x2).toArray (0, 0) _ M2.out.row Tryz.underlying30 rfl S2.out ?_) | (refine wpList_store_row rfl 30 _ _ rfl wo.heap.size (mfL m2 x2).toArray rfl rfl 30 (mfL Mf.zero nilV).toArray (heap_alloc_last wo _) S2.out SZ.out (mf_one _ _) ?_; rw [World.setRow_alloc_new]))
   have hal : Below wo.heap.size wo (wo.alloc (.cells (mfL m2 x2).toArray 30)) := (Below.refl _ _).alloc (Nat.le_refl _) _
   have N := qH (MB.new wo M2.out.1 x2)
   have BN := qH hal
   clear hz SZ
   generalize wo.alloc (.cells (mfL m2 x2).toArray 30) = wf at *
   obtain ⟨g, hg⟩ : ∃ g, wo.heap.size = g := ⟨_, rfl⟩
   rw [hg] at N ⊢
   have HG : Hid (wo.heap.size ≤ g) := by (show _ ≤ _); omega
   clear hg hal
   go_upto_if 46 with (fail)
   go_cut [] from 46 to 49 (fun wx => ∃ n', canM n' = true ∧ n'.cf = m2.cf ∧ MB wx g n' x2 ∧ Below wo.heap.size wo wx)
   case first =>
    cases b5
    ·go_wp2_with fail
     go_meet
     exact ⟨m2, HC.out, rfl, N.out, BN.out⟩
    ·go_wp2_with (refine wpList_load_row rfl 30 _ rfl w.heap.size rfl 30 (mfL m1 x1).toArray (0, 0) _ (M1.out.to BN.out).row Tryz.underlying30 rfl S1.out ?_)
     refine (rHashM x1 m1 wf (R1.out.to BN.out) D1.out).mono ?_
     rintro e wg ⟨rfl, hb⟩
     replace N := qH (N.out.to hb)
     replace BN := qH (BN.out.trans (hb.mono BN.out.size))
     have TL : Hid ((hashM m1).length = 32) := hashM_len m1
     have S3 := qH (tag_size TL.out)
     have TH : Hid (wg.there g 1 (arrB (hashM m1)).size) := N.out.there (by rw [arrB_size, TL.out]; decide)
     clear hb
     go_wp2_with (refine wpList_store_mid rfl 23 _ _ rfl g 1 (arrB (hashM m1)) rfl rfl TH.out S3.out (arrB_one _) ?_)
     go_meet
     exact ⟨⟨m2.ver, hashM m1, m2.trial, m2.cf, m2.tag⟩, HC.out, rfl, N.out.setPrev TL.out, below_setCellsM BN.out HG.out 1 _⟩
   case rest =>
   obtain ⟨n', hc', hcf, hn, hb⟩ := hcut
   obtain ⟨wp, hwp⟩ : ∃ x, x = wc := ⟨_, rfl⟩
   subst hwp
   replace HC := qH hc'
   replace N := qH hn
   replace BN := qH hb
   have CF := qH hcf
   clear hc' hcf hn hb
   go_upto_if 50 with (fail)
   go_cut [] from 50 to 53 (fun wx => ∃ q, canM q = true ∧ q.cf = m2.cf ∧ MB wx g q x2 ∧ Below wo.heap.size wo wx)
   case first =>
    cases b6
    ·go_wp2_with fail
     go_meet
     exact ⟨n', HC.out, CF.out, N.out, BN.out⟩
    ·have S3 := qH (mf_size N.out.1 x2)
     have S4 := qH (mf_size (sealM_t (key := kk) N.out.1) x2)
     have SZ : Hid ((mfL n' x2).toArray.size = (mfL (sealM kk n') x2).toArray.size) := by (show _ = _); rw [mfL_size N.out.1, mfL_size (sealM_t N.out.1)]
     have RN := qH (RdM.mk (w := wp) (B := wp.heap.size) (v := x2) (m := n') N.out.1 (by rw [CF.out]; exact (R2.out.to BN.out).cf))
     go_wp2_with (refine wpList_load_row rfl 30 _ rfl g rfl 30 (mfL n' x2).toArray (0, 0) _ N.out.row Tryz.underlying30 rfl S3.out ?_)
     refine (rSealM a0 len0 cap0 kk x2 n' wp (RK.out.to BN.out) (by have := H2.out; omega) RN.out D2.out).mono ?_
     rintro e wg ⟨rfl, hb⟩
     replace N := qH (N.out.to hb)
     replace BN := qH (BN.out.trans (hb.mono BN.out.size))
     clear hb
     go_wp2_with (refine wpList_store_row rfl 30 _ _ rfl g (mfL (sealM kk n') x2).toArray rfl rfl 30 (mfL n' x2).toArray N.out.row S4.out SZ.out (mf_one _ _) ?_)
     go_meet
     exact ⟨sealM kk n', seal_can HC.out, by rw [sealM_cf]; exact CF.out, N.out.setRow (sealM_t N.out.1) x2, below_setRow BN.out HG.out _⟩
   case rest =>
   obtain ⟨q, hc', hcf, hn, hb⟩ := hcut
   obtain ⟨wq, hwq⟩ : ∃ x, x = wc := ⟨_, rfl⟩
   subst hwq
   have RN := qH (RdM.mk (w := wq) (B := wq.heap.size) (v := x2) (m := q) hn.1 (by rw [hcf]; exact (R2.out.to hb).cf))
   have NQ := qH hn
   have S3 := qH (mf_size hn.1 x2)
   have HQ := qH hc'
   have HL := qH (bytesM_len hn.1.prev hn.1.tag hc').1
   have BQ := qH hb
   clear hc' hcf hn hb N BN HC CF
   go_upto_region 9 with (fail)
   go_wp2_with (refine wpList_load_row rfl 30 _ rfl g rfl 30 (mfL q x2).toArray (0, 0) _ NQ.out.row Tryz.underlying30 rfl S3.out ?_)
   refine (rBytesM x2 q wq RN.out HQ.out).mono ?_
   rintro e wr' ⟨A4, n4, c4, rfl, hown, hb⟩
   have RF := qH (Rd.of_own hown)
   obtain ⟨hcap, hcap'⟩ := own_cap hown
   have HN4 : Hid (n4 ≤ 9000) := by (show _ ≤ _); have := HL.out; have := RF.out.1; omega
   have K1 := qH hcap
   have K2 := qH hcap'
   replace BQ := qH (BQ.out.trans (hb.mono BQ.out.size))
   clear hown hb hcap hcap'
   go_wp2_with fail
   go_meet
   exact ⟨_, _, _, _, rfl, RF.out, HN4.out, K1.out, K2.out, BQ.out⟩
 case rest =>
 obtain ⟨A3, n3, c3, bs, rfl, hr3, hn3, hc3, hc3', hb⟩ := hcut
 obtain ⟨wp, hwp⟩ : ∃ x, x = wc := ⟨_, rfl⟩
 subst hwp
 replace HC3 := qH hc3
 replace HC3' := qH hc3'
 have HN3 := qH hn3
 replace M1 := qH (M1.out.to hb)
 replace M2 := qH (M2.out.to hb)
 replace R1 := qH (R1.out.to hb)
 replace R2 := qH (R2.out.to hb)
 replace RB := qH (RB.out.to hb)
 replace RK := qH (RK.out.to hb)
 replace HP := qH (HP.out.to hb)
 replace B := qH (B.out.trans (hb.mono B.out.size))
 clear hb
 replace RB := qH hr3
 clear hr3 hn3 hc3 hc3' M2 R2 D2 S2 H9
 go_upto_region 10 with (fail)
 have O := qH (own_top (w := wp) (B := wp.heap.size) [] 5 (Nat.le_refl _) (fun u hu => (by cases hu)) (by decide))
 have BA := qH ((Below.refl wp.heap.size wp).alloc (Nat.le_refl _) (.cells #[] 5))
 have RA := qH (RB.out.to BA.out)
 have HQ : Hid (0 + n3 ≤ 140737488355328) := by (show _ ≤ _); have := HN3.out; omega
 go_upto_region 11 with (at_builtin; refine wpList_pushAll isU8 rfl _ _ rfl rfl rfl (bs := []) O.out RA.out BA.out BA.out.size HQ.out ?_; intro v4 w4 hown4 hb4 hs4; obtain ⟨A4, c4, rfl⟩ := own_slice hown4)
 rw [Nat.zero_add, List.nil_append] at hown4
 have RI := qH (Rd.of_own hown4)
 obtain ⟨hcap, hcap'⟩ := own_cap hown4
 have K1 := qH hcap
 have K2 := qH hcap'
 have hb := hb4
 clear hown4 hcap hcap' hb4 hs4 O BA RA HQ
 replace M1 := qH (M1.out.to hb)
 replace R1 := qH (R1.out.to hb)
 replace RB := qH (RB.out.to hb)
 replace RK := qH (RK.out.to hb)
 replace HP := qH (HP.out.to hb)
 replace B := qH (B.out.trans (hb.mono B.out.size))
 clear hb
 go_wp2_with (refine wpList_load_row rfl 30 _ rfl w.heap.size rfl 30 (mfL m1 x1).toArray (0, 0) _ M1.out.row Tryz.underlying30 rfl S1.out ?_)
 refine (lCopiedM x1 m1 w4 R1.out D1.out HNI.out).mono ?_
 rintro e w5 ⟨v5, qs, rfl, ho, hb⟩
 have R5 := qH (RdM.mk (w := w5) (B := w5.heap.size) (v := v5) (m := m1) M1.out.1 ho.cf.rd)
 have D5 : Hid (Bd v5) := by
  have h := ho.cf.rd
  have h1 := R1.out.cf
  have d := D1.out
  exact ⟨by have := h.ww.1; have := h1.ww.1; have := d.1; omega, by have := h.pp.1; have := h1.pp.1; have := d.2.1; omega, by have := h.cc.1; have := h1.cc.1; have := d.2.2; omega⟩
 replace RI := qH (RI.out.to hb)
 replace M1 := qH (M1.out.to hb)
 replace R1 := qH (R1.out.to hb)
 replace RB := qH (RB.out.to hb)
 replace RK := qH (RK.out.to hb)
 replace HP := qH (HP.out.to hb)
 replace B := qH (B.out.trans (hb.mono B.out.size))
 clear ho hb
 have hz := mf_zero
 have S5 := qH (mf_size M1.out.1 v5)
 have SZ : Hid ((mfL Mf.zero nilV).toArray.size = (mfL m1 v5).toArray.size) := by (show _ = _); rw [mfL_size MfT.zero, mfL_size M1.out.1]
 go_upto_region 12 with (refine wpList_store_row rfl 30 _ _ rfl w5.heap.size (mfL m1 v5).toArray rfl rfl 30 (mfL Mf.zero nilV).toArray (heap_alloc_last w5 _) S5.out SZ.out (mf_one _ _) ?_; rw [World.setRow_alloc_new])
 have hb : Below w5.heap.size w5 (w5.alloc (.cells (mfL m1 v5).toArray 30)) := (Below.refl _ _).alloc (Nat.le_refl _) _
 have N := qH (MB.new w5 M1.out.1 v5)
 replace R5 := qH (R5.out.to hb)
 replace RI := qH (RI.out.to hb)
 replace M1 := qH (M1.out.to hb)
 replace R1 := qH (R1.out.to hb)
 replace RB := qH (RB.out.to hb)
 replace RK := qH (RK.out.to hb)
 replace HP := qH (HP.out.to hb)
 replace B := qH (B.out.trans (hb.mono B.out.size))
 clear hb SZ
 generalize w5.alloc (.cells (mfL m1 v5).toArray 30) = w6 at *
 generalize w5.heap.size = g6 at *
 clear w4 w5
 go_wp2_with (refine wpList_load_row rfl 30 _ rfl g6 rfl 30 (mfL m1 v5).toArray (0, 0) _ N.out.row Tryz.underlying30 rfl S5.out ?_)
 refine (wCheckM a0 A4 len0 cap0 n3 c4 kk bs v5 m1 w6 HP.out RK.out H2.out HC0.out HC0'.out R5.out D5.out RI.out K1.out K2.out (by have := HN3.out; omega)).mono ?_
 rintro e w7 ⟨v7, rfl, hr7, hb⟩
 have R7 := qH hr7
 have D7 := qH (bd_can hr7.cf (taken_can kk m1 bs))
 have T7 := qH hr7.t
 replace N := qH (N.out.to hb)
 replace R5 := qH (R5.out.to hb)
 replace RI := qH (RI.out.to hb)
 replace M1 := qH (M1.out.to hb)
 replace R1 := qH (R1.out.to hb)
 replace RB := qH (RB.out.to hb)
 replace RK := qH (RK.out.to hb)
 replace HP := qH (HP.out.to hb)
 replace B := qH (B.out.trans (hb.mono B.out.size))
 clear hr7 hb
 have S7 := qH (mf_size T7.out v7)
 have SZ : Hid ((mfL Mf.zero nilV).toArray.size = (mfL (takenM kk m1 bs) v7).toArray.size) := by (show _ = _); rw [mfL_size MfT.zero, mfL_size T7.out]
 obtain ⟨ck, hck⟩ : ∃ x, checkM kk m1 bs = x := ⟨_, rfl⟩
 obtain ⟨tk, htk⟩ : ∃ x, takenM kk m1 bs = x := ⟨_, rfl⟩
 rw [htk] at R7 T7 S7 SZ
 rw [hck, htk]
 have HCK := qH hck
 have HTK := qH htk
 clear hck htk
 go_upto_region 13 with (refine wpList_store_row rfl 30 _ _ rfl w7.heap.size (mfL tk v7).toArray rfl rfl 30 (mfL Mf.zero nilV).toArray (heap_alloc_last w7 _) S7.out SZ.out (mf_one _ _) ?_; rw [World.setRow_alloc_new])
 have hb : Below w7.heap.size w7 (w7.alloc (.cells (mfL tk v7).toArray 30)) := (Below.refl _ _).alloc (Nat.le_refl _) _
 have N7 := qH (MB.new w7 T7.out v7)
 replace N := qH (N.out.to hb)
 replace R5 := qH (R5.out.to hb)
 replace R7 := qH (R7.out.to hb)
 replace RI := qH (RI.out.to hb)
 replace M1 := qH (M1.out.to hb)
 replace R1 := qH (R1.out.to hb)
 replace RB := qH (RB.out.to hb)
 replace RK := qH (RK.out.to hb)
 replace HP := qH (HP.out.to hb)
 replace B := qH (B.out.trans (hb.mono B.out.size))
 clear hb SZ
 generalize w7.alloc (.cells (mfL tk v7).toArray 30) = w8 at *
 generalize w7.heap.size = g8 at *
 clear w6 w7
 go_wp2_with (refine wpList_load_row rfl 30 _ rfl w.heap.size rfl 30 (mfL m1 x1).toArray (0, 0) _ M1.out.row Tryz.underlying30 rfl S1.out ?_)
 refine (rCheckM a0 A3 len0 cap0 n3 c3 kk bs x1 m1 w8 RK.out (by have := H2.out; omega) R1.out D1.out RB.out (by have := HN3.out; omega)).mono ?_
 rintro e w9 ⟨v9, rfl, hr9, hb⟩
 have R9 := qH hr9
 have D9 := qH (bd_can hr9.cf (taken_can kk m1 bs))
 rw [HTK.out] at R9
 replace N := qH (N.out.to hb)
 replace N7 := qH (N7.out.to hb)
 replace R5 := qH (R5.out.to hb)
 replace R7 := qH (R7.out.to hb)
 replace RI := qH (RI.out.to hb)
 replace M1 := qH (M1.out.to hb)
 replace R1 := qH (R1.out.to hb)
 replace RB := qH (RB.out.to hb)
 replace RK := qH (RK.out.to hb)
 replace HP := qH (HP.out.to hb)
 replace B := qH (B.out.trans (hb.mono B.out.size))
 clear hr9 hb
 rw [HCK.out, HTK.out]
 have S9 := qH (mf_size T7.out v9)
 have SZ : Hid ((mfL Mf.zero nilV).toArray.size = (mfL tk v9).toArray.size) := by (show _ = _); rw [mfL_size MfT.zero, mfL_size T7.out]
 go_upto_region 14 with (refine wpList_store_row rfl 30 _ _ rfl w9.heap.size (mfL tk v9).toArray rfl rfl 30 (mfL Mf.zero nilV).toArray (heap_alloc_last w9 _) S9.out SZ.out (mf_one _ _) ?_; rw [World.setRow_alloc_new])
 have hb : Below w9.heap.size w9 (w9.alloc (.cells (mfL tk v9).toArray 30)) := (Below.refl _ _).alloc (Nat.le_refl _) _
 have N9 := qH (MB.new w9 T7.out v9)
 replace N := qH (N.out.to hb)
 replace N7 := qH (N7.out.to hb)
 replace R5 := qH (R5.out.to hb)
 replace R7 := qH (R7.out.to hb)
 replace R9 := qH (R9.out.to hb)
 replace RI := qH (RI.out.to hb)
 replace M1 := qH (M1.out.to hb)
 replace R1 := qH (R1.out.to hb)
 replace RB := qH (RB.out.to hb)
 replace RK := qH (RK.out.to hb)
 replace HP := qH (HP.out.to hb)
 replace B := qH (B.out.trans (hb.mono B.out.size))
 clear hb SZ hz
 generalize w9.alloc (.cells (mfL tk v9).toArray 30) = wx at *
 generalize w9.heap.size = g9 at *
 clear w8 w9
 go_wp2_with (first | (refine wpList_load_rowGm (by rfl) 30 _ rfl g8 rfl 30 (mfL tk v7).toArray (0, 0) _ N7.out.row Tryz.underlying30 rfl S7.out ?_) | (refine wpList_load_rowGm (by rfl) 30 _ rfl g9 rfl 30 (mfL tk v9).toArray (0, 0) _ N9.out.row Tryz.underlying30 rfl S9.out ?_))
 refine (rSameM v7 v9 tk tk wx R7.out R9.out D7.out D9.out).mono ?_
 rw [same_selfC]
 rintro e wy ⟨rfl, hb⟩
 replace N := qH (N.out.to hb)
 replace R5 := qH (R5.out.to hb)
 replace RI := qH (RI.out.to hb)
 replace M1 := qH (M1.out.to hb)
 replace R1 := qH (R1.out.to hb)
 replace RB := qH (RB.out.to hb)
 replace RK := qH (RK.out.to hb)
 replace HP := qH (HP.out.to hb)
 replace B := qH (B.out.trans (hb.mono B.out.size))
 clear hb N7 N9 R7 R9 D7 D9 S7 S9
 obtain ⟨s1, hs1, hs1'⟩ := str_is bs
 have cv1 := RI.out.strC (c := c4) hs1
 have cv2 := RB.out.strC (c := c3) hs1
 go_wp2_with (first | (refine wpList_load_rowGm (by rfl) 30 _ rfl g6 rfl 30 (mfL m1 v5).toArray (0, 0) _ N.out.row Tryz.underlying30 rfl S5.out ?_) | (refine wpList_load_rowGm (by rfl) 30 _ rfl w.heap.size rfl 30 (mfL m1 x1).toArray (0, 0) _ M1.out.row Tryz.underlying30 rfl S1.out ?_))
 refine (rSameM v5 x1 m1 m1 wy R5.out R1.out D5.out D1.out).mono ?_
 rw [same_selfC]
 rintro e wz ⟨rfl, hb⟩
 replace HP := qH (HP.out.to hb)
 replace B := qH (B.out.trans (hb.mono B.out.size))
 clear hb cv1 cv2 hs1 hs1'
 go_wp2_with fail
 refine (lAwakeM _ HP.out).mono ?_
 rintro e we ⟨rfl, hb⟩
 replace B := qH (B.out.trans (hb.mono B.out.size))
 clear hb
 go_wp2_with fail
 go_ret
 exact ⟨rfl, B.out⟩
theorem lifted (os : Os) (started : os.Started) (H : Type) (enc : TypeId × Value → H) :
  ReturnsInHanded {} Tryz.checked os 5 .any (fun w args => (Rows.manifestChecksSpec.pre enc Tryz.prog Tryz.f5 Rows.manifestChecksRow.domain false w args ∧ laidMetH Tryz.prog Rows.manifestChecksRow.laid w) ∧ sizedMet enc Tryz.prog Tryz.f5 (OpenSpec.ofChange Rows.manifestChecksSpec) false w args)
   (Rows.manifestChecksSpec.post enc Tryz.prog Tryz.f5 false true false false) := by
 refine returnsInHanded_of_change_and (C := Tryz.checked) (X := fun w _ => laidMetH Tryz.prog Rows.manifestChecksRow.laid w) (fun _ _ _ hh h => h.of_heap hh) own started (by kernel_rfl) Tryz.func5
  (ChangeSpec.witness_shaped (enc := enc) (C := Tryz.checked) (os := os) (X := fun w _ => laidMetH Tryz.prog Rows.manifestChecksRow.laid w) false (World.doorLaid Tryz.prog 400 os) #[.slice none 0 0, .agg #[.int .i64 0, .int .u8 0, .int .u8 0, .int .u8 0, .int .u8 0, .int .u8 0, .int .u8 0, .int .u8 0, .int .u8 0, .int .u8 0, .int .u8 0, .int .u8 0, .int .u8 0, .int .u8 0, .int .u8 0, .int .u8 0, .int .u8 0, .int .u8 0, .int .u8 0, .int .u8 0, .int .u8 0, .int .u8 0, .int .u8 0, .int .u8 0, .int .u8 0, .int .u8 0, .int .u8 0, .int .u8 0, .int .u8 0, .int .u8 0, .int .u8 0, .int .u8 0, .int .u8 0, .int .i64 0, .slice none 0 0, .slice none 0 0, .slice none 0 0, .int .u8 0, .int .u8 0, .int .u8 0, .int .u8 0, .int .u8 0, .int .u8 0, .int .u8 0, .int .u8 0, .int .u8 0, .int .u8 0, .int .u8 0, .int .u8 0, .int .u8 0, .int .u8 0, .int .u8 0, .int .u8 0, .int .u8 0, .int .u8 0, .int .u8 0, .int .u8 0, .int .u8 0, .int .u8 0, .int .u8 0, .int .u8 0, .int .u8 0, .int .u8 0, .int .u8 0, .int .u8 0, .int .u8 0, .int .u8 0, .int .u8 0, .int .u8 0], .agg #[.int .i64 0, .int .u8 0, .int .u8 0, .int .u8 0, .int .u8 0, .int .u8 0, .int .u8 0, .int .u8 0, .int .u8 0, .int .u8 0, .int .u8 0, .int .u8 0, .int .u8 0, .int .u8 0, .int .u8 0, .int .u8 0, .int .u8 0, .int .u8 0, .int .u8 0, .int .u8 0, .int .u8 0, .int .u8 0, .int .u8 0, .int .u8 0, .int .u8 0, .int .u8 0, .int .u8 0, .int .u8 0, .int .u8 0, .int .u8 0, .int .u8 0, .int .u8 0, .int .u8 0, .int .i64 0, .slice none 0 0, .slice none 0 0, .slice none 0 0, .int .u8 0, .int .u8 0, .int .u8 0, .int .u8 0, .int .u8 0, .int .u8 0, .int .u8 0, .int .u8 0, .int .u8 0, .int .u8 0, .int .u8 0, .int .u8 0, .int .u8 0, .int .u8 0, .int .u8 0, .int .u8 0, .int .u8 0, .int .u8 0, .int .u8 0, .int .u8 0, .int .u8 0, .int .u8 0, .int .u8 0, .int .u8 0, .int .u8 0, .int .u8 0, .int .u8 0, .int .u8 0, .int .u8 0, .int .u8 0, .int .u8 0, .int .u8 0], .slice none 0 0, .bool false, .bool false, .bool false] 8 rfl (World.shaped_of_RefB (by kernel_rfl) (by kernel_rfl)) (by kernel_rfl) (by kernel_rfl) (by kernel_rfl) (door_met os _)) ?_
 intro W base args ds gs before hval0 hW hcnd hsz0 hL _
 have hval : ∀ (j : Nat) t v, Tryz.f5.params[j]? = some t → args[j]? = some v → Value.okWide Tryz.prog W .any base t v := hval0
 have hsz : (DataW.weightsEach Tryz.prog (Tryz.f5.params.toList ++ Rows.manifestChecksSpec.plain.varTypes Tryz.prog) (ds ++ gs)).all (· ≤ reachBytes) = true := hsz0
 have hW' := hW
 obtain ⟨p, q, hA0, hV, rfl, hfz, hnd⟩ := hW
 have hA : DataW.TrodAll enc Tryz.prog W 0 (fun _ => true) true Tryz.f5.params.toList args.toList ds p := hA0
 rw [Tryz.params5] at hA hval hsz
 obtain ⟨v0, vs0, d0, ds0, p0, q0, hargs, rfl, rfl, h0, r0⟩ := trodAll_cons hA
 obtain ⟨v1, vs1, d1, ds1, p1, q1, rfl, rfl, rfl, h1, r1⟩ := trodAll_cons r0
 obtain ⟨v2, vs2, d2, ds2, p2, q2, rfl, rfl, rfl, h2, r2⟩ := trodAll_cons r1
 obtain ⟨v3, vs3, d3, ds3, p3, q3, rfl, rfl, rfl, h3, r3⟩ := trodAll_cons r2
 obtain ⟨v4, vs4, d4, ds4, p4, q4, rfl, rfl, rfl, h4, r4⟩ := trodAll_cons r3
 obtain ⟨v5, vs5, d5, ds5, p5, q5, rfl, rfl, rfl, h5, r5⟩ := trodAll_cons r4
 obtain ⟨v6, vs6, d6, ds6, p6, q6, rfl, rfl, rfl, h6, r6⟩ := trodAll_cons r5
 obtain ⟨rfl, rfl, rfl⟩ := trodAll_nil r6
 obtain rfl : args = #[v0, v1, v2, v3, v4, v5, v6] := by cases args; simp_all
 obtain ⟨rfl, rfl⟩ := trodVars_none hV
 have sz1 : ∀ x ∈ d1.weights Tryz.prog 30, x ≤ reachBytes := fun x hx => by simpa using List.all_eq_true.1 hsz _ (DataW.weights_mem_each (j := 1) rfl rfl x hx)
 have sz2 : ∀ x ∈ d2.weights Tryz.prog 30, x ≤ reachBytes := fun x hx => by simpa using List.all_eq_true.1 hsz _ (DataW.weights_mem_each (j := 2) rfl rfl x hx)
 obtain ⟨a0, len0, cap0, rfl⟩ := okWide_slice Tryz.underlying31 (hval 0 31 v0 rfl rfl)
 have k0 := h0
 have lt0 : ∀ x ∈ p0, x.block < W.heap.size := by obtain ⟨m, hm⟩ := k0; exact DataW.trod_lt m _ _ _ hm
 obtain ⟨z0, w0⟩ : ∃ zs, IsRow .u8 W a0 len0 cap0 zs := by
  obtain ⟨fuel, hf⟩ := h0
  rcases open_ints Tryz.underlying31 Tryz.underlying5 (by kernel_rfl) hf with ⟨hcs, _⟩ | ⟨x, l, c, zs, hcs, _, hl, hm, hz, _, hcell, hwz⟩
  ·simp [Value.cells] at hcs
   obtain ⟨rfl, rfl, rfl⟩ := hcs
   exact ⟨[], .inl ⟨rfl, rfl, rfl, rfl⟩⟩
  ·simp [Value.cells] at hcs
   obtain ⟨rfl, rfl, rfl⟩ := hcs
   exact ⟨zs, .inr ⟨_, rfl, hl, hm, by simpa using hz, hcell, hwz⟩⟩
 have k1 := h1
 have lt1 : ∀ x ∈ p1, x.block < W.heap.size := by obtain ⟨m, hm⟩ := k1; exact DataW.trod_lt m _ _ _ hm
 obtain ⟨x1, m1, rfl, w1⟩ := open_mf (hval 1 30 v1 rfl rfl) h1 sz1
 have k2 := h2
 have lt2 : ∀ x ∈ p2, x.block < W.heap.size := by obtain ⟨m, hm⟩ := k2; exact DataW.trod_lt m _ _ _ hm
 obtain ⟨x2, m2, rfl, w2⟩ := open_mf (hval 2 30 v2 rfl rfl) h2 sz2
 obtain ⟨a3, len3, cap3, rfl⟩ := okWide_slice Tryz.underlying31 (hval 3 31 v3 rfl rfl)
 have k3 := h3
 have lt3 : ∀ x ∈ p3, x.block < W.heap.size := by obtain ⟨m, hm⟩ := k3; exact DataW.trod_lt m _ _ _ hm
 obtain ⟨z3, w3⟩ : ∃ zs, IsRow .u8 W a3 len3 cap3 zs := by
  obtain ⟨fuel, hf⟩ := h3
  rcases open_ints Tryz.underlying31 Tryz.underlying5 (by kernel_rfl) hf with ⟨hcs, _⟩ | ⟨x, l, c, zs, hcs, _, hl, hm, hz, _, hcell, hwz⟩
  ·simp [Value.cells] at hcs
   obtain ⟨rfl, rfl, rfl⟩ := hcs
   exact ⟨[], .inl ⟨rfl, rfl, rfl, rfl⟩⟩
  ·simp [Value.cells] at hcs
   obtain ⟨rfl, rfl, rfl⟩ := hcs
   exact ⟨zs, .inr ⟨_, rfl, hl, hm, by simpa using hz, hcell, hwz⟩⟩
 obtain ⟨b4, rfl, rfl, rfl⟩ := open_bool Tryz.underlying4 (hval 4 4 v4 rfl rfl) h4
 obtain ⟨b5, rfl, rfl, rfl⟩ := open_bool Tryz.underlying4 (hval 5 4 v5 rfl rfl) h5
 obtain ⟨b6, rfl, rfl, rfl⟩ := open_bool Tryz.underlying4 (hval 6 4 v6 rfl rfl) h6
 clear hA0 hval0
 refine (walk a0 len0 cap0 z0 x1 m1 x2 m2 a3 len3 cap3 z3 b4 b5 b6 W (pr_of_laid hL) w0 w1 w2 w3).mono fun e W' ⟨he, bel⟩ => ?_
 subst he
 exact ⟨_, rfl, _, _, _, [], _, [], hW', trodAll_mk1 (shut_bool Tryz.underlying4 _), (trodAll_cons_mk (Below.trod laidOut (by kernel_rfl) (of_decide_eq_true (by kernel_rfl)) k0 bel lt0) (trodAll_cons_mk (Below.trod laidOut (by kernel_rfl) (of_decide_eq_true (by kernel_rfl)) k1 bel lt1) (trodAll_cons_mk (Below.trod laidOut (by kernel_rfl) (of_decide_eq_true (by kernel_rfl)) k2 bel lt2) (trodAll_cons_mk (Below.trod laidOut (by kernel_rfl) (of_decide_eq_true (by kernel_rfl)) k3 bel lt3) (trodAll_cons_mk (shut_bool Tryz.underlying4 _) (trodAll_cons_mk (shut_bool Tryz.underlying4 _) (trodAll_cons_mk (shut_bool Tryz.underlying4 _) trodAll_mk0))))))), rfl, bel.frame _, fun h => by cases h⟩
theorem over : Rows.manifestChecksRow.holds Tryz.pinned (OpenSpec.ofChange Rows.manifestChecksSpec) :=
 OpenClaim.holds_of_wide 5 Tryz.f5 rfl rfl rfl rfl rfl rfl rfl ⟨rfl, rfl, rfl, rfl, rfl⟩ rfl rfl rfl rfl rfl (by kernel_rfl) Tryz.func5 (by kernel_rfl)
  (of_decide_eq_true (by kernel_rfl)) (by unfold Func.isWrapper; first | (rw [if_pos (by decide +kernel)]; kernel_rfl) | (rw [if_neg (by decide +kernel)]; exact ⟨rfl, rfl⟩))
  (fun os started H enc _ => lifted os started H enc)
theorem wants : ∀ (j : Nat) t, Tryz.f5.params[j]? = some t → Tryz.prog.wantsStandIn t = false := by
 intro j t ht
 rw [Tryz.params5] at ht
 rcases j with _ | j
 ·obtain rfl : 31 = t := by simpa using ht
  kernel_rfl
 rcases j with _ | j
 ·obtain rfl : 30 = t := by simpa using ht
  kernel_rfl
 rcases j with _ | j
 ·obtain rfl : 30 = t := by simpa using ht
  kernel_rfl
 rcases j with _ | j
 ·obtain rfl : 31 = t := by simpa using ht
  kernel_rfl
 rcases j with _ | j
 ·obtain rfl : 4 = t := by simpa using ht
  kernel_rfl
 rcases j with _ | j
 ·obtain rfl : 4 = t := by simpa using ht
  kernel_rfl
 rcases j with _ | j
 ·obtain rfl : 4 = t := by simpa using ht
  kernel_rfl
 simp at ht
theorem proved : Rows.ManifestChecksCardSaid :=
 Claim7.holds_tied_plain_at .later [] [.data] true Rows.manifestChecksCard.stood.harness Rows.manifestChecksCard.stood.looks over (fun _ h => by cases h) (by kernel_rfl) (fun _ h => by cases h) manifestChecks_row_tie rfl ⟨rfl, rfl⟩ (by kernel_rfl) rfl
  (fun f fn hf hfn => by
   obtain rfl : f = 5 := Option.some.inj ((show Tryz.prog.funcNamed "citadel/citadellaw14.ManifestChecks" = some 5 by kernel_rfl).symm.trans hf) |>.symm
   obtain rfl : fn = Tryz.f5 := (Option.some.inj (Tryz.func5.symm.trans hfn)).symm
   exact ⟨by kernel_rfl, wants⟩)
  (by kernel_rfl)
end Go.Proofs.YtlmdidblgeeplaaGreatDoor.manifestChecks