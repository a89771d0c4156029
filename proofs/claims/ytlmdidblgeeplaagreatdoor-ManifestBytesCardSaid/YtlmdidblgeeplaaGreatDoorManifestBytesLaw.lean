/- For any manifest, any bytes, or a manifest's of which one is otherwise, the law ManifestBytes of citadellaw14 returns true: whether it can be written, its bytes, its hash, and what is read of bytes, is as the chapter says. Conditions: none beyond those that the statement itself prints. -/
import Derived.Test.YtlmdidblgeeplaaGreatDoorTz
import Derived.Test.YtlmdidblgeeplaaGreatDoorRows
import Derived.Test.YtlmdidblgeeplaaGreatDoorTie
import Derived.Test.YtlmdidblgeeplaaGreatDoorCards
import Derived.Test.YtlmdidblgeeplaaGreatDoorPShaLaidy
import Derived.Test.YtlmdidblgeeplaaGreatDoorPMfWy
import Derived.Test.YtlmdidblgeeplaaGreatDoorPMfLy
import Derived.Deep.DeepCutAuto
import Derived.SizedLaws
import Derived.WalkKit
import Derived.ProofKit
import Derived.OpenShut
import Derived.ShutString
import Derived.ChangeOld
import Derived.Below
namespace Go.Proofs.YtlmdidblgeeplaaGreatDoor.manifestBytes
set_option maxRecDepth 1000000
set_option maxHeartbeats 8000000
open Go.ChangeShapes Go.WideShapes Go.ChangeAt Go.RowKit
open Go.ChangeMaps (open_string shut_string)
set_option linter.unusedVariables false
set_option linter.unusedSimpArgs false
theorem own : ownKnob Tryz.prog.godebug = none := by kernel_rfl
theorem laidOut : laidOutB Tryz.prog = true := by kernel_rfl
theorem bd_ofB {w : World} {B : Nat} {v : CV} {c : Cf} (h : RdCf w B v c) (hg : greatC c = false) : Bd v := ⟨(bounds_of h hg).1, (bounds_of h hg).2.1, (bounds_of h hg).2.2.1⟩
theorem same_selfB (m : Mf) : sameM m m = true := decide_eq_true rfl
theorem nth_u8B (bs : List UInt8) (j : Nat) : ∃ x : UInt8, nth bs j = x.toNat := ⟨bs.getD j 0, rfl⟩
theorem mfOut_can (bs : List UInt8) : canC (mfOut bs).cf = true := by
 cases hok : okM bs
 ·rw [(mfOut_no hok).1]; decide
 ·rw [(mfOut_yes hok).1]; exact (canM_iff.1 (okM_got hok).2.1).2.2.2.2
theorem prE_is (m : Mf) : prEM m = if canM m = true then 0 else 2 := rfl
theorem walk (x0 : CV) (m0 : Mf) (a1 : Option Addr) (len1 cap1 : Nat) (z1 : List Int) (b2 : Bool) (a3 : Int) (a4 : Int) (w : World) (hpr : Pr w) (w0 : RdM w w.heap.size x0 m0 ∧ x0.kw ≤ 9223372036854775807 ∧ x0.kp ≤ 9223372036854775807 ∧ x0.kc ≤ 9223372036854775807 ∧ m0.In) (w1 : IsRow .u8 w a1 len1 cap1 z1) (w3 : (Lit.int .i64 a3).wf = true) (w4 : (Lit.int .u8 a4).wf = true) :
  Calls Tryz.prog 3 #[.agg (mfL m0 x0).toArray, .slice a1 len1 cap1, .bool b2, .int .i64 a3, .int .u8 a4] w fun e w' => e = .returned (.bool true) ∧ Below w.heap.size w w' := by
 obtain ⟨r0, -, -, -, -⟩ := w0
 obtain ⟨r1, hcap1, hcap1'⟩ := w1.rd
 generalize bytesIn (z1.take len1) = bs0 at r1
 obtain ⟨y4, hy4⟩ := u8_of (wf_u8 w4).1 (wf_u8 w4).2
 have hb1 := (Below.refl w.heap.size w).alloc (Nat.le_refl _) (.cells (mfL m0 x0).toArray 30)
 have M := qH (MB.new w r0.t x0)
 have R := qH (r0.to hb1)
 have RB := qH (r1.to hb1)
 have HP := qH (hpr.to hb1)
 have B := qH hb1
 have HC1 := qH hcap1
 have HC1' := qH hcap1'
 clear r0 w1 r1 hpr hb1 hcap1 hcap1' w3 w4
 subst hy4
 go_enter Tryz.func3, Tryz.ntmps3
 go_upto_region 1 with (fail)
 generalize w.alloc (.cells (mfL m0 x0).toArray 30) = wa at *
 obtain ⟨-, -, q2, q3, q4⟩ := M.out.cells
 go_wp2_with fail
 refine (lGreat x0 m0.cf wa R.out.cf).mono ?_
 rintro e wb ⟨rfl, hb⟩
 replace M := qH (M.out.to hb)
 replace R := qH (R.out.to hb)
 replace RB := qH (RB.out.to hb)
 replace HP := qH (HP.out.to hb)
 replace B := qH (B.out.trans (hb.mono B.out.size))
 clear hb q2 q3 q4
 cases hg : greatC m0.cf
 rotate_left 1
 ·skip
  go_wp2_with fail
  go_ret
  exact ⟨rfl, B.out⟩
 obtain ⟨-, -, -, hni⟩ := bounds_of R.out.cf hg
 have HNI := qH hni
 have D := qH (bd_ofB R.out.cf hg)
 clear hg hni
 by_cases h9 : 9000 < len1
 ·have h9I : (len1 : Int) > 9000 := by omega
  go_wp2_with fail
  go_ret
  exact ⟨rfl, B.out⟩
 have h9I : ¬ (len1 : Int) > 9000 := by omega
 have H9 := qH h9
 clear h9
 have S0 := qH (mf_size M.out.1 x0)
 go_upto_region 3 with (fail)
 clear h9I
 go_wp2_with (refine wpList_load_row rfl 30 _ rfl w.heap.size rfl 30 (mfL m0 x0).toArray (0, 0) _ M.out.row Tryz.underlying30 rfl S0.out ?_)
 refine (lCopiedM x0 m0 wb R.out D.out HNI.out).mono ?_
 rintro e w5 ⟨v5, qs, rfl, ho, hb⟩
 have R5 := qH (RdM.mk (w := w5) (B := w5.heap.size) (v := v5) (m := m0) M.out.1 ho.cf.rd)
 have D5 : Hid (Bd v5) := by
  have h := ho.cf.rd
  have h1 := R.out.cf
  have d := D.out
  exact ⟨by have := h.ww.1; have := h1.ww.1; have := d.1; omega, by have := h.pp.1; have := h1.pp.1; have := d.2.1; omega, by have := h.cc.1; have := h1.cc.1; have := d.2.2; omega⟩
 replace M := qH (M.out.to hb)
 replace R := qH (R.out.to hb)
 replace RB := qH (RB.out.to hb)
 replace HP := qH (HP.out.to hb)
 replace B := qH (B.out.trans (hb.mono B.out.size))
 clear ho hb
 have hz := mf_zero
 have S5 := qH (mf_size M.out.1 v5)
 have SZ : Hid ((mfL Mf.zero nilV).toArray.size = (mfL m0 v5).toArray.size) := by (show _ = _); rw [mfL_size MfT.zero, mfL_size M.out.1]
 go_upto_region 4 with (refine wpList_store_row rfl 30 _ _ rfl w5.heap.size (mfL m0 v5).toArray rfl rfl 30 (mfL Mf.zero nilV).toArray (heap_alloc_last w5 _) S5.out SZ.out (mf_one _ _) ?_; rw [World.setRow_alloc_new])
 have hb : Below w5.heap.size w5 (w5.alloc (.cells (mfL m0 v5).toArray 30)) := (Below.refl _ _).alloc (Nat.le_refl _) _
 have N := qH (MB.new w5 M.out.1 v5)
 replace R5 := qH (R5.out.to hb)
 replace M := qH (M.out.to hb)
 replace R := qH (R.out.to hb)
 replace RB := qH (RB.out.to hb)
 replace HP := qH (HP.out.to hb)
 replace B := qH (B.out.trans (hb.mono B.out.size))
 clear hb SZ hz
 generalize w5.alloc (.cells (mfL m0 v5).toArray 30) = w6 at *
 generalize w5.heap.size = g5 at *
 clear w5
 go_wp2_with (refine wpList_load_row rfl 30 _ rfl g5 rfl 30 (mfL m0 v5).toArray (0, 0) _ N.out.row Tryz.underlying30 rfl S5.out ?_)
 refine (wPrintM v5 m0 w6 R5.out D5.out).mono ?_
 rintro e w7 ⟨A4, n4, c4, rfl, hr4, -, -, hb⟩
 have RP := qH hr4
 replace R5 := qH (R5.out.to hb)
 replace N := qH (N.out.to hb)
 replace M := qH (M.out.to hb)
 replace R := qH (R.out.to hb)
 replace RB := qH (RB.out.to hb)
 replace HP := qH (HP.out.to hb)
 replace B := qH (B.out.trans (hb.mono B.out.size))
 clear hr4 hb
 go_upto_region 5 with (fail)
 go_wp2_with (refine wpList_load_row rfl 30 _ rfl w.heap.size rfl 30 (mfL m0 x0).toArray (0, 0) _ M.out.row Tryz.underlying30 rfl S0.out ?_)
 refine (rCanM x0 m0 w7 R.out D.out).mono ?_
 rintro e w8 ⟨rfl, hb⟩
 replace R5 := qH (R5.out.to hb)
 replace N := qH (N.out.to hb)
 replace RP := qH (RP.out.to hb)
 replace M := qH (M.out.to hb)
 replace R := qH (R.out.to hb)
 replace RB := qH (RB.out.to hb)
 replace HP := qH (HP.out.to hb)
 replace B := qH (B.out.trans (hb.mono B.out.size))
 clear hb
 have HE := qH (prE_is m0)
 have HB : Hid (prBM m0 = if canM m0 = true then bytesM m0 else []) := rfl
 obtain ⟨cb, hcb⟩ : ∃ x, canM m0 = x := ⟨_, rfl⟩
 rw [hcb] at HE HB ⊢
 have HCB := qH hcb
 clear hcb
 obtain ⟨pe, hpe⟩ : ∃ x, prEM m0 = x := ⟨_, rfl⟩
 rw [hpe] at HE ⊢
 clear hpe
 go_upto_region 6 with (fail)
 go_cut [47] from 37 to 47 (fun s47 wx => s47 = .bool false ∧ Below w8.heap.size w8 wx)
 case first =>
  obtain ⟨wd, hwd⟩ : ∃ x, w8.drew = x := ⟨_, rfl⟩
  have BS : Hid (Below w8.heap.size w8 wd) := by (show Below _ _ _); rw [← hwd]; exact (Below.refl _ _).drew
  have HL : Hid ((hashM m0).length = 32) := hashM_len m0
  have hgd := tag_gd
  have heq : ∀ w', (Op.equalIn 10000 23 (.agg (arrB (hashM m0))) (.agg (arrB (hashM m0)))).run Tryz.prog w' = .ok true w' := fun w' => by
   have h := tag_eql (hashM m0) (hashM m0) HL.out HL.out w'
   rw [decide_eq_true (rfl : hashM m0 = hashM m0)] at h
   exact h
  refine wp_region_held_drew (S := (fun w' => Below w8.heap.size w8 w')) (by kernel_rfl) ((Below.refl _ _).drew) (fun hHeld => ?_)
  rw [hwd] at hHeld ⊢
  clear hwd hHeld
  have hHeld := BS.out
  refine tl 0 (.agg (mfL m0 v5).toArray) rfl (yieldsIf_load_row (by rfl) 30 _ rfl g5 rfl 30 (mfL m0 v5).toArray (0, 0) _ (fun w' h => (N.out.to h).row) Tryz.underlying30 rfl S5.out) ?_
  simp only [pR]
  refine tk 2 ?_
  simp only [pR]
  clear hHeld
  refine rd1 1 (fun K hK => ?_)
  go_simp
  refine (wCanM v5 m0 wd (R5.out.to BS.out) D5.out).mono ?_
  rw [HCB.out]
  rintro e w9 ⟨rfl, hb⟩
  replace BS := qH (BS.out.trans (hb.mono BS.out.size))
  clear hb
  go_wp2_with fail
  refine hK.out _ _ (BS.out) (fun hHeld => ?_)
  clear hK K
  refine tk 3 ?_
  simp only [pR]
  refine tk 4 ?_
  simp only [pR]
  refine tl 5 (.agg (mfL m0 v5).toArray) rfl (yieldsIf_load_row (by rfl) 30 _ rfl g5 rfl 30 (mfL m0 v5).toArray (0, 0) _ (fun w' h => (N.out.to h).row) Tryz.underlying30 rfl S5.out) ?_
  simp only [pR]
  refine tl 7 (.agg (mfL m0 x0).toArray) rfl (yieldsIf_load_row (by rfl) 30 _ rfl w.heap.size rfl 30 (mfL m0 x0).toArray (0, 0) _ (fun w' h => (M.out.to h).row) Tryz.underlying30 rfl S0.out) ?_
  simp only [pR]
  clear hHeld
  refine rd1 6 (fun K hK => ?_)
  go_simp
  refine (wHashM v5 m0 w9 (HP.out.to BS.out) (R5.out.to BS.out) D5.out).mono ?_
  rintro e w10 ⟨rfl, hb⟩
  replace BS := qH (BS.out.trans (hb.mono BS.out.size))
  clear hb
  go_wp2_with fail
  refine hK.out _ _ (BS.out) (fun hHeld => ?_)
  clear hK K
  clear hHeld
  refine rd1 8 (fun K hK => ?_)
  go_simp
  refine (rHashM x0 m0 w10 (R.out.to BS.out) D.out).mono ?_
  rintro e w11 ⟨rfl, hb⟩
  replace BS := qH (BS.out.trans (hb.mono BS.out.size))
  clear hb
  go_wp2_with fail
  refine hK.out _ _ (BS.out) (fun hHeld => ?_)
  clear hK K
  refine tk 9 ?_
  simp only [pR]
  refine tk 10 ?_
  simp only [pR]
  refine wpAnyH_done (by kernel_rfl) ?_ _
  go_wp2_with fail
  go_meet
  exact ⟨rfl, BS.out⟩
 case rest =>
 obtain ⟨rfl, hb⟩ := hcut
 obtain ⟨wo, hwo⟩ : ∃ x, x = wc := ⟨_, rfl⟩
 subst hwo
 replace R5 := qH (R5.out.to hb)
 replace N := qH (N.out.to hb)
 replace RP := qH (RP.out.to hb)
 replace M := qH (M.out.to hb)
 replace R := qH (R.out.to hb)
 replace RB := qH (RB.out.to hb)
 replace HP := qH (HP.out.to hb)
 replace B := qH (B.out.trans (hb.mono B.out.size))
 clear hb
 clear wa wb w6 w7 w8
 go_upto_if 48 with (fail)
 go_cut [1, 15] from 48 to 83 (fun s1 s15 wx => ∃ A n c bs, s1 = .slice A n c ∧ Rd wx wx.heap.size A n bs ∧ n ≤ 9000 ∧ n ≤ c ∧ c ≤ 9223372036854775807 ∧ Below wo.heap.size wo wx)
 case first =>
  cases cb
  ·replace HE : Hid (pe = 2) := HE.out
   have h0 := HE.out
   subst h0
   have hp : prBM m0 = [] := HB.out
   have h4 : n4 = 0 := by
    have := RP.out.1
    rw [hp] at this
    exact this.symm
   subst h4
   clear hp HE HB
   go_wp2_with fail
   go_meet
   exact ⟨_, _, _, _, rfl, RB.out, by have := H9.out; omega, HC1.out, HC1'.out, Below.refl _ _⟩
  ·replace HE : Hid (pe = 0) := HE.out
   have h0 := HE.out
   subst h0
   replace HB : Hid (prBM m0 = bytesM m0) := HB.out
   rw [HB.out] at RP
   have HL := qH (bytesM_len M.out.1.prev M.out.1.tag HCB.out)
   clear HB HE
   go_wp2_with (refine wpList_load_row rfl 30 _ rfl w.heap.size rfl 30 (mfL m0 x0).toArray (0, 0) _ M.out.row Tryz.underlying30 rfl S0.out ?_)
   refine (rBytesM x0 m0 wo R.out HCB.out).mono ?_
   rintro e wp ⟨A5, n5, c5, rfl, hown, hb⟩
   have RW := qH (Rd.of_own hown)
   have HN5 : Hid (n5 ≤ 9000 ∧ 0 < n5) := by have := HL.out; have := RW.out.1; exact ⟨by omega, by omega⟩
   replace RP := qH (RP.out.to hb)
   replace RB := qH (RB.out.to hb)
   have BP := qH hb
   clear hown hb
   obtain ⟨s1, hs1, hs1'⟩ := str_is (bytesM m0)
   have cv1 := RP.out.strC (c := c4) hs1
   have cv2 := RW.out.strC (c := c5) hs1
   go_upto_region 12 with (fail)
   clear cv1 cv2 hs1 hs1' RP
   cases b2
   ·go_wp2_with fail
    go_meet
    exact ⟨_, _, _, _, rfl, RB.out, by have := H9.out; omega, HC1.out, HC1'.out, BP.out⟩
   ·have O := qH (own_top (w := wp) (B := wp.heap.size) [] 5 (Nat.le_refl _) (fun u hu => (by cases hu)) (by decide))
    have BA := qH ((Below.refl wp.heap.size wp).alloc (Nat.le_refl _) (.cells #[] 5))
    have RA := qH (RW.out.to BA.out)
    have HQ : Hid (0 + n5 ≤ 140737488355328) := by (show _ ≤ _); have := HN5.out; omega
    go_upto_region 14 with (at_builtin; refine wpList_pushAll isU8 rfl _ _ rfl rfl rfl (bs := []) O.out RA.out BA.out BA.out.size HQ.out ?_; intro v9 w9 hown9 hb9 hs9; obtain ⟨A9, c9, rfl⟩ := own_slice hown9)
    rw [Nat.zero_add, List.nil_append] at hown9
    have O9 := qH hown9
    have B9 := qH hb9
    have HK := qH (own_cap hown9)
    clear hown9 hb9 hs9 O BA RA HQ
    obtain ⟨q, hq, hqe⟩ := idx_ofC a3 (n := n5) HN5.out.2 (by have := HN5.out; omega)
    have HQ := qH hq
    have hqI : (q : Int) < (n5 : Int) := by omega
    have hz1 : ¬ (n5 : Int) = 0 := by have := HN5.out; omega
    have hz2 : ¬ n5 = 0 := by have := HN5.out; omega
    have hun : IntKind.u64.wrap (n5 : Int) = (n5 : Int) := by have := HN5.out; rw [IntKind.wrap_u64]; omega
    obtain ⟨gg, hgg, hgB⟩ := own_head O9.out HN5.out.2
    subst hgg
    obtain ⟨hcell, hfr⟩ := own_cell (j := q) O9.out hq
    obtain ⟨u, hu⟩ := nth_u8B (bytesM m0) q
    rw [hu] at hcell
    have hxx := xor_u8 u y4
    have HG := qH hgB
    clear hq hu hgB
    go_wp2_with fail
    have h := own_set O9.out B9.out (j := q) (u ^^^ y4) rfl HG.out
    have O3 := qH h.1
    have B3 := qH h.2
    clear h
    go_meet
    exact ⟨_, _, _, _, rfl, Rd.of_own O3.out, HN5.out.1, HK.out.1, HK.out.2, BP.out.trans (B3.out.mono BP.out.size)⟩
 case rest =>
 obtain ⟨A3, n3, c3, bs, rfl, hr3, hn3, hc3, hc3', hb⟩ := hcut
 obtain ⟨wp, hwp⟩ : ∃ x, x = wc := ⟨_, rfl⟩
 subst hwp
 have HN3 := qH hn3
 replace R5 := qH (R5.out.to hb)
 replace N := qH (N.out.to hb)
 replace M := qH (M.out.to hb)
 replace R := qH (R.out.to hb)
 replace RB := qH (RB.out.to hb)
 replace HP := qH (HP.out.to hb)
 replace B := qH (B.out.trans (hb.mono B.out.size))
 replace RB := qH hr3
 clear hb hr3 hn3 hc3 hc3' HC1 HC1' H9 RP HE HB HCB
 go_upto_region 17 with (fail)
 have O := qH (own_top (w := wp) (B := wp.heap.size) [] 5 (Nat.le_refl _) (fun u hu => (by cases hu)) (by decide))
 have BA := qH ((Below.refl wp.heap.size wp).alloc (Nat.le_refl _) (.cells #[] 5))
 have RA := qH (RB.out.to BA.out)
 have HQ : Hid (0 + n3 ≤ 140737488355328) := by (show _ ≤ _); have := HN3.out; omega
 go_wp2_with (at_builtin; refine wpList_pushAll isU8 rfl _ _ rfl rfl rfl (bs := []) O.out RA.out BA.out BA.out.size HQ.out ?_; intro v4 w4 hown4 hb4 hs4; obtain ⟨A4', c4', rfl⟩ := own_slice hown4)
 rw [Nat.zero_add, List.nil_append] at hown4
 have RI := qH (Rd.of_own hown4)
 obtain ⟨hcap, hcap'⟩ := own_cap hown4
 have K1 := qH hcap
 have K2 := qH hcap'
 have hb := hb4
 clear hown4 hcap hcap' hb4 hs4 O BA RA HQ
 replace R5 := qH (R5.out.to hb)
 replace N := qH (N.out.to hb)
 replace M := qH (M.out.to hb)
 replace R := qH (R.out.to hb)
 replace RB := qH (RB.out.to hb)
 replace HP := qH (HP.out.to hb)
 replace B := qH (B.out.trans (hb.mono B.out.size))
 clear hb
 refine (wParseM A4' n3 c4' bs w4 RI.out K1.out K2.out (by have := HN3.out; omega)).mono ?_
 rintro e w7 ⟨v7, rfl, hr7, hb⟩
 have R7 := qH hr7
 have D7 := qH (bd_can hr7.cf (mfOut_can bs))
 have T7 := qH hr7.t
 replace R5 := qH (R5.out.to hb)
 replace N := qH (N.out.to hb)
 replace M := qH (M.out.to hb)
 replace R := qH (R.out.to hb)
 replace RB := qH (RB.out.to hb)
 replace HP := qH (HP.out.to hb)
 replace B := qH (B.out.trans (hb.mono B.out.size))
 clear hr7 hb RI K1 K2
 have hz := mf_zero
 have S7 := qH (mf_size T7.out v7)
 have SZ : Hid ((mfL Mf.zero nilV).toArray.size = (mfL (mfOut bs) v7).toArray.size) := by (show _ = _); rw [mfL_size MfT.zero, mfL_size T7.out]
 obtain ⟨ck, hck⟩ : ∃ x, mfErr bs = x := ⟨_, rfl⟩
 obtain ⟨tk, htk⟩ : ∃ x, mfOut bs = x := ⟨_, rfl⟩
 rw [htk] at R7 T7 S7 SZ
 rw [hck, htk]
 have HCK := qH hck
 have HTK := qH htk
 clear hck htk
 go_upto_region 18 with (refine wpList_store_row rfl 30 _ _ rfl w7.heap.size (mfL tk v7).toArray rfl rfl 30 (mfL Mf.zero nilV).toArray (heap_alloc_last w7 _) S7.out SZ.out (mf_one _ _) ?_; rw [World.setRow_alloc_new])
 have hb : Below w7.heap.size w7 (w7.alloc (.cells (mfL tk v7).toArray 30)) := (Below.refl _ _).alloc (Nat.le_refl _) _
 have N7 := qH (MB.new w7 T7.out v7)
 replace R5 := qH (R5.out.to hb)
 replace N := qH (N.out.to hb)
 replace R7 := qH (R7.out.to hb)
 replace M := qH (M.out.to hb)
 replace R := qH (R.out.to hb)
 replace RB := qH (RB.out.to hb)
 replace HP := qH (HP.out.to hb)
 replace B := qH (B.out.trans (hb.mono B.out.size))
 clear hb SZ
 generalize w7.alloc (.cells (mfL tk v7).toArray 30) = w8 at *
 generalize w7.heap.size = g8 at *
 clear w7
 go_wp2_with fail
 refine (rParseM A3 n3 c3 bs w8 RB.out (by have := HN3.out; omega)).mono ?_
 rintro e w9 ⟨v9, rfl, hr9, -, hb⟩
 have R9 := qH hr9
 have D9 := qH (bd_can hr9.cf (mfOut_can bs))
 rw [HTK.out] at R9
 replace R5 := qH (R5.out.to hb)
 replace N := qH (N.out.to hb)
 replace N7 := qH (N7.out.to hb)
 replace R7 := qH (R7.out.to hb)
 replace M := qH (M.out.to hb)
 replace R := qH (R.out.to hb)
 replace RB := qH (RB.out.to hb)
 replace HP := qH (HP.out.to hb)
 replace B := qH (B.out.trans (hb.mono B.out.size))
 clear hr9 hb
 rw [HCK.out, HTK.out]
 have S9 := qH (mf_size T7.out v9)
 have SZ : Hid ((mfL Mf.zero nilV).toArray.size = (mfL tk v9).toArray.size) := by (show _ = _); rw [mfL_size MfT.zero, mfL_size T7.out]
 go_upto_region 19 with (refine wpList_store_row rfl 30 _ _ rfl w9.heap.size (mfL tk v9).toArray rfl rfl 30 (mfL Mf.zero nilV).toArray (heap_alloc_last w9 _) S9.out SZ.out (mf_one _ _) ?_; rw [World.setRow_alloc_new])
 have hb : Below w9.heap.size w9 (w9.alloc (.cells (mfL tk v9).toArray 30)) := (Below.refl _ _).alloc (Nat.le_refl _) _
 have N9 := qH (MB.new w9 T7.out v9)
 replace R5 := qH (R5.out.to hb)
 replace N := qH (N.out.to hb)
 replace N7 := qH (N7.out.to hb)
 replace R7 := qH (R7.out.to hb)
 replace R9 := qH (R9.out.to hb)
 replace M := qH (M.out.to hb)
 replace R := qH (R.out.to hb)
 replace RB := qH (RB.out.to hb)
 replace HP := qH (HP.out.to hb)
 replace B := qH (B.out.trans (hb.mono B.out.size))
 clear hb SZ hz
 generalize w9.alloc (.cells (mfL tk v9).toArray 30) = wx at *
 generalize w9.heap.size = g9 at *
 clear w8 w9
 go_wp2_with (first | (refine wpList_load_rowGm (by rfl) 30 _ rfl g8 rfl 30 (mfL tk v7).toArray (0, 0) _ N7.out.row Tryz.underlying30 rfl S7.out ?_) | (refine wpList_load_rowGm (by rfl) 30 _ rfl g9 rfl 30 (mfL tk v9).toArray (0, 0) _ N9.out.row Tryz.underlying30 rfl S9.out ?_))
 refine (rSameM v7 v9 tk tk wx R7.out R9.out D7.out D9.out).mono ?_
 rw [same_selfB]
 rintro e wy ⟨rfl, hb⟩
 replace R5 := qH (R5.out.to hb)
 replace N := qH (N.out.to hb)
 replace M := qH (M.out.to hb)
 replace R := qH (R.out.to hb)
 replace RB := qH (RB.out.to hb)
 replace HP := qH (HP.out.to hb)
 replace B := qH (B.out.trans (hb.mono B.out.size))
 clear hb N7 N9 R7 R9 D7 D9 S7 S9
 go_wp2_with (first | (refine wpList_load_rowGm (by rfl) 30 _ rfl g5 rfl 30 (mfL m0 v5).toArray (0, 0) _ N.out.row Tryz.underlying30 rfl S5.out ?_) | (refine wpList_load_rowGm (by rfl) 30 _ rfl w.heap.size rfl 30 (mfL m0 x0).toArray (0, 0) _ M.out.row Tryz.underlying30 rfl S0.out ?_))
 refine (rSameM v5 x0 m0 m0 wy R5.out R.out D5.out D.out).mono ?_
 rw [same_selfB]
 rintro e wz ⟨rfl, hb⟩
 replace HP := qH (HP.out.to hb)
 replace B := qH (B.out.trans (hb.mono B.out.size))
 clear hb
 go_wp2_with fail
 refine (lAwakeM _ HP.out).mono ?_
 rintro e we ⟨rfl, hb⟩
 replace B := qH (B.out.trans (hb.mono B.out.size))
 clear hb
 go_wp2_with fail
 go_ret
 exact ⟨rfl, B.out⟩
theorem lifted (os : Os) (started : os.Started) (H : Type) (enc : TypeId × Value → H) :
  ReturnsInHanded {} Tryz.checked os 3 .any (fun w args => (Rows.manifestBytesSpec.pre enc Tryz.prog Tryz.f3 Rows.manifestBytesRow.domain false w args ∧ laidMetH Tryz.prog Rows.manifestBytesRow.laid w) ∧ sizedMet enc Tryz.prog Tryz.f3 (OpenSpec.ofChange Rows.manifestBytesSpec) false w args)
   (Rows.manifestBytesSpec.post enc Tryz.prog Tryz.f3 false true false false) := by
 refine returnsInHanded_of_change_and (C := Tryz.checked) (X := fun w _ => laidMetH Tryz.prog Rows.manifestBytesRow.laid w) (fun _ _ _ hh h => h.of_heap hh) own started (by kernel_rfl) Tryz.func3
  (ChangeSpec.witness_shaped (enc := enc) (C := Tryz.checked) (os := os) (X := fun w _ => laidMetH Tryz.prog Rows.manifestBytesRow.laid w) false (World.doorLaid Tryz.prog 400 os) #[.agg #[.int .i64 0, .int .u8 0, .int .u8 0, .int .u8 0, .int .u8 0, .int .u8 0, .int .u8 0, .int .u8 0, .int .u8 0, .int .u8 0, .int .u8 0, .int .u8 0, .int .u8 0, .int .u8 0, .int .u8 0, .int .u8 0, .int .u8 0, .int .u8 0, .int .u8 0, .int .u8 0, .int .u8 0, .int .u8 0, .int .u8 0, .int .u8 0, .int .u8 0, .int .u8 0, .int .u8 0, .int .u8 0, .int .u8 0, .int .u8 0, .int .u8 0, .int .u8 0, .int .u8 0, .int .i64 0, .slice none 0 0, .slice none 0 0, .slice none 0 0, .int .u8 0, .int .u8 0, .int .u8 0, .int .u8 0, .int .u8 0, .int .u8 0, .int .u8 0, .int .u8 0, .int .u8 0, .int .u8 0, .int .u8 0, .int .u8 0, .int .u8 0, .int .u8 0, .int .u8 0, .int .u8 0, .int .u8 0, .int .u8 0, .int .u8 0, .int .u8 0, .int .u8 0, .int .u8 0, .int .u8 0, .int .u8 0, .int .u8 0, .int .u8 0, .int .u8 0, .int .u8 0, .int .u8 0, .int .u8 0, .int .u8 0, .int .u8 0], .slice none 0 0, .bool false, .int .i64 0, .int .u8 0] 8 rfl (World.shaped_of_RefB (by kernel_rfl) (by kernel_rfl)) (by kernel_rfl) (by kernel_rfl) (by kernel_rfl) (door_met os _)) ?_
 intro W base args ds gs before hval0 hW hcnd hsz0 hL _
 have hval : ∀ (j : Nat) t v, Tryz.f3.params[j]? = some t → args[j]? = some v → Value.okWide Tryz.prog W .any base t v := hval0
 have hsz : (DataW.weightsEach Tryz.prog (Tryz.f3.params.toList ++ Rows.manifestBytesSpec.plain.varTypes Tryz.prog) (ds ++ gs)).all (· ≤ reachBytes) = true := hsz0
 have hW' := hW
 obtain ⟨p, q, hA0, hV, rfl, hfz, hnd⟩ := hW
 have hA : DataW.TrodAll enc Tryz.prog W 0 (fun _ => true) true Tryz.f3.params.toList args.toList ds p := hA0
 rw [Tryz.params3] at hA hval hsz
 obtain ⟨v0, vs0, d0, ds0, p0, q0, hargs, rfl, rfl, h0, r0⟩ := trodAll_cons hA
 obtain ⟨v1, vs1, d1, ds1, p1, q1, rfl, rfl, rfl, h1, r1⟩ := trodAll_cons r0
 obtain ⟨v2, vs2, d2, ds2, p2, q2, rfl, rfl, rfl, h2, r2⟩ := trodAll_cons r1
 obtain ⟨v3, vs3, d3, ds3, p3, q3, rfl, rfl, rfl, h3, r3⟩ := trodAll_cons r2
 obtain ⟨v4, vs4, d4, ds4, p4, q4, rfl, rfl, rfl, h4, r4⟩ := trodAll_cons r3
 obtain ⟨rfl, rfl, rfl⟩ := trodAll_nil r4
 obtain rfl : args = #[v0, v1, v2, v3, v4] := by cases args; simp_all
 obtain ⟨rfl, rfl⟩ := trodVars_none hV
 have sz0 : ∀ x ∈ d0.weights Tryz.prog 30, x ≤ reachBytes := fun x hx => by simpa using List.all_eq_true.1 hsz _ (DataW.weights_mem_each (j := 0) rfl rfl x hx)
 have k0 := h0
 have lt0 : ∀ x ∈ p0, x.block < W.heap.size := by obtain ⟨m, hm⟩ := k0; exact DataW.trod_lt m _ _ _ hm
 obtain ⟨x0, m0, rfl, w0⟩ := open_mf (hval 0 30 v0 rfl rfl) h0 sz0
 obtain ⟨a1, len1, cap1, rfl⟩ := okWide_slice Tryz.underlying31 (hval 1 31 v1 rfl rfl)
 have k1 := h1
 have lt1 : ∀ x ∈ p1, x.block < W.heap.size := by obtain ⟨m, hm⟩ := k1; exact DataW.trod_lt m _ _ _ hm
 obtain ⟨z1, w1⟩ : ∃ zs, IsRow .u8 W a1 len1 cap1 zs := by
  obtain ⟨fuel, hf⟩ := h1
  rcases open_ints Tryz.underlying31 Tryz.underlying5 (by kernel_rfl) hf with ⟨hcs, _⟩ | ⟨x, l, c, zs, hcs, _, hl, hm, hz, _, hcell, hwz⟩
  ·simp [Value.cells] at hcs
   obtain ⟨rfl, rfl, rfl⟩ := hcs
   exact ⟨[], .inl ⟨rfl, rfl, rfl, rfl⟩⟩
  ·simp [Value.cells] at hcs
   obtain ⟨rfl, rfl, rfl⟩ := hcs
   exact ⟨zs, .inr ⟨_, rfl, hl, hm, by simpa using hz, hcell, hwz⟩⟩
 obtain ⟨b2, rfl, rfl, rfl⟩ := open_bool Tryz.underlying4 (hval 2 4 v2 rfl rfl) h2
 obtain ⟨a3, rfl, rfl, rfl, w3⟩ := open_int Tryz.underlying3 (hval 3 3 v3 rfl rfl) h3
 obtain ⟨a4, rfl, rfl, rfl, w4⟩ := open_int Tryz.underlying5 (hval 4 5 v4 rfl rfl) h4
 clear hA0 hval0
 refine (walk x0 m0 a1 len1 cap1 z1 b2 a3 a4 W (pr_of_laid hL) w0 w1 w3 w4).mono fun e W' ⟨he, bel⟩ => ?_
 subst he
 exact ⟨_, rfl, _, _, _, [], _, [], hW', trodAll_mk1 (shut_bool Tryz.underlying4 _), (trodAll_cons_mk (Below.trod laidOut (by kernel_rfl) (of_decide_eq_true (by kernel_rfl)) k0 bel lt0) (trodAll_cons_mk (Below.trod laidOut (by kernel_rfl) (of_decide_eq_true (by kernel_rfl)) k1 bel lt1) (trodAll_cons_mk (shut_bool Tryz.underlying4 _) (trodAll_cons_mk (shut_int Tryz.underlying3 w3) (trodAll_cons_mk (shut_int Tryz.underlying5 w4) trodAll_mk0))))), rfl, bel.frame _, fun h => by cases h⟩
theorem over : Rows.manifestBytesRow.holds Tryz.pinned (OpenSpec.ofChange Rows.manifestBytesSpec) :=
 OpenClaim.holds_of_wide 3 Tryz.f3 rfl rfl rfl rfl rfl rfl rfl ⟨rfl, rfl, rfl, rfl, rfl⟩ rfl rfl rfl rfl rfl (by kernel_rfl) Tryz.func3 (by kernel_rfl)
  (of_decide_eq_true (by kernel_rfl)) (by unfold Func.isWrapper; first | (rw [if_pos (by decide +kernel)]; kernel_rfl) | (rw [if_neg (by decide +kernel)]; exact ⟨rfl, rfl⟩))
  (fun os started H enc _ => lifted os started H enc)
theorem wants : ∀ (j : Nat) t, Tryz.f3.params[j]? = some t → Tryz.prog.wantsStandIn t = false := by
 intro j t ht
 rw [Tryz.params3] at ht
 rcases j with _ | j
 ·obtain rfl : 30 = t := by simpa using ht
  kernel_rfl
 rcases j with _ | j
 ·obtain rfl : 31 = t := by simpa using ht
  kernel_rfl
 rcases j with _ | j
 ·obtain rfl : 4 = t := by simpa using ht
  kernel_rfl
 rcases j with _ | j
 ·obtain rfl : 3 = t := by simpa using ht
  kernel_rfl
 rcases j with _ | j
 ·obtain rfl : 5 = t := by simpa using ht
  kernel_rfl
 simp at ht
theorem proved : Rows.ManifestBytesCardSaid :=
 Claim7.holds_tied_plain_at .later [] [.data] true Rows.manifestBytesCard.stood.harness Rows.manifestBytesCard.stood.looks over (fun _ h => by cases h) (by kernel_rfl) (fun _ h => by cases h) manifestBytes_row_tie rfl ⟨rfl, rfl⟩ (by kernel_rfl) rfl
  (fun f fn hf hfn => by
   obtain rfl : f = 3 := Option.some.inj ((show Tryz.prog.funcNamed "citadel/citadellaw14.ManifestBytes" = some 3 by kernel_rfl).symm.trans hf) |>.symm
   obtain rfl : fn = Tryz.f3 := (Option.some.inj (Tryz.func3.symm.trans hfn)).symm
   exact ⟨by kernel_rfl, wants⟩)
  (by kernel_rfl)
end Go.Proofs.YtlmdidblgeeplaaGreatDoor.manifestBytes