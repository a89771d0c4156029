/- Several texts in one (a claim has 60 files at most): MfL. -/
import Derived.Test.YtlmdidblgeeplaaGreatDoorTz
import Derived.Test.YtlmdidblgeeplaaGreatDoorPMfPx
import Derived.Test.YtlmdidblgeeplaaGreatDoorPMfXx
import Derived.Test.YtlmdidblgeeplaaGreatDoorPCfLcx
namespace Go.Proofs.YtlmdidblgeeplaaGreatDoor
set_option maxRecDepth 1000000
set_option maxHeartbeats 8000000
set_option linter.unusedVariables false
set_option linter.unusedSimpArgs false
section
open Go.RowKit
theorem rd_topMf {w : World} (bs : List UInt8) (vs : List Value) (T : TypeId) (fr : Nat × Nat) (h : bs.map bval = vs) : Rd (w.alloc (.cells vs.toArray T fr)) (w.alloc (.cells vs.toArray T fr)).heap.size (some ⟨w.heap.size, 0, none⟩) vs.length bs := by
 subst h
 refine ⟨by simp, fun hn => ⟨w.heap.size, 0, rfl, by simp, fun j hj => ?_⟩⟩
 have hl : j < bs.length := by simpa using hj
 rw [World.cell?_alloc_mark, nth_of_lt hl]
 simp [hl, bval]
def exV (g : Nat) : CV := ⟨some ⟨g + 1, 0, none⟩, 1, 1, some ⟨g + 1 + 1, 0, none⟩, 1, 1, none, 0, 0⟩
theorem shown_worldM (w : World) : ∃ w4, ((((w.alloc (.cells (mfL Mf.zero nilV).toArray 30)).alloc (.cells #[.int .i64 2, .int .i64 1] 82)).alloc (.cells #[.int .i64 1, .int .i64 0, .int .i64 16, .bool false, .slice none 0 0] 58)).alloc (.cells #[.slice (some ⟨w.heap.size + 1, 0, none⟩) 1 1, .slice (some ⟨w.heap.size + 1 + 1, 0, none⟩) 1 1, .slice none 0 0] 28)) = w4 ∧
  Below w.heap.size w w4 ∧ MB w4 w.heap.size Mf.zero nilV ∧ RdCf w4 w4.heap.size (exV w.heap.size) exCf ∧ Bx w4 (w.heap.size + 1 + 1 + 1) 28 (cfL (exV w.heap.size)) ∧ w4.heap.size = w.heap.size + 4 ∧ Bx w4 (w.heap.size + 1) 82 [.int .i64 2, .int .i64 1] ∧ Bx w4 (w.heap.size + 1 + 1) 58 [.int .i64 1, .int .i64 0, .int .i64 16, .bool false, .slice none 0 0] := by
 refine ⟨_, rfl, ?_⟩
 have z1 := MB.new w MfT.zero nilV
 have b1 := (Below.refl w.heap.size w).alloc (Nat.le_refl _) (.cells (mfL Mf.zero nilV).toArray 30)
 have e1 : (w.alloc (.cells (mfL Mf.zero nilV).toArray 30)).heap.size = w.heap.size + 1 := by simp
 generalize w.alloc (.cells (mfL Mf.zero nilV).toArray 30) = w1 at *
 have x2 : Bx (w1.alloc (.cells #[.int .i64 2, .int .i64 1] 82)) (w.heap.size + 1) 82 [.int .i64 2, .int .i64 1] := by rw [← e1]; exact Bx.new w1 _ [.int .i64 2, .int .i64 1]
 have a2 := (Below.refl w1.heap.size w1).alloc (Nat.le_refl _) (.cells #[.int .i64 2, .int .i64 1] 82)
 have e2 : (w1.alloc (.cells #[.int .i64 2, .int .i64 1] 82)).heap.size = w.heap.size + 1 + 1 := by simp [e1]
 generalize w1.alloc (.cells #[.int .i64 2, .int .i64 1] 82) = w2 at *
 have x3 : Bx (w2.alloc (.cells #[.int .i64 1, .int .i64 0, .int .i64 16, .bool false, .slice none 0 0] 58)) (w.heap.size + 1 + 1) 58 [.int .i64 1, .int .i64 0, .int .i64 16, .bool false, .slice none 0 0] := by
  rw [← e2]; exact Bx.new w2 _ [.int .i64 1, .int .i64 0, .int .i64 16, .bool false, .slice none 0 0]
 have a3 := (Below.refl w2.heap.size w2).alloc (Nat.le_refl _) (.cells #[.int .i64 1, .int .i64 0, .int .i64 16, .bool false, .slice none 0 0] 58)
 have e3 : (w2.alloc (.cells #[.int .i64 1, .int .i64 0, .int .i64 16, .bool false, .slice none 0 0] 58)).heap.size = w.heap.size + 1 + 1 + 1 := by simp [e2]
 generalize w2.alloc (.cells #[.int .i64 1, .int .i64 0, .int .i64 16, .bool false, .slice none 0 0] 58) = w3 at *
 have x4 : Bx (w3.alloc (.cells #[.slice (some ⟨w.heap.size + 1, 0, none⟩) 1 1, .slice (some ⟨w.heap.size + 1 + 1, 0, none⟩) 1 1, .slice none 0 0] 28)) (w.heap.size + 1 + 1 + 1) 28 (cfL (exV w.heap.size)) := by
  rw [← e3]; exact Bx.new w3 _ (cfL (exV w.heap.size))
 have a4 := (Below.refl w3.heap.size w3).alloc (Nat.le_refl _) (.cells #[.slice (some ⟨w.heap.size + 1, 0, none⟩) 1 1, .slice (some ⟨w.heap.size + 1 + 1, 0, none⟩) 1 1, .slice none 0 0] 28)
 have e4 : (w3.alloc (.cells #[.slice (some ⟨w.heap.size + 1, 0, none⟩) 1 1, .slice (some ⟨w.heap.size + 1 + 1, 0, none⟩) 1 1, .slice none 0 0] 28)).heap.size = w.heap.size + 4 := by simp [e3]
 generalize w3.alloc (.cells #[.slice (some ⟨w.heap.size + 1, 0, none⟩) 1 1, .slice (some ⟨w.heap.size + 1 + 1, 0, none⟩) 1 1, .slice none 0 0] 28) = w4 at *
 exact ⟨b1.trans ((a2.trans ((a3.trans (a4.mono (by omega))).mono (by omega))).mono (by omega)), ((z1.to a2).to a3).to a4, ⟨rd_ww ((x2.to a3).to a4), rd_pp (x3.to a4), rd_ccnil _, Nat.le_refl _, Nat.le_refl _, Nat.le_refl _⟩, x4, e4, (x2.to a3).to a4, x3.to a4⟩
theorem exV_bd (g : Nat) : Bd (exV g) := ⟨(show 1 ≤ 1000 by decide), (show 1 ≤ 1000 by decide), (show 0 ≤ 1000 by decide)⟩
theorem exR_t : MfT exR := ⟨rfl, rfl⟩
theorem exU_t : MfT exU := ⟨rfl, rfl⟩
theorem mf_build (v : CV) : (((((mfL Mf.zero nilV).set 0 (.int .i64 1)).set 33 (.int .i64 1)).set 34 (.slice v.aw v.nw v.kw)).set 35 (.slice v.ap v.np v.kp)).set 36 (.slice v.ac v.nc v.kc) = mfL exU v := rfl
theorem lShownM (w : World) (hp : Pr w) : Calls Tryz.prog 50 #[] w fun x w' => ∃ v : CV, x = .returned (.agg (mfL exR v).toArray) ∧ RdM w' w'.heap.size v exR ∧ Bd v ∧ v.nw = 1 ∧ Below w.heap.size w w' := by
 have hz := mf_zero
 have kc := fun (w : World) (C : Array Value) (n c : Nat) => Lib.run_convert_bytes_const (P := Tryz.prog) w 31 5 C n c Tryz.underlying31 Tryz.underlying5
 obtain ⟨w4, hw4, hb, hzb, hrd, hx, hs, hyw, hyp⟩ := shown_worldM w
 have YW := qH hyw
 have YP := qH hyp
 have HP := qH (hp.to hb)
 have Z := qH hzb
 have R := qH hrd
 have X := qH hx
 have HS := qH hs
 have B := qH hb
 have HW := qH hw4
 clear hp hw4 hb hzb hrd hx hs hyw hyp
 go_enter Tryz.func50, Tryz.ntmps50
 go_upto_region 2 with (fail)
 rw [HW.out]
 clear HW
 have T0 : Hid (Rd (w4.alloc (.cells #[.int .u8 107, .int .u8 101, .int .u8 121] 5 (3, 4))) (w4.alloc (.cells #[.int .u8 107, .int .u8 101, .int .u8 121] 5 (3, 4))).heap.size (some ⟨w4.heap.size, 0, none⟩) 3 keyB) :=
  rd_topMf keyB [.int .u8 107, .int .u8 101, .int .u8 121] 5 (3, 4) rfl
 have hal : Below w4.heap.size w4 (w4.alloc (.cells #[.int .u8 107, .int .u8 101, .int .u8 121] 5 (3, 4))) := (Below.refl _ _).alloc (Nat.le_refl _) _
 obtain ⟨p0, p1, p2⟩ := cf_cells (X.out.to hal)
 go_wp2_with fail
 rw [mf_build]
 have HE := qH (show RdM (w4.alloc (.cells #[.int .u8 107, .int .u8 101, .int .u8 121] 5 (3, 4))) (w4.alloc (.cells #[.int .u8 107, .int .u8 101, .int .u8 121] 5 (3, 4))).heap.size (exV w.heap.size) exU from ⟨exU_t, R.out.to hal⟩)
 replace HP := qH (HP.out.to hal)
 replace YW := qH (YW.out.to hal)
 replace YP := qH (YP.out.to hal)
 replace Z := qH (Z.out.to hal)
 replace B := qH (B.out.trans (hal.mono B.out.size))
 have DV := qH (exV_bd w.heap.size)
 have HS5 : Hid ((w4.alloc (.cells #[.int .u8 107, .int .u8 101, .int .u8 121] 5 (3, 4))).heap.size = w.heap.size + 5) := by (show _ = _); simp [HS.out]
 refine (wSealM _ 3 3 keyB (exV w.heap.size) exU _ HP.out T0.out (by decide) (by decide) (by decide) HE.out DV.out).mono ?_
 rw [ex_seal]
 clear hal p0 p1 p2 X R T0
 generalize w4.alloc (.cells #[.int .u8 107, .int .u8 101, .int .u8 121] 5 (3, 4)) = w5 at *
 rintro e w6 ⟨v, rfl, hoc, hbd, hb⟩
 have C := qH hoc
 have DW := qH hbd
 have H5 : Hid (w.heap.size < w5.heap.size) := by (show _ < _); have := HS5.out; omega
 replace Z := qH (Z.out.to hb)
 replace B := qH (B.out.trans (hb.mono B.out.size))
 clear hb hoc hbd HE HP HS kc hz YW YP DV
 have S9 := qH (mf_size exR_t v)
 have SZ : Hid ((mfL Mf.zero nilV).toArray.size = (mfL exR v).toArray.size) := by (show _ = _); rw [mfL_size MfT.zero, mfL_size exR_t]
 go_wp2_with (refine wpList_store_row rfl 30 _ _ rfl w.heap.size (mfL exR v).toArray rfl rfl 30 (mfL Mf.zero nilV).toArray Z.out.row S9.out SZ.out (mf_one _ _) ?_)
 (try simp only [Exit.inBlock, Exit.then])
 refine bodyPost_ret (results_mf rfl _ _ w.heap.size exR v rfl (Z.out.setRow exR_t v)) rfl ?_
 have hk := keep_setRow (w := w6) w.heap.size (mfL exR v).toArray
 exact ⟨v, rfl, ⟨exR_t, (C.out.keptO hk (fun k e => by have := H5.out; omega)).rd⟩, DW.out, C.out.rd.ww.1.symm, below_setRow B.out (Nat.le_refl _) _⟩
theorem prB_len {m : Mf} (h : MfT m) : (prBM m).length ≤ 140737488355328 := by
 unfold prBM
 split
 ·rename_i hc
  have := (bytesM_len h.prev h.tag hc).1
  omega
 ·exact Nat.zero_le _
noncomputable def toldM (m : Mf) (s : Bool) : Int := checkM keyB exR (prBM (if s = true then sealM keyB m else m))
theorem lToldM (v : CV) (m : Mf) (s : Bool) (w : World) (hp : Pr w) (h : RdM w w.heap.size v m) (d : Bd v) : Calls Tryz.prog 51 #[.agg (mfL m v).toArray, .bool s] w fun x w' => x = .returned (.int .i64 (toldM m s)) ∧ Below w.heap.size w w' := by
 have hz := mf_zero
 have kc := fun (w : World) (C : Array Value) (n c : Nat) => Lib.run_convert_bytes_const (P := Tryz.prog) w 31 5 C n c Tryz.underlying31 Tryz.underlying5
 have B := qH ((Below.refl w.heap.size w).alloc (Nat.le_refl _) (.cells (mfL m v).toArray 30))
 have M := qH (MB.new w h.t v)
 have R := qH (h.to B.out)
 have HP := qH (hp.to B.out)
 have D := qH d
 have R0 := qH h.cf
 have HP0 := qH hp
 have HG1 : Hid (w.heap.size < (w.alloc (.cells (mfL m v).toArray 30)).heap.size) := by (show _ < _); simp
 have HV : Hid (toldM m s = checkM keyB exR (prBM (if s = true then sealM keyB m else m))) := rfl
 clear h hp d
 go_enter Tryz.func51, Tryz.ntmps51
 go_upto_region 1 with (fail)
 generalize w.alloc (.cells (mfL m v).toArray 30) = w1 at *
 go_upto_region 2 with (fail)
 have T0 : Hid (Rd (w1.alloc (.cells #[.int .u8 107, .int .u8 101, .int .u8 121] 5 (3, 4))) (w1.alloc (.cells #[.int .u8 107, .int .u8 101, .int .u8 121] 5 (3, 4))).heap.size (some ⟨w1.heap.size, 0, none⟩) 3 keyB) :=
  rd_topMf keyB [.int .u8 107, .int .u8 101, .int .u8 121] 5 (3, 4) rfl
 have hal : Below w1.heap.size w1 (w1.alloc (.cells #[.int .u8 107, .int .u8 101, .int .u8 121] 5 (3, 4))) := (Below.refl _ _).alloc (Nat.le_refl _) _
 replace M := qH (M.out.to hal)
 replace R := qH (R.out.to hal)
 replace HP := qH (HP.out.to hal)
 replace B := qH (B.out.trans (hal.mono B.out.size))
 clear hal kc
 generalize w1.alloc (.cells #[.int .u8 107, .int .u8 101, .int .u8 121] 5 (3, 4)) = w2 at *
 generalize w1.heap.size = gk at *
 clear w1
 go_upto_if 12 with (fail)
 go_cut [] from 12 to 15 (fun wx => ∃ m' v', m' = (if s = true then sealM keyB m else m) ∧ MB wx w.heap.size m' v' ∧ RdCf wx wx.heap.size v' m.cf ∧ Bd v' ∧ Pr wx ∧ Rd wx wx.heap.size (some ⟨gk, 0, none⟩) 3 keyB ∧ Below w.heap.size w wx)
 case first =>
  cases s
  ·go_wp2_with fail
   go_meet
   exact ⟨m, v, rfl, M.out, R.out.cf, D.out, HP.out, T0.out, B.out⟩
  ·have S9 := qH (mf_size M.out.1 v)
   have ST := qH (sealM_t (key := keyB) M.out.1)
   go_wp2_with (refine wpList_load_row rfl 30 _ rfl w.heap.size rfl 30 (mfL m v).toArray (0, 0) _ M.out.row Tryz.underlying30 rfl S9.out ?_)
   refine (wSealM _ 3 3 keyB v m w2 HP.out T0.out (by decide) (by decide) (by decide) R.out D.out).mono ?_
   rintro e w3 ⟨v', rfl, hoc, hbd, hb⟩
   have C := qH hoc
   have DW := qH hbd
   have S8 := qH (mf_size ST.out v')
   have SZ : Hid ((mfL m v).toArray.size = (mfL (sealM keyB m) v').toArray.size) := by (show _ = _); rw [mfL_size M.out.1, mfL_size ST.out]
   have HG2 : Hid (w.heap.size < w2.heap.size) := M.out.lt
   clear hoc hbd
   replace M := qH (M.out.to hb)
   replace HP := qH (HP.out.to hb)
   replace T0 := qH (T0.out.to hb)
   replace B := qH (B.out.trans (hb.mono B.out.size))
   clear hb
   go_wp2_with (refine wpList_store_row rfl 30 _ _ rfl w.heap.size (mfL (sealM keyB m) v').toArray rfl rfl 30 (mfL m v).toArray M.out.row S8.out SZ.out (mf_one _ _) ?_)
   go_meet
   have hk := keep_setRow (w := w3) w.heap.size (mfL (sealM keyB m) v').toArray
   have hB := below_setRow B.out (Nat.le_refl w.heap.size) (mfL (sealM keyB m) v').toArray
   refine ⟨sealM keyB m, v', rfl, M.out.setRow ST.out v', (C.out.keptO hk (fun k e => by have := HG2.out; omega)).rd, DW.out, HP0.out.to hB, T0.out.kept hk (fun _ b o e h => ?_), hB⟩
   injection e with e; injection e with e1 _
   have := HG1.out
   omega
 case rest =>
 obtain ⟨m', v', hm, hmb, hrc, hbd, hpr, hk, hb⟩ := hcut
 obtain ⟨wo, hwo⟩ : ∃ x, x = wc := ⟨_, rfl⟩
 subst hwo
 rw [← hm] at HV
 replace M := qH hmb
 have hcf : m'.cf = m.cf := by
  rw [hm]
  split
  ·exact sealM_cf _ _
  ·rfl
 rw [← hcf] at hrc
 replace R := qH (RdM.mk (w := wo) (B := wo.heap.size) (v := v') (m := m') hmb.1 hrc)
 replace HP := qH hpr
 replace T0 := qH hk
 replace B := qH hb
 have S9 := qH (mf_size hmb.1 v')
 clear hmb hcf hrc hpr hk hb hm D
 go_upto_region 4 with (fail)
 go_wp2_with (refine wpList_load_row rfl 30 _ rfl w.heap.size rfl 30 (mfL m' v').toArray (0, 0) _ M.out.row Tryz.underlying30 rfl S9.out ?_)
 refine (wPrintM v' m' wo R.out hbd).mono ?_
 rintro e w4 ⟨A4, n4, c4, rfl, hr4, h4, h4', hb⟩
 have R4 := qH hr4
 have H4 := qH h4
 have H5 := qH h4'
 have L4 : Hid (n4 ≤ 140737488355328) := by (show _ ≤ _); rw [← hr4.1]; exact prB_len M.out.1
 replace HP := qH (HP.out.to hb)
 replace T0 := qH (T0.out.to hb)
 replace B := qH (B.out.trans (hb.mono B.out.size))
 clear hr4 h4 h4' hb M R S9
 go_wp2_with fail
 refine (lShownM w4 HP.out).mono ?_
 rintro e w5 ⟨v5, rfl, hr5, hd5, -, hb⟩
 have RS := qH hr5
 have DS := qH hd5
 replace HP := qH (HP.out.to hb)
 replace T0 := qH (T0.out.to hb)
 replace R4 := qH (R4.out.to hb)
 replace B := qH (B.out.trans (hb.mono B.out.size))
 clear hr5 hd5 hb
 go_wp2_with fail
 refine (wCheckM _ A4 3 3 n4 c4 keyB (prBM m') v5 exR w5 HP.out T0.out (by decide) (by decide) (by decide) RS.out DS.out R4.out H4.out H5.out L4.out).mono ?_
 rintro e w6 ⟨v6, rfl, hr6, hb⟩
 replace B := qH (B.out.trans (hb.mono B.out.size))
 have T6 := qH hr6.t
 clear hr6 hb
 rw [← HV.out]
 generalize takenM keyB exR (prBM m') = tk at *
 have S6 := qH (mf_size T6.out v6)
 have SZ : Hid ((mfL Mf.zero nilV).toArray.size = (mfL tk v6).toArray.size) := by (show _ = _); rw [mfL_size MfT.zero, mfL_size T6.out]
 go_wp2_with (refine wpList_store_row rfl 30 _ _ rfl w6.heap.size (mfL tk v6).toArray rfl rfl 30 (mfL Mf.zero nilV).toArray (heap_alloc_last w6 _) S6.out SZ.out (mf_one _ _) ?_; rw [World.setRow_alloc_new])
 go_ret
 exact ⟨rfl, B.out.alloc B.out.size _⟩
theorem mf_eta (m : Mf) : (⟨m.ver, m.prev, m.trial, m.cf, m.tag⟩ : Mf) = m := rfl
theorem lCopiedM (v : CV) (m : Mf) (w : World) (h : RdM w w.heap.size v m) (d : Bd v) (hi : ∀ p ∈ m.cf.ps, p.img.length ≤ 100000) :
  Calls Tryz.prog 8 #[.agg (mfL m v).toArray] w fun x w' => ∃ (v' : CV) (qs : List QP), x = .returned (.agg (mfL m v').toArray) ∧ OwX w' w.heap.size v' m.cf qs ∧ Below w.heap.size w w' := by
 have hz := mf_zero
 have B1 := qH ((Below.refl w.heap.size w).alloc (Nat.le_refl _) (.cells (mfL m v).toArray 30))
 have M := qH (MB.new w h.t v)
 have R := qH (h.cf.to B1.out)
 have HS : Hid ((w.alloc (.cells (mfL m v).toArray 30)).heap.size = w.heap.size + 1) := by (show _ = _); simp
 have D := qH d
 have HI := qH hi
 clear h d hi
 go_enter Tryz.func8, Tryz.ntmps8
 go_upto_region 1 with (fail)
 generalize w.alloc (.cells (mfL m v).toArray 30) = w1 at *
 have B2 : Hid (Below w1.heap.size w1 (w1.alloc (.cells (mfL Mf.zero nilV).toArray 30))) := (Below.refl _ _).alloc (Nat.le_refl _) _
 have Z := qH (MB.new w1 MfT.zero nilV)
 rw [HS.out] at Z
 have HS2 : Hid ((w1.alloc (.cells (mfL Mf.zero nilV).toArray 30)).heap.size = w.heap.size + 2) := by (show _ = _); simp [HS.out]
 replace M := qH (M.out.to B2.out)
 replace R := qH (R.out.to B2.out)
 replace B2 := qH (B1.out.trans (B2.out.mono B1.out.size))
 generalize w1.alloc (.cells (mfL Mf.zero nilV).toArray 30) = w2 at *
 clear B1 HS hz
 obtain ⟨-, -, x2, x3, x4⟩ := M.out.cells
 go_wp2_with fail
 refine (lCopiedX v m.cf w2 R.out D.out.1 D.out.2.1 D.out.2.2 HI.out).mono ?_
 rintro e w3 ⟨v', qs, rfl, ho, hb⟩
 rw [show v'.val = .agg #[.slice v'.aw v'.nw v'.kw, .slice v'.ap v'.np v'.kp, .slice v'.ac v'.nc v'.kc] from rfl]
 replace M := qH (M.out.to hb)
 replace Z := qH (Z.out.to hb)
 have O := qH ho
 replace B2 := qH (B2.out.trans (hb.mono B2.out.size))
 clear hb ho x2 x3 x4 R
 obtain ⟨-, -, x2, x3, x4⟩ := M.out.cells
 have f0 := M.out.fz 34
 have f1 := M.out.fz 35
 have f2 := M.out.fz 36
 go_upto_region 2 with (fail)
 change Code.wp _ _ _ _ (Proofs.YtlmdidblgeeplaaGreatDoor.setCf w3 w.heap.size v')
 have HK := qH (show Keep (· = w.heap.size) w3 (Proofs.YtlmdidblgeeplaaGreatDoor.setCf w3 w.heap.size v') from keep_setCf (R := (· = w.heap.size)) (Keep.refl _ _) rfl v')
 replace Z := qH (Z.out.kept HK.out (by omega))
 replace O := qH (O.out.kept HK.out (fun k e => .inl (by have := HS2.out; omega)))
 replace B2 := qH (below_setCf B2.out (Nat.le_refl _) v')
 replace M := qH (M.out.setCf v' m.cf)
 rw [mf_eta] at M
 clear HK x2 x3 x4 f0 f1 f2
 generalize Proofs.YtlmdidblgeeplaaGreatDoor.setCf w3 w.heap.size v' = w4 at *
 have S9 := qH (mf_size M.out.1 v')
 have SZ : Hid ((mfL Mf.zero nilV).toArray.size = (mfL m v').toArray.size) := by (show _ = _); rw [mfL_size MfT.zero, mfL_size M.out.1]
 go_wp2_with (first | (refine wpList_load_row rfl 30 _ rfl w.heap.size rfl 30 (mfL m v').toArray (0, 0) _ M.out.row Tryz.underlying30 rfl S9.out ?_) | (refine wpList_store_row rfl 30 _ _ rfl (w.heap.size + 1) (mfL m v').toArray rfl rfl 30 (mfL Mf.zero nilV).toArray Z.out.row S9.out SZ.out (mf_one _ _) ?_))
 (try simp only [Exit.inBlock, Exit.then])
 refine bodyPost_ret (results_mf rfl _ _ (w.heap.size + 1) m v' rfl (Z.out.setRow M.out.1 v')) rfl ?_
 exact ⟨v', qs, rfl, (O.out.kept (keep_setRow (w.heap.size + 1) (mfL m v').toArray) (fun k e => .inl (by have := HS2.out; omega))).mono (by have := HS2.out; omega), below_setRow B2.out (by omega) _⟩
end
end Go.Proofs.YtlmdidblgeeplaaGreatDoor