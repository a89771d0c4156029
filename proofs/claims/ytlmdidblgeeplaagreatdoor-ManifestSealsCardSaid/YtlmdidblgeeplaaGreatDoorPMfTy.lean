/- Several texts in one (a claim has 60 files at most): MfT. -/
import Derived.Test.YtlmdidblgeeplaaGreatDoorTz
import Derived.Test.YtlmdidblgeeplaaGreatDoorPMfSy
import Derived.Test.YtlmdidblgeeplaaGreatDoorPCfYy
import Derived.Test.YtlmdidblgeeplaaGreatDoorPChPx
namespace Go.Proofs.YtlmdidblgeeplaaGreatDoor
set_option maxRecDepth 1000000
set_option maxHeartbeats 8000000
set_option linter.unusedVariables false
set_option linter.unusedSimpArgs false
section
open Go.RowKit
structure MSt (w0 w : World) (gr g z : Nat) (gb : Option Nat) (s : RS) (m : Mf) (v : CV) : Prop where
 ref : RefAt w gr gb s
 mb : MB w g m v
 zb : MB w z Mf.zero nilV
 bel : Below w0.heap.size w0 w
 z0 : w0.heap.size ≤ z
 zr : z < gr
 rg : gr < g
 gbt : ∀ b, gb = some b → z < b ∧ b < g
section
variable {w0 w w' : World} {gr g z : Nat} {gb : Option Nat} {s s' : RS} {m m' : Mf} {v v' : CV}
theorem MSt.read (h : MSt w0 w gr g z gb s m v) (hk : Keep (· = gr) w w') (hr : RefAt w' gr gb s') : MSt w0 w' gr g z gb s' m v := by
 have h1 := h.z0; have h2 := h.zr; have h3 := h.rg
 exact ⟨hr, h.mb.kept hk (by omega), h.zb.kept hk (by omega), hk.below h.bel h.bel.size (fun k e => by omega), h1, h2, h3, h.gbt⟩
theorem MSt.below (h : MSt w0 w gr g z gb s m v) (hb : Below w.heap.size w w') : MSt w0 w' gr g z gb s m v :=
 ⟨h.ref.below hb, h.mb.to hb, h.zb.to hb, h.bel.trans (hb.mono h.bel.size), h.z0, h.zr, h.rg, h.gbt⟩
theorem MSt.put (h : MSt w0 w gr g z gb s m v) (hk : Keep (· = g) w w') (hm : MB w' g m' v') : MSt w0 w' gr g z gb s m' v' := by
 have h1 := h.z0; have h2 := h.zr; have h3 := h.rg
 exact ⟨h.ref.kept hk (by omega) (fun b hb e => by have := h.gbt b hb; omega), hm, h.zb.kept hk (by omega), hk.below h.bel h.bel.size (fun k e => by omega), h1, h2, h3, h.gbt⟩
end
theorem can_ok {bs : List UInt8} (h : cfErr bs = 0) : canC (cfOut bs) = true := by
 cases e : okC bs
 ·rw [(cfOut_no e).2] at h; cases h
 ·rw [(cfOut_yes e).1]; exact (okC_got e).2.1
theorem bd_can {w : World} {B : Nat} {v : CV} {c : Cf} (h : RdCf w B v c) (hc : canC c = true) : Bd v := by
 have h1 := (canC_iff.1 hc).2
 have a := h.ww.1
 have b := h.pp.1
 have d := h.cc.1
 exact ⟨by omega, by omega, by omega⟩
theorem rParseM (A : Option Addr) (n c : Nat) (bs : List UInt8) (w : World) (ha : Rd w w.heap.size A n bs) (hn : n ≤ 140737488355328) :
  Calls Tryz.prog 16 #[.slice A n c] w fun e w' => ∃ v : CV, e = .returned (.tuple #[.agg (mfL (mfOut bs) v).toArray, .int .i64 (mfErr bs)]) ∧ RdM w' w'.heap.size v (mfOut bs) ∧ Sp w' w.heap.size v ∧ Below w.heap.size w w' := by
 have hz := mf_zero
 have B1 := qH ((Below.refl w.heap.size w).alloc (Nat.le_refl _) (.cells (mfL Mf.zero nilV).toArray 30))
 have Z := qH (MB.new w MfT.zero nilV)
 have R := qH (ha.to B1.out)
 have HS : Hid ((w.alloc (.cells (mfL Mf.zero nilV).toArray 30)).heap.size = w.heap.size + 1) := by (show _ = _); simp
 have HN := qH hn
 clear ha hn
 go_enter Tryz.func16, Tryz.ntmps16
 go_upto_region 1 with (fail)
 generalize w.alloc (.cells (mfL Mf.zero nilV).toArray 30) = w1 at *
 go_wp2_with fail
 refine (rdNew A n c bs w1 R.out HN.out).mono ?_
 rintro e w2 ⟨gr, gb, rfl, hr, hgr, hgb, hb⟩
 have F := qH hr
 have HGR : Hid (w.heap.size < gr) := by (show _ < _); have := HS.out; omega
 have HGB : Hid (∀ b, gb = some b → w.heap.size < b ∧ b < w2.heap.size) := fun b e => by have := hgb b e; have := HS.out; omega
 have HGL : Hid (gr < w2.heap.size) := hr.lt
 replace Z := qH (Z.out.to hb)
 replace B1 := qH (B1.out.trans (hb.mono B1.out.size))
 clear hr hgr hgb hb R HS HN
 go_wp2_with fail
 refine (rdInt gr gb (newRS bs) w2 F.out).mono ?_
 rintro e w3 ⟨rfl, hr, hk⟩
 replace F := qH hr
 replace Z := qH (Z.out.kept hk (by have := HGR.out; omega))
 replace B1 := qH (hk.below B1.out B1.out.size (fun k e => by have := HGR.out; omega))
 replace HGB : Hid (∀ b, gb = some b → w.heap.size < b ∧ b < w3.heap.size) := fun b e => by have := HGB.out b e; have := hk.size; omega
 replace HGL : Hid (gr < w3.heap.size) := by (show _ < _); have := HGL.out; have := hk.size; omega
 clear hr hk
 have GV : Hid (gotM bs = ⟨intV (newRS bs), tagV ((newRS bs).next 8), intV (((newRS bs).next 8).next 32), cfOut (bytesV ((((newRS bs).next 8).next 32).next 8)), tagV (bytesS ((((newRS bs).next 8).next 32).next 8))⟩) := rfl
 have HO : Hid (okM bs = (decide (endV ((bytesS ((((newRS bs).next 8).next 32).next 8)).next 32) = 0) && (decide (cfErr (bytesV ((((newRS bs).next 8).next 32).next 8)) = 0) && canM (gotM bs)))) := rfl
 generalize newRS bs = r0 at *
 generalize hx0 : intV r0 = x0 at *
 generalize hr1 : r0.next 8 = r1 at *
 clear hx0 hr1
 have T1 : Hid (MfT ⟨x0, zeros32, 0, ⟨[], [], []⟩, zeros32⟩) := ⟨rfl, rfl⟩
 have S1 := qH (mf_size T1.out nilV)
 have SZ : Hid ((mfL Mf.zero nilV).toArray.size = (mfL ⟨x0, zeros32, 0, ⟨[], [], []⟩, zeros32⟩ nilV).toArray.size) := by (show _ = _); rw [mfL_size MfT.zero, mfL_size T1.out]
 go_upto_region 3 with (refine wpList_store_row rfl 30 _ _ rfl w3.heap.size (mfL ⟨x0, zeros32, 0, ⟨[], [], []⟩, zeros32⟩ nilV).toArray rfl rfl 30 (mfL Mf.zero nilV).toArray (heap_alloc_last w3 _) S1.out SZ.out (mf_one _ _) ?_; rw [World.setRow_alloc_new])
 have hal : Below w3.heap.size w3 (w3.alloc (.cells (mfL ⟨x0, zeros32, 0, ⟨[], [], []⟩, zeros32⟩ nilV).toArray 30)) := (Below.refl _ _).alloc (Nat.le_refl _) _
 have M : Hid (MSt w (w3.alloc (.cells (mfL ⟨x0, zeros32, 0, ⟨[], [], []⟩, zeros32⟩ nilV).toArray 30)) gr w3.heap.size w.heap.size gb r1 ⟨x0, zeros32, 0, ⟨[], [], []⟩, zeros32⟩ nilV) :=
  ⟨F.out.below hal, MB.new w3 T1.out nilV, Z.out.to hal, B1.out.trans (hal.mono B1.out.size), Nat.le_refl _, HGR.out, HGL.out, HGB.out⟩
 clear F Z B1 HGR HGL HGB hal T1 S1 SZ hz
 generalize w3.alloc (.cells (mfL ⟨x0, zeros32, 0, ⟨[], [], []⟩, zeros32⟩ nilV).toArray 30) = w4 at *
 generalize w3.heap.size = g at *
 clear w3
 go_wp2_with fail
 refine (rdTag gr gb r1 w4 M.out.ref (fun b hb => by have := (M.out.gbt b hb).2; have := M.out.mb.lt; omega)).mono ?_
 rintro e w5 ⟨rfl, hr, hk⟩
 replace M := qH (M.out.read hk hr)
 have TL := qH (tagV_len r1)
 clear hr hk
 generalize tagV r1 = x1 at *
 generalize r1.next 32 = r2 at *
 have S2 := qH (tag_size TL.out)
 have TH : Hid (w5.there g 1 (arrB x1).size) := M.out.mb.there (by rw [arrB_size, TL.out]; decide)
 go_upto_region 4 with (refine wpList_store_mid rfl 23 _ _ rfl g 1 (arrB x1) rfl rfl TH.out S2.out (arrB_one _) ?_)
 replace M := qH (M.out.put (keep_setCellsM (Keep.refl _ _) g 1 (arrB x1).toList rfl) (M.out.mb.setPrev TL.out))
 clear S2 TH
 generalize w5.setCells g 1 (arrB x1).toList = w6 at *
 go_wp2_with fail
 refine (rdInt gr gb r2 w6 M.out.ref).mono ?_
 rintro e w7 ⟨rfl, hr, hk⟩
 replace M := qH (M.out.read hk hr)
 clear hr hk
 generalize intV r2 = x2 at *
 generalize r2.next 8 = r3 at *
 obtain ⟨-, y1, -⟩ := M.out.mb.cells
 have f1 := M.out.mb.fz 33
 go_upto_region 5 with (fail)
 replace M := qH (M.out.put ((Keep.refl _ _).setCell _ _ rfl) (M.out.mb.setTrial x2))
 clear y1 f1
 generalize w7.setCell ⟨g, 33, none⟩ (.int .i64 x2) = w8 at *
 go_wp2_with fail
 refine (rdBytes gr gb r3 w8 M.out.ref).mono ?_
 rintro e w9 ⟨A9, n9, c9, rfl, ho, hr, hk⟩
 have R9 := qH ho.1
 replace M := qH (M.out.read hk hr)
 have L9 := qH (bytesV_le r3)
 clear ho hr hk
 generalize bytesV r3 = x3 at *
 generalize bytesS r3 = r4 at *
 go_wp2_with fail
 refine (rParseO A9 n9 c9 x3 w9 R9.out (by have := R9.out.1; have := L9.out; omega)).mono ?_
 rintro e w10 ⟨v, rfl, hc, hb⟩
 have C := qH hc
 have HSZ : Hid (g < w9.heap.size) := M.out.mb.lt
 replace M := qH (M.out.below hb)
 clear hc hb R9 L9
 rw [show v.val = .agg #[.slice v.aw v.nw v.kw, .slice v.ap v.np v.kp, .slice v.ac v.nc v.kc] from rfl]
 go_upto_region 6 with (fail)
 have X := qH (show Bx (w10.alloc (.cells #[.slice v.aw v.nw v.kw, .slice v.ap v.np v.kp, .slice v.ac v.nc v.kc] 28)) w10.heap.size 28 (cfL v) from Bx.new w10 28 (cfL v))
 have hal : Below w10.heap.size w10 (w10.alloc (.cells #[.slice v.aw v.nw v.kw, .slice v.ap v.np v.kp, .slice v.ac v.nc v.kc] 28)) := (Below.refl _ _).alloc (Nat.le_refl _) _
 have HX : Hid (g < w10.heap.size) := M.out.mb.lt
 replace M := qH (M.out.below hal)
 replace C := qH (C.out.to hal)
 clear hal
 generalize w10.alloc (.cells #[.slice v.aw v.nw v.kw, .slice v.ap v.np v.kp, .slice v.ac v.nc v.kc] 28) = w11 at *
 generalize w10.heap.size = gx at *
 clear w10
 obtain ⟨p0, p1, p2⟩ := cf_cells X.out
 obtain ⟨-, -, q0, q1, q2⟩ := M.out.mb.cells
 have f0 := M.out.mb.fz 34
 have f1 := M.out.mb.fz 35
 have f2 := M.out.mb.fz 36
 go_upto_region 7 with (fail)
 change Code.wp _ _ _ _ (Proofs.YtlmdidblgeeplaaGreatDoor.setCf w11 g v)
 have HKC := qH (show Keep (· = g) w11 (Proofs.YtlmdidblgeeplaaGreatDoor.setCf w11 g v) from keep_setCf (R := (· = g)) (Keep.refl _ _) rfl v)
 replace C := qH (C.out.keptO HKC.out (fun k e => by have := HSZ.out; omega))
 replace M := qH (M.out.put HKC.out (M.out.mb.setCf v (cfOut x3)))
 clear HKC p0 p1 p2 q0 q1 q2 f0 f1 f2 X
 generalize Proofs.YtlmdidblgeeplaaGreatDoor.setCf w11 g v = w12 at *
 go_wp2_with fail
 refine (rdTag gr gb r4 w12 M.out.ref (fun b hb => by have := (M.out.gbt b hb).2; have := M.out.mb.lt; omega)).mono ?_
 rintro e w13 ⟨rfl, hr, hk⟩
 replace C := qH (C.out.keptO hk (fun k e => by have := HSZ.out; have := M.out.rg; omega))
 replace M := qH (M.out.read hk hr)
 have TL4 := qH (tagV_len r4)
 clear hr hk
 generalize tagV r4 = x4 at *
 generalize r4.next 32 = r5 at *
 have S2 := qH (tag_size TL4.out)
 have TH : Hid (w13.there g 37 (arrB x4).size) := M.out.mb.there (by rw [arrB_size, TL4.out]; decide)
 go_upto_region 8 with (refine wpList_store_mid rfl 23 _ _ rfl g 37 (arrB x4) rfl rfl TH.out S2.out (arrB_one _) ?_)
 have HKC := qH (show Keep (· = g) w13 (w13.setCells g 37 (arrB x4).toList) from keep_setCellsM (R := (· = g)) (Keep.refl _ _) g 37 (arrB x4).toList rfl)
 replace C := qH (C.out.keptO HKC.out (fun k e => by have := HSZ.out; omega))
 replace M := qH (M.out.put HKC.out (M.out.mb.setTag TL4.out))
 clear S2 TH HKC
 generalize w13.setCells g 37 (arrB x4).toList = w14 at *
 simp only at GV M
 generalize hgm : gotM bs = gm at *
 have HGM := qH hgm
 clear hgm
 rw [← GV.out] at M
 go_wp2_with fail
 refine (rdEnd gr gb r5 w14 M.out.ref).mono ?_
 rintro e w15 ⟨rfl, q, rfl⟩
 have hal : Below w14.heap.size w14 (w14.drewN q) := below_drewN (Below.refl _ _) q
 replace C := qH (C.out.to hal)
 replace M := qH (M.out.below hal)
 clear hal
 generalize w14.drewN q = w16 at *
 by_cases hE : endV r5 = 0
 rotate_left 1
 ·have HN : Hid (okM bs = false) := by (show _ = _); rw [HO.out, decide_eq_false hE]; rfl
  have hne : ((endV r5 : Int) != 0) = true := bne_iff_ne.2 (by omega)
  clear hE HO GV HGM
  generalize (endV r5 : Int) = ev at *
  have HF : Hid (mfOut bs = Mf.zero ∧ mfErr bs = 140) := mfOut_no HN.out
  have S0 := qH (mf_size MfT.zero nilV)
  go_wp2_with (refine wpList_store_row rfl 30 _ _ rfl w.heap.size (mfL Mf.zero nilV).toArray rfl rfl 30 (mfL Mf.zero nilV).toArray M.out.zb.row S0.out rfl (mf_one _ _) ?_)
  (try simp only [Exit.inBlock, Exit.then])
  refine bodyPost_ret (results_mfE rfl _ _ w.heap.size Mf.zero nilV (.int .i64 140) rfl rfl (M.out.zb.setRow MfT.zero nilV)) rfl ?_
  exact ⟨nilV, by rw [HF.out.1, HF.out.2], by rw [HF.out.1]; exact RdM.zero _ _, sp_nil _ _, below_setRow M.out.bel (Nat.le_refl _) _⟩
 rw [hE]
 rw [hE, show decide ((0 : Nat) = 0) = true from rfl, Bool.true_and] at HO
 clear hE
 by_cases hC : cfErr x3 = 0
 rotate_left 1
 ·have HN : Hid (okM bs = false) := by (show _ = _); rw [HO.out, decide_eq_false hC]; rfl
  have hne : (cfErr x3 != 0) = true := bne_iff_ne.2 hC
  clear hC HO GV HGM
  generalize cfErr x3 = ev at *
  have HF : Hid (mfOut bs = Mf.zero ∧ mfErr bs = 140) := mfOut_no HN.out
  have S0 := qH (mf_size MfT.zero nilV)
  go_wp2_with (refine wpList_store_row rfl 30 _ _ rfl w.heap.size (mfL Mf.zero nilV).toArray rfl rfl 30 (mfL Mf.zero nilV).toArray M.out.zb.row S0.out rfl (mf_one _ _) ?_)
  (try simp only [Exit.inBlock, Exit.then])
  refine bodyPost_ret (results_mfE rfl _ _ w.heap.size Mf.zero nilV (.int .i64 140) rfl rfl (M.out.zb.setRow MfT.zero nilV)) rfl ?_
  exact ⟨nilV, by rw [HF.out.1, HF.out.2], by rw [HF.out.1]; exact RdM.zero _ _, sp_nil _ _, below_setRow M.out.bel (Nat.le_refl _) _⟩
 have hcan := can_ok hC
 have D := qH (bd_can C.out.rd hcan)
 have hcf := (fun (c : Cf) (h : gm = ⟨x0, x1, x2, c, x4⟩) => (show gm.cf = c by rw [h])) _ GV.out
 have hrd := C.out.rd
 rw [← hcf] at hrd
 have RM := qH (RdM.mk (w := w16) (B := w16.heap.size) (v := v) (m := gm) M.out.mb.1 hrd)
 clear hcf hrd
 rw [hC, show decide ((0 : Int) = 0) = true from rfl, Bool.true_and] at HO
 rw [hC]
 clear hC hcan
 have S9 := qH (mf_size M.out.mb.1 v)
 go_wp2_with (refine wpList_load_rowGm (by rfl) 30 _ rfl g rfl 30 (mfL gm v).toArray (0, 0) _ M.out.mb.row Tryz.underlying30 rfl S9.out ?_)
 refine (rCanM v gm w16 RM.out D.out).mono ?_
 rintro e w17 ⟨rfl, hb⟩
 have RC := qH ((RM.out.to hb).cf)
 have SP := qH (C.out.sp.to hb)
 replace M := qH (M.out.below hb)
 clear hb RM
 rw [← HO.out]
 cases hk : okM bs
 ·have HN := qH hk
  clear hk
  have HF : Hid (mfOut bs = Mf.zero ∧ mfErr bs = 140) := mfOut_no HN.out
  have S0 := qH (mf_size MfT.zero nilV)
  go_wp2_with (refine wpList_store_row rfl 30 _ _ rfl w.heap.size (mfL Mf.zero nilV).toArray rfl rfl 30 (mfL Mf.zero nilV).toArray M.out.zb.row S0.out rfl (mf_one _ _) ?_)
  (try simp only [Exit.inBlock, Exit.then])
  refine bodyPost_ret (results_mfE rfl _ _ w.heap.size Mf.zero nilV (.int .i64 140) rfl rfl (M.out.zb.setRow MfT.zero nilV)) rfl ?_
  exact ⟨nilV, by rw [HF.out.1, HF.out.2], by rw [HF.out.1]; exact RdM.zero _ _, sp_nil _ _, below_setRow M.out.bel (Nat.le_refl _) _⟩
 ·have HY : Hid (mfOut bs = gm ∧ mfErr bs = 0) := by
   refine ⟨?_, (mfOut_yes hk).2⟩
   rw [(mfOut_yes hk).1]
   exact HGM.out
  clear hk
  have SZ : Hid ((mfL Mf.zero nilV).toArray.size = (mfL gm v).toArray.size) := by (show _ = _); rw [mfL_size MfT.zero, mfL_size M.out.mb.1]
  go_wp2_with (first | (refine wpList_load_row rfl 30 _ rfl g rfl 30 (mfL gm v).toArray (0, 0) _ M.out.mb.row Tryz.underlying30 rfl S9.out ?_) | (refine wpList_store_row rfl 30 _ _ rfl w.heap.size (mfL gm v).toArray rfl rfl 30 (mfL Mf.zero nilV).toArray M.out.zb.row S9.out SZ.out (mf_one _ _) ?_))
  (try simp only [Exit.inBlock, Exit.then])
  refine bodyPost_ret (results_mfE rfl _ _ w.heap.size gm v (.int .i64 0) rfl rfl (M.out.zb.setRow M.out.mb.1 v)) rfl ?_
  have hb : Keep (· = w.heap.size) w17 (w17.setRow w.heap.size (mfL gm v).toArray) := keep_setRow _ _
  have hlt : ∀ k, (· = w.heap.size) k → k < w9.heap.size := fun k e => by have := HSZ.out; have := M.out.zr; have := M.out.rg; omega
  have hz : w.heap.size ≤ w9.heap.size := by have := hlt _ rfl; omega
  refine ⟨v, by rw [HY.out.1, HY.out.2], by rw [HY.out.1]; exact ⟨M.out.mb.1, RC.out.keptO SP.out hb hlt⟩, (OwCf.mono (OwCf.keptO ⟨RC.out, SP.out⟩ hb hlt) hz).sp, below_setRow M.out.bel (Nat.le_refl _) _⟩
end
end Go.Proofs.YtlmdidblgeeplaaGreatDoor