/- Several texts in one (a claim has 60 files at most): MfC. -/
import Derived.Test.YtlmdidblgeeplaaGreatDoorTz
import Derived.Test.YtlmdidblgeeplaaGreatDoorPMfTy
import Derived.Test.YtlmdidblgeeplaaGreatDoorPCpSx
import Derived.Deep.DeepCutAuto
namespace Go.Proofs.YtlmdidblgeeplaaGreatDoor
set_option maxRecDepth 1000000
set_option maxHeartbeats 8000000
set_option linter.unusedVariables false
set_option linter.unusedSimpArgs false
section
open Go.RowKit
def stE (c : Bool) (x e : Int) : Int := if c = true then x else e
theorem stE_yes (x e : Int) : stE true x e = x := rfl
theorem stE_no (x e : Int) : stE false x e = e := rfl
theorem checkM_st {key : List UInt8} {run : Mf} {bs : List UInt8} {e0 e1 e2 e3 e4 : Int} (h0 : mfErr bs = e0) (h1 : stE (decide (e0 = 0) && !rightM key (mfOut bs)) 141 e0 = e1) (h2 : stE (decide (e1 = 0) && !decide ((mfOut bs).prev = hashM run)) 142 e1 = e2)
  (h3 : stE (decide (e2 = 0) && decide ((mfOut bs).ver ≤ run.ver)) 143 e2 = e3) (h4 : stE (decide (e3 = 0)) (checkV (mfOut bs).cf) e3 = e4) : checkM key run bs = stE (decide (e4 = 0) && !decide (checkC run.cf (mfOut bs).cf = 0)) 130 e4 ∧ (stE (decide (e4 = 0) && !decide (checkC run.cf (mfOut bs).cf = 0)) 130 e4 = 0 → takenM key run bs = mfOut bs) ∧ (stE (decide (e4 = 0) && !decide (checkC run.cf (mfOut bs).cf = 0)) 130 e4 ≠ 0 → takenM key run bs = Mf.zero) := by
 have key2 : checkM key run bs = stE (decide (e4 = 0) && !decide (checkC run.cf (mfOut bs).cf = 0)) 130 e4 := by
  unfold checkM
  cases hok : okM bs
  ·have a0 : e0 = 140 := h0.symm.trans (mfOut_no hok).2
   subst a0
   rw [show decide ((140 : Int) = 0) = false from rfl, Bool.false_and, stE_no] at h1
   subst h1
   rw [show decide ((140 : Int) = 0) = false from rfl, Bool.false_and, stE_no] at h2
   subst h2
   rw [show decide ((140 : Int) = 0) = false from rfl, Bool.false_and, stE_no] at h3
   subst h3
   rw [show decide ((140 : Int) = 0) = false from rfl, stE_no] at h4
   subst h4
   rw [show decide ((140 : Int) = 0) = false from rfl, Bool.false_and, stE_no, if_pos rfl]
  ·obtain ⟨m1, m2⟩ := mfOut_yes hok
   have a0 : e0 = 0 := h0.symm.trans m2
   subst a0
   rw [m1] at h1 h2 h3 h4 ⊢
   generalize gotM bs = m at *
   rw [if_neg (by decide)]
   rw [show decide ((0 : Int) = 0) = true from rfl, Bool.true_and] at h1
   cases hr : rightM key m
   ·rw [hr] at h1
    have a1 : e1 = 141 := h1.symm
    subst a1
    rw [show decide ((141 : Int) = 0) = false from rfl, Bool.false_and, stE_no] at h2
    subst h2
    rw [show decide ((141 : Int) = 0) = false from rfl, Bool.false_and, stE_no] at h3
    subst h3
    rw [show decide ((141 : Int) = 0) = false from rfl, stE_no] at h4
    subst h4
    rw [show decide ((141 : Int) = 0) = false from rfl, Bool.false_and, stE_no, if_pos rfl]
   ·rw [hr] at h1
    have a1 : e1 = 0 := h1.symm
    subst a1
    rw [if_neg (by decide)]
    rw [show decide ((0 : Int) = 0) = true from rfl, Bool.true_and] at h2
    by_cases hp : m.prev = hashM run
    ·rw [decide_eq_true hp] at h2
     have a2 : e2 = 0 := h2.symm
     subst a2
     rw [if_neg (not_not_intro hp)]
     rw [show decide ((0 : Int) = 0) = true from rfl, Bool.true_and] at h3
     by_cases hv : m.ver ≤ run.ver
     ·rw [decide_eq_true hv] at h3
      have a3 : e3 = 143 := h3.symm
      subst a3
      rw [show decide ((143 : Int) = 0) = false from rfl, stE_no] at h4
      subst h4
      rw [show decide ((143 : Int) = 0) = false from rfl, Bool.false_and, stE_no, if_pos hv]
     ·rw [decide_eq_false hv] at h3
      have a3 : e3 = 0 := h3.symm
      subst a3
      rw [show decide ((0 : Int) = 0) = true from rfl, stE_yes] at h4
      rw [if_neg hv]
      subst h4
      by_cases hcv : checkV m.cf = 0
      ·rw [if_neg (not_not_intro hcv), hcv, show decide ((0 : Int) = 0) = true from rfl, Bool.true_and]
       by_cases hcc : checkC run.cf m.cf = 0
       ·rw [if_neg (not_not_intro hcc), decide_eq_true hcc]; rfl
       ·rw [if_pos hcc, decide_eq_false hcc]; rfl
      ·rw [if_pos hcv, decide_eq_false hcv, Bool.false_and, stE_no]
    ·rw [decide_eq_false hp] at h2
     have a2 : e2 = 142 := h2.symm
     subst a2
     rw [show decide ((142 : Int) = 0) = false from rfl, Bool.false_and, stE_no] at h3
     subst h3
     rw [show decide ((142 : Int) = 0) = false from rfl, stE_no] at h4
     subst h4
     rw [show decide ((142 : Int) = 0) = false from rfl, Bool.false_and, stE_no, if_pos hp]
 refine ⟨key2, fun h => ?_, fun h => ?_⟩
 ·rw [← key2] at h
  unfold takenM
  rw [if_pos h]
  cases hok : okM bs
  ·unfold checkM at h
   rw [hok, if_pos rfl] at h
   cases h
  ·exact (mfOut_yes hok).1.symm
 ·rw [← key2] at h
  unfold takenM
  rw [if_neg h]
structure CkSt (w wx : World) (g : Nat) (A : Option Addr) (n : Nat) (kk : List UInt8) (vr v : CV) (run mo : Mf) : Prop where
 rb : MB wx w.heap.size run vr
 zb : MB wx (w.heap.size + 1) Mf.zero nilV
 mb : MB wx g mo v
 rr : RdM wx wx.heap.size vr run
 rm : RdM wx wx.heap.size v mo
 ka : Rd wx wx.heap.size A n kk
 sp : Sp wx (w.heap.size + 2) v
 bel : Below w.heap.size w wx
theorem CkSt.to {w wx wy : World} {g n : Nat} {A : Option Addr} {kk : List UInt8} {vr v : CV} {run mo : Mf} (h : CkSt w wx g A n kk vr v run mo) (hb : Below wx.heap.size wx wy) : CkSt w wy g A n kk vr v run mo :=
 ⟨h.rb.to hb, h.zb.to hb, h.mb.to hb, h.rr.to hb, h.rm.to hb, h.ka.to hb, h.sp.to hb, h.bel.trans (hb.mono h.bel.size)⟩
theorem rCheckM (A A' : Option Addr) (n c n' c' : Nat) (kk bs : List UInt8) (vr : CV) (run : Mf) (w : World) (ha : Rd w w.heap.size A n kk) (hn : n ≤ 1000000000) (h : RdM w w.heap.size vr run) (d : Bd vr) (hb : Rd w w.heap.size A' n' bs) (hn' : n' ≤ 140737488355328) :
  Calls Tryz.prog 25 #[.slice A n c, .agg (mfL run vr).toArray, .slice A' n' c'] w fun e w' => ∃ v : CV, e = .returned (.tuple #[.agg (mfL (takenM kk run bs) v).toArray, .int .i64 (checkM kk run bs)]) ∧ RdM w' w'.heap.size v (takenM kk run bs) ∧ Below w.heap.size w w' := by
 have hz := mf_zero
 have B1 := qH ((Below.refl w.heap.size w).alloc (Nat.le_refl _) (.cells (mfL run vr).toArray 30))
 have M := qH (MB.new w h.t vr)
 have R := qH (h.to B1.out)
 have KA := qH (ha.to B1.out)
 have KB := qH (hb.to B1.out)
 have HS : Hid ((w.alloc (.cells (mfL run vr).toArray 30)).heap.size = w.heap.size + 1) := by (show _ = _); simp
 have DR := qH d
 have HN := qH hn
 have HN' := qH hn'
 clear h d ha hn hb hn'
 go_enter Tryz.func25, Tryz.ntmps25
 go_upto_region 1 with (fail)
 generalize w.alloc (.cells (mfL run vr).toArray 30) = w1 at *
 have B2 : Hid (Below w1.heap.size w1 (w1.alloc (.cells (mfL Mf.zero nilV).toArray 30))) := (Below.refl _ _).alloc (Nat.le_refl _) _
 have Z := qH (MB.new w1 MfT.zero nilV)
 rw [HS.out] at Z
 replace M := qH (M.out.to B2.out)
 replace R := qH (R.out.to B2.out)
 replace KA := qH (KA.out.to B2.out)
 replace KB := qH (KB.out.to B2.out)
 have HS2 : Hid ((w1.alloc (.cells (mfL Mf.zero nilV).toArray 30)).heap.size = w.heap.size + 2) := by (show _ = _); simp [HS.out]
 replace B2 := qH (B1.out.trans (B2.out.mono B1.out.size))
 generalize w1.alloc (.cells (mfL Mf.zero nilV).toArray 30) = w2 at *
 clear B1 HS
 go_wp2_with fail
 refine (rParseM A' n' c' bs w2 KB.out HN'.out).mono ?_
 rintro e w3 ⟨v, rfl, hm, hsp, hb⟩
 have SP := qH (hsp.mono (B' := w.heap.size + 2) (Nat.le_of_eq HS2.out.symm))
 have RM := qH hm
 replace M := qH (M.out.to hb)
 replace Z := qH (Z.out.to hb)
 replace R := qH (R.out.to hb)
 replace KA := qH (KA.out.to hb)
 replace B2 := qH (B2.out.trans (hb.mono B2.out.size))
 have D0 : Hid (mfErr bs = 0 → Bd v) := fun h0 => by
  cases hok : okM bs
  ·rw [(mfOut_no hok).2] at h0; cases h0
  ·refine bd_can hm.cf ?_
   rw [(mfOut_yes hok).1]
   exact (canM_iff.1 (okM_got hok).2.1).2.2.2.2
 clear hm hb KB hsp
 obtain ⟨e0, he0⟩ : ∃ e, mfErr bs = e := ⟨_, rfl⟩
 rw [he0] at D0 ⊢
 have E0 := qH he0
 clear he0
 have S9 := qH (mf_size RM.out.t v)
 have S8 := qH (mf_size R.out.t vr)
 have SZ : Hid ((mfL Mf.zero nilV).toArray.size = (mfL (mfOut bs) v).toArray.size) := by (show _ = _); rw [mfL_size MfT.zero, mfL_size RM.out.t]
 obtain ⟨mo, hmo⟩ : ∃ m, mfOut bs = m := ⟨_, rfl⟩
 rw [hmo] at RM S9 SZ ⊢
 have HMO := qH hmo
 clear hmo
 go_upto_region 2 with (refine wpList_store_row rfl 30 _ _ rfl w3.heap.size (mfL mo v).toArray rfl rfl 30 (mfL Mf.zero nilV).toArray (heap_alloc_last w3 _) S9.out SZ.out (mf_one _ _) ?_; rw [World.setRow_alloc_new])
 have hal : Below w3.heap.size w3 (w3.alloc (.cells (mfL mo v).toArray 30)) := (Below.refl _ _).alloc (Nat.le_refl _) _
 have C : Hid (CkSt w (w3.alloc (.cells (mfL mo v).toArray 30)) w3.heap.size A n kk vr v run mo) :=
  ⟨M.out.to hal, Z.out.to hal, MB.new w3 RM.out.t v, R.out.to hal, RM.out.to hal, KA.out.to hal, SP.out.to hal, B2.out.trans (hal.mono B2.out.size)⟩
 clear hal M Z R RM KA B2 hz SP HS2
 generalize w3.alloc (.cells (mfL mo v).toArray 30) = wo at *
 generalize w3.heap.size = g at *
 clear w3 w1 w2
 obtain ⟨r1, hr1⟩ : ∃ r, rightM kk mo = r := ⟨_, rfl⟩
 have HR := qH hr1
 clear hr1
 go_cut [22] from 15 to 22 (fun s22 wx => s22 = .bool (decide (e0 = 0) && !r1) ∧ Below wo.heap.size wo wx)
 case first =>
  by_cases h0 : e0 = 0
  ·have D := qH (D0.out h0)
   subst h0
   go_wp2_with (refine wpList_load_rowGm (by rfl) 30 _ rfl g rfl 30 (mfL mo v).toArray (0, 0) _ C.out.mb.row Tryz.underlying30 rfl S9.out ?_)
   refine (rRightM A n c kk v mo wo C.out.ka HN.out C.out.rm D.out).mono ?_
   rintro e w4 ⟨rfl, hb⟩
   have B := qH hb
   rw [HR.out]
   clear hb
   go_wp2_with fail
   go_meet
   exact ⟨by simp, B.out⟩
  ·have hne : (e0 == 0) = false := by simpa using h0
   have HF : Hid (decide (e0 = 0) = false) := by (show _ = _); exact decide_eq_false h0
   clear h0
   go_wp2_with fail
   go_meet
   exact ⟨by rw [HF.out]; rfl, Below.refl _ _⟩
 case rest =>
 obtain ⟨rfl, hb⟩ := hcut
 replace C := qH (C.out.to hb)
 clear hb
 obtain ⟨wn, hwn⟩ : ∃ x, x = wc := ⟨_, rfl⟩
 subst hwn
 clear wo
 obtain ⟨wo, hwo⟩ : ∃ x, x = wn := ⟨_, rfl⟩
 subst hwo
 obtain ⟨b1, hb1⟩ : ∃ b, (decide (e0 = 0) && !r1) = b := ⟨_, rfl⟩
 rw [hb1]
 have E1 : Hid (stE (decide (e0 = 0) && !rightM kk mo) 141 e0 = stE b1 141 e0) := by (show _ = _); rw [HR.out, hb1]
 have D1 : Hid (stE b1 141 e0 = 0 → Bd v) := fun h => by
  cases b1
  ·exact D0.out h
  ·cases h
 clear hb1 HR r1
 go_upto_if 22 with (fail)
 go_cut [9] from 15 to 22 (fun s9 wx => s9 = .int .i64 (stE b1 141 e0) ∧ Below wo.heap.size wo wx)
 case first =>
  cases b1
  ·go_wp2_with fail
   go_meet
   exact ⟨rfl, Below.refl _ _⟩
  ·go_wp2_with fail
   go_meet
   exact ⟨rfl, Below.refl _ _⟩
 case rest =>
 obtain ⟨rfl, hb⟩ := hcut
 replace C := qH (C.out.to hb)
 clear hb
 obtain ⟨wn, hwn⟩ : ∃ x, x = wc := ⟨_, rfl⟩
 subst hwn
 clear wo
 obtain ⟨wo, hwo⟩ : ∃ x, x = wn := ⟨_, rfl⟩
 subst hwo
 obtain ⟨e1, he1⟩ : ∃ e, stE b1 141 e0 = e := ⟨_, rfl⟩
 rw [he1] at E1 D1 ⊢
 clear he1 D0
 clear b1
 go_upto_region 4 with (fail)
 go_cut [31] from 23 to 31 (fun s31 wx => s31 = .bool (decide (e1 = 0) && !decide (mo.prev = hashM run)) ∧ Below wo.heap.size wo wx)
 case first =>
  obtain ⟨wd, hwd⟩ : ∃ x, wo.drew = x := ⟨_, rfl⟩
  have BS : Hid (Below wo.heap.size wo wd) := by (show Below _ _ _); rw [← hwd]; exact (Below.refl _ _).drew
  refine wp_region_held_drew (S := (fun w' => Below wo.heap.size wo w')) (by kernel_rfl) ((Below.refl _ _).drew) (fun hHeld => ?_)
  rw [hwd] at hHeld ⊢
  clear hwd hHeld
  have hHeld := BS.out
  by_cases h0 : e1 = 0
  ·have D := qH (D1.out h0)
   subst h0
   have TP := qH C.out.rm.t.prev
   have HL : Hid ((hashM run).length = 32) := hashM_len run
   have LP := qH (tag_sizeL TP.out)
   have hu := Tryz.underlying23
   have hgd := tag_gd
   have heq : ∀ w', (Op.equalIn 10000 23 (.agg (mo.prev.map bval).toArray) (.agg (arrB (hashM run)))).run Tryz.prog w' = .ok (decide (mo.prev = hashM run)) w' := fun w' => tag_eql mo.prev (hashM run) TP.out HL.out w'
   refine tk 0 ?_
   simp only [pR]
   refine tk 1 ?_
   simp only [pR]
   refine tk 2 ?_
   simp only [pR]
   refine tk 3 ?_
   simp only [pR]
   refine tl 4 (.agg (List.toArray (mo.prev.map bval))) rfl (yieldsIf_load_mid (by rfl) 23 _ rfl g 1 rfl (mo.prev.map bval) _ ((fun w' h => (C.out.mb.to h).prev)) hu rfl LP.out) ?_
   simp only [pR]
   refine tl 5 (.agg (mfL run vr).toArray) rfl (yieldsIf_load_row (by rfl) 30 _ rfl w.heap.size rfl 30 (mfL run vr).toArray (0, 0) _ (fun w' h => (C.out.rb.to h).row) Tryz.underlying30 rfl S8.out) ?_
   simp only [pR]
   clear hHeld
   refine rd1 6 (fun K hK => ?_)
   go_simp
   refine (rHashM vr run wd (C.out.rr.to BS.out) DR.out).mono ?_
   rintro e w5 ⟨rfl, hb⟩
   replace BS := qH (BS.out.trans (hb.mono BS.out.size))
   clear hb
   go_wp2_with fail
   refine hK.out _ _ (BS.out) (fun hHeld => ?_)
   clear hK K
   refine tk 7 ?_
   simp only [pR]
   refine tk 8 ?_
   simp only [pR]
   refine wpAnyH_done (by kernel_rfl) ?_ _
   go_wp2_with fail
   go_meet
   exact ⟨by simp, BS.out⟩
  ·have hne : (e1 == 0) = false := by simpa using h0
   have HF : Hid (decide (e1 = 0) = false) := by (show _ = _); exact decide_eq_false h0
   clear h0
   refine tk 0 ?_
   simp only [pR]
   refine tk 1 ?_
   simp only [pR]
   refine tk 2 ?_
   simp only [pR]
   refine sk 3 ?_
   simp only [pR]
   refine sk 4 ?_
   simp only [pR]
   refine sk 5 ?_
   simp only [pR]
   refine sk 6 ?_
   simp only [pR]
   refine sk 7 ?_
   simp only [pR]
   refine tk 8 ?_
   simp only [pR]
   refine wpAnyH_done (by kernel_rfl) ?_ _
   go_wp2_with fail
   go_meet
   exact ⟨by rw [HF.out]; rfl, BS.out⟩
 case rest =>
 obtain ⟨rfl, hb⟩ := hcut
 replace C := qH (C.out.to hb)
 clear hb
 obtain ⟨wn, hwn⟩ : ∃ x, x = wc := ⟨_, rfl⟩
 subst hwn
 clear wo
 obtain ⟨wo, hwo⟩ : ∃ x, x = wn := ⟨_, rfl⟩
 subst hwo
 obtain ⟨b1, hb1⟩ : ∃ b, (decide (e1 = 0) && !decide (mo.prev = hashM run)) = b := ⟨_, rfl⟩
 rw [hb1]
 have E2 : Hid (stE (decide (e1 = 0) && !decide (mo.prev = hashM run)) 142 e1 = stE b1 142 e1) := by (show _ = _); rw [hb1]
 have D2 : Hid (stE b1 142 e1 = 0 → Bd v) := fun h => by
  cases b1
  ·exact D1.out h
  ·cases h
 clear hb1
 go_upto_if 31 with (fail)
 go_cut [9] from 23 to 31 (fun s9 wx => s9 = .int .i64 (stE b1 142 e1) ∧ Below wo.heap.size wo wx)
 case first =>
  cases b1
  ·go_wp2_with fail
   go_meet
   exact ⟨rfl, Below.refl _ _⟩
  ·go_wp2_with fail
   go_meet
   exact ⟨rfl, Below.refl _ _⟩
 case rest =>
 obtain ⟨rfl, hb⟩ := hcut
 replace C := qH (C.out.to hb)
 clear hb
 obtain ⟨wn, hwn⟩ : ∃ x, x = wc := ⟨_, rfl⟩
 subst hwn
 clear wo
 obtain ⟨wo, hwo⟩ : ∃ x, x = wn := ⟨_, rfl⟩
 subst hwo
 obtain ⟨e2, he2⟩ : ∃ e, stE b1 142 e1 = e := ⟨_, rfl⟩
 rw [he2] at E2 D2 ⊢
 clear he2 D1 b1
 go_upto_region 6 with (fail)
 go_cut [40] from 32 to 40 (fun s40 wx => s40 = .bool (decide (e2 = 0) && decide (mo.ver ≤ run.ver)) ∧ Below wo.heap.size wo wx)
 case first =>
  obtain ⟨x0, -⟩ := C.out.mb.cells
  obtain ⟨y0, -⟩ := C.out.rb.cells
  by_cases h0 : e2 = 0
  ·subst h0
   go_wp2_with fail
   go_meet
   exact ⟨by simp, Below.refl _ _⟩
  ·have hne : (e2 == 0) = false := by simpa using h0
   have HF : Hid (decide (e2 = 0) = false) := by (show _ = _); exact decide_eq_false h0
   clear h0
   go_wp2_with fail
   go_meet
   exact ⟨by rw [HF.out]; rfl, Below.refl _ _⟩
 case rest =>
 obtain ⟨rfl, hb⟩ := hcut
 replace C := qH (C.out.to hb)
 clear hb
 obtain ⟨wn, hwn⟩ : ∃ x, x = wc := ⟨_, rfl⟩
 subst hwn
 clear wo
 obtain ⟨wo, hwo⟩ : ∃ x, x = wn := ⟨_, rfl⟩
 subst hwo
 obtain ⟨b1, hb1⟩ : ∃ b, (decide (e2 = 0) && decide (mo.ver ≤ run.ver)) = b := ⟨_, rfl⟩
 rw [hb1]
 have E3 : Hid (stE (decide (e2 = 0) && decide (mo.ver ≤ run.ver)) 143 e2 = stE b1 143 e2) := by (show _ = _); rw [hb1]
 have D3 : Hid (stE b1 143 e2 = 0 → Bd v) := fun h => by
  cases b1
  ·exact D2.out h
  ·cases h
 clear hb1
 go_upto_if 40 with (fail)
 go_cut [9] from 32 to 40 (fun s9 wx => s9 = .int .i64 (stE b1 143 e2) ∧ Below wo.heap.size wo wx)
 case first =>
  cases b1
  ·go_wp2_with fail
   go_meet
   exact ⟨rfl, Below.refl _ _⟩
  ·go_wp2_with fail
   go_meet
   exact ⟨rfl, Below.refl _ _⟩
 case rest =>
 obtain ⟨rfl, hb⟩ := hcut
 replace C := qH (C.out.to hb)
 clear hb
 obtain ⟨wn, hwn⟩ : ∃ x, x = wc := ⟨_, rfl⟩
 subst hwn
 clear wo
 obtain ⟨wo, hwo⟩ : ∃ x, x = wn := ⟨_, rfl⟩
 subst hwo
 obtain ⟨e3, he3⟩ : ∃ e, stE b1 143 e2 = e := ⟨_, rfl⟩
 rw [he3] at E3 D3 ⊢
 clear he3 D2 b1
 go_upto_region 8 with (fail)
 go_cut [42] from 41 to 42 (fun s42 wx => s42 = .bool (decide (e3 = 0)) ∧ Below wo.heap.size wo wx)
 case first =>
  by_cases h0 : e3 = 0
  ·subst h0
   go_wp2_with fail
   go_meet
   exact ⟨by simp, Below.refl _ _⟩
  ·have hne : (e3 == 0) = false := by simpa using h0
   have HF : Hid (decide (e3 = 0) = false) := by (show _ = _); exact decide_eq_false h0
   clear h0
   go_wp2_with fail
   go_meet
   exact ⟨by rw [HF.out], Below.refl _ _⟩
 case rest =>
 obtain ⟨rfl, hb⟩ := hcut
 replace C := qH (C.out.to hb)
 clear hb
 obtain ⟨wn, hwn⟩ : ∃ x, x = wc := ⟨_, rfl⟩
 subst hwn
 clear wo
 obtain ⟨wo, hwo⟩ : ∃ x, x = wn := ⟨_, rfl⟩
 subst hwo
 obtain ⟨b1, hb1⟩ : ∃ b, decide (e3 = 0) = b := ⟨_, rfl⟩
 rw [hb1]
 have E4 : Hid (stE (decide (e3 = 0)) (checkV mo.cf) e3 = stE b1 (checkV mo.cf) e3) := by (show _ = _); rw [hb1]
 have D4 : Hid (b1 = true → Bd v) := fun h => D3.out (of_decide_eq_true (hb1.trans h))
 have D5 : Hid (stE b1 (checkV mo.cf) e3 = 0 → Bd v) := fun h => by
  cases b1
  ·exact D3.out h
  ·exact D4.out rfl
 clear hb1
 go_upto_if 42 with (fail)
 go_cut [9] from 41 to 45 (fun s9 wx => s9 = .int .i64 (stE b1 (checkV mo.cf) e3) ∧ Below wo.heap.size wo wx)
 case first =>
  cases b1
  ·go_wp2_with fail
   go_meet
   exact ⟨rfl, Below.refl _ _⟩
  ·have D := qH (D4.out rfl)
   obtain ⟨-, -, x2, x3, x4⟩ := C.out.mb.cells
   go_wp2_with fail
   refine (rCheckV v mo.cf wo C.out.rm.cf D.out.1 D.out.2.1 D.out.2.2).mono ?_
   rintro e w4 ⟨rfl, hb⟩
   have B := qH hb
   clear hb x2 x3 x4
   go_wp2_with fail
   go_meet
   exact ⟨rfl, B.out⟩
 case rest =>
 obtain ⟨rfl, hb⟩ := hcut
 replace C := qH (C.out.to hb)
 clear hb
 obtain ⟨wn, hwn⟩ : ∃ x, x = wc := ⟨_, rfl⟩
 subst hwn
 clear wo
 obtain ⟨wo, hwo⟩ : ∃ x, x = wn := ⟨_, rfl⟩
 subst hwo
 obtain ⟨e4, he4⟩ : ∃ e, stE b1 (checkV mo.cf) e3 = e := ⟨_, rfl⟩
 rw [he4] at E4 D5 ⊢
 clear he4 D3 D4 b1
 go_upto_region 10 with (fail)
 go_cut [55] from 46 to 55 (fun s55 wx => s55 = .bool (decide (e4 = 0) && !decide (checkC run.cf mo.cf = 0)) ∧ Below wo.heap.size wo wx)
 case first =>
  by_cases h0 : e4 = 0
  ·have D := qH (D5.out h0)
   subst h0
   obtain ⟨-, -, x2, x3, x4⟩ := C.out.mb.cells
   obtain ⟨-, -, y2, y3, y4⟩ := C.out.rb.cells
   go_wp2_with fail
   refine (rCheckC vr v run.cf mo.cf wo C.out.rr.cf C.out.rm.cf DR.out D.out).mono ?_
   rintro e w4 ⟨rfl, hb⟩
   have B := qH hb
   obtain ⟨cc, hcc⟩ : ∃ x, checkC run.cf mo.cf = x := ⟨_, rfl⟩
   rw [hcc]
   have HCC := qH hcc
   clear hb x2 x3 x4 y2 y3 y4 hcc
   go_wp2_with fail
   go_meet
   refine ⟨?_, B.out⟩
   rw [HCC.out]
   by_cases hz : cc = 0
   ·subst hz; simp
   ·rw [decide_eq_false hz, show (cc != 0) = true from bne_iff_ne.2 hz]; simp
  ·have hne : (e4 == 0) = false := by simpa using h0
   have HF : Hid (decide (e4 = 0) = false) := by (show _ = _); exact decide_eq_false h0
   clear h0
   go_wp2_with fail
   go_meet
   exact ⟨by rw [HF.out]; rfl, Below.refl _ _⟩
 case rest =>
 obtain ⟨rfl, hb⟩ := hcut
 replace C := qH (C.out.to hb)
 clear hb
 obtain ⟨wn, hwn⟩ : ∃ x, x = wc := ⟨_, rfl⟩
 subst hwn
 clear wo
 obtain ⟨wo, hwo⟩ : ∃ x, x = wn := ⟨_, rfl⟩
 subst hwo
 obtain ⟨b1, hb1⟩ : ∃ b, (decide (e4 = 0) && !decide (checkC run.cf mo.cf = 0)) = b := ⟨_, rfl⟩
 rw [hb1]
 have E5 : Hid (stE (decide (e4 = 0) && !decide (checkC run.cf mo.cf = 0)) 130 e4 = stE b1 130 e4) := by (show _ = _); rw [hb1]
 clear hb1
 go_upto_if 55 with (fail)
 go_cut [9] from 46 to 55 (fun s9 wx => s9 = .int .i64 (stE b1 130 e4) ∧ Below wo.heap.size wo wx)
 case first =>
  cases b1
  ·go_wp2_with fail
   go_meet
   exact ⟨rfl, Below.refl _ _⟩
  ·go_wp2_with fail
   go_meet
   exact ⟨rfl, Below.refl _ _⟩
 case rest =>
 obtain ⟨rfl, hb⟩ := hcut
 replace C := qH (C.out.to hb)
 clear hb
 obtain ⟨wn, hwn⟩ : ∃ x, x = wc := ⟨_, rfl⟩
 subst hwn
 clear wo
 obtain ⟨wo, hwo⟩ : ∃ x, x = wn := ⟨_, rfl⟩
 subst hwo
 obtain ⟨e5, he5⟩ : ∃ e, stE b1 130 e4 = e := ⟨_, rfl⟩
 rw [he5] at E5 ⊢
 clear he5 D5 b1
 obtain ⟨K1, K2, K3⟩ := checkM_st (key := kk) (run := run) (bs := bs) (e0 := e0) (e1 := e1) (e2 := e2) (e3 := e3) (e4 := e4) E0.out (by rw [HMO.out]; exact E1.out) (by rw [HMO.out]; exact E2.out) (by rw [HMO.out]; exact E3.out) (by rw [HMO.out]; exact E4.out)
 rw [HMO.out, E5.out] at K1 K2 K3
 have HK1 := qH K1
 have HK2 := qH K2
 have HK3 := qH K3
 have S0 := qH (mf_size MfT.zero nilV)
 clear K1 K2 K3 E0 E1 E2 E3 E4 E5 HMO
 go_upto_region 12 with (fail)
 by_cases h0 : e5 = 0
 ·have HT := qH (HK2.out h0)
  subst h0
  go_wp2_with (first | (refine wpList_load_row rfl 30 _ rfl g rfl 30 (mfL mo v).toArray (0, 0) _ C.out.mb.row Tryz.underlying30 rfl S9.out ?_) | (refine wpList_store_row rfl 30 _ _ rfl (w.heap.size + 1) (mfL mo v).toArray rfl rfl 30 (mfL Mf.zero nilV).toArray C.out.zb.row S9.out SZ.out (mf_one _ _) ?_))
  (try simp only [Exit.inBlock, Exit.then])
  refine bodyPost_ret (results_mfE rfl _ _ (w.heap.size + 1) mo v (.int .i64 0) rfl rfl (C.out.zb.setRow C.out.mb.1 v)) rfl ?_
  refine ⟨v, by rw [HK1.out, HT.out], ?_, below_setRow C.out.bel (by omega) _⟩
  rw [HT.out]
  exact ⟨C.out.mb.1, C.out.rm.cf.keptO C.out.sp (keep_setRow (w.heap.size + 1) (mfL mo v).toArray) (fun k e => by omega)⟩
 ·have HT := qH (HK3.out h0)
  have hne : (e5 != 0) = true := bne_iff_ne.2 h0
  clear h0
  go_wp2_with (refine wpList_store_row rfl 30 _ _ rfl (w.heap.size + 1) (mfL Mf.zero nilV).toArray rfl rfl 30 (mfL Mf.zero nilV).toArray C.out.zb.row S0.out rfl (mf_one _ _) ?_)
  (try simp only [Exit.inBlock, Exit.then])
  refine bodyPost_ret (results_mfE rfl _ _ (w.heap.size + 1) Mf.zero nilV (.int .i64 e5) rfl rfl (C.out.zb.setRow MfT.zero nilV)) rfl ?_
  exact ⟨nilV, by rw [HK1.out, HT.out], by rw [HT.out]; exact RdM.zero _ _, below_setRow C.out.bel (by omega) _⟩
end
end Go.Proofs.YtlmdidblgeeplaaGreatDoor