/- For any configuration the law ValidParts of citadellaw12 returns true: what may be is right in all its parts, each by its own chapter (valid.Fits; schedule.May, channel.All, config.Can, Part, region.All). -/
import Derived.Test.YtnaegbnijbdgbaaRows
import Derived.Test.YtnaegbnijbdgbaaVaXq
import Derived.Test.YtnaegbnijbdgbaaVaNq
import Derived.Test.YtnaegbnijbdgbaaCfLq
import Derived.Test.YtnaegbnijbdgbaaCfBq
import Derived.Test.YtnaegbnijbdgbaaCfS
import Derived.Deep.DeepCutAuto
import Derived.SizedLaws
import Derived.WalkKit
import Derived.ProofKit
import Derived.OpenShut
import Derived.ShutString
import Derived.ChangeOld
import Derived.Below
namespace Go.Proofs.Ytnaegbnijbdgbaa.validParts
open Go.ChangeShapes Go.WideShapes Go.ChangeAt Go.RowKit
open Go.ChangeMaps (open_string shut_string)
set_option linter.unusedVariables false
set_option linter.unusedSimpArgs false

theorem own : ownKnob Try.prog.godebug = none := by kernel_rfl
theorem laidOut : laidOutB Try.prog = true := by kernel_rfl

theorem vtG : VT Try.prog 40 42 2 16 (.agg #[.int .i64 0, .int .i64 0]) := ⟨Try.underlying40, by kernel_rfl, rfl, by decide⟩
/-- A partition that was looked up, in a box. -/
def PtB (c : Cf) (id : Int) (w : World) (s t : Value) (wx : World) : Prop :=
  ∃ (g m k : Nat) (A : Option Addr), s = .pointer (some ⟨g, 0, none⟩) ∧ t = .bool (hasP c id) ∧ Bx wx g 45 [.int .i64 (partV c id).id, .int .i64 (partV c id).base, .int .i64 (partV c id).size, .bool (partV c id).keep, .slice A m k] ∧ m = (partV c id).img.length ∧ Below w.heap.size w wx
theorem partV_at {c : Cf} (h : Val c) {i : Nat} (hi : i < c.ps.length) : partV c (ptAt c.ps i).id = ptAt c.ps i := by
  unfold partV
  rw [h.find hi, if_pos (by omega), Int.toNat_natCast]
theorem hasP_at {c : Cf} (h : Val c) {i : Nat} (hi : i < c.ps.length) : hasP c (ptAt c.ps i).id = true := by
  unfold hasP
  rw [h.find hi]
  exact decide_eq_true (by omega)
theorem regs_take {c : Cf} {i : Nat} (hi : i < c.ps.length) : (regsP c).take (i + 1) = (regsP c).take i ++ [regP (ptAt c.ps i)] := by
  have hl : i < (regsP c).length := by simpa [regsP] using hi
  rw [List.take_succ_eq_append_getElem hl, ptAt_lt hi]
  simp [regsP]
set_option maxRecDepth 1000000 in
set_option maxHeartbeats 4000000 in
theorem walk (x0 : CV) (c0 : Cf) (w : World) (w0 : RdCf w w.heap.size x0 c0 ∧ x0.kw ≤ 9223372036854775807 ∧ x0.kp ≤ 9223372036854775807 ∧ x0.kc ≤ 9223372036854775807 ∧ CfWf c0) :
    Calls Try.prog 4 #[.agg #[.slice x0.aw x0.nw x0.kw, .slice x0.ap x0.np x0.kp, .slice x0.ac x0.nc x0.kc]] w fun e w' => e = .returned (.bool true) ∧ Below w.heap.size w w' := by
  obtain ⟨r0, -, -, -, -⟩ := w0
  obtain ⟨wa, hwa, hb1, hx, hr⟩ := one_box w r0
  have HWA := Lib.hid hwa
  have B := Lib.hid hb1
  have X := Lib.hid hx
  have R := Lib.hid hr
  clear r0 hwa hb1 hx hr
  go_enter Try.func4, Try.ntmps4
  go_upto_region 1 with (fail)
  rw [HWA.out]
  clear HWA
  have p1 := X.out.at (j := 0) rfl
  have p2 := X.out.at (j := 1) rfl
  have p3 := X.out.at (j := 2) rfl
  go_wp2_with fail
  refine (lGreat x0 c0 wa R.out).mono ?_
  rintro e wb ⟨rfl, hb⟩
  replace X := Lib.hid (X.out.to hb)
  replace R := Lib.hid (R.out.to hb)
  replace B := Lib.hid (B.out.trans (hb.mono B.out.size))
  clear hb p1 p2 p3
  cases hg : greatC c0
  rotate_left 1
  · skip
    go_wp2_with fail
    refine (lAwakeV _).mono ?_
    rintro e wz ⟨rfl, hb⟩
    have BZ := Lib.hid (B.out.trans (hb.mono B.out.size))
    clear hb
    go_wp2_with fail
    go_ret
    exact ⟨rfl, BZ.out⟩
  obtain ⟨hnw, hnp, hnc, -⟩ := bounds_of R.out hg
  have HNW := Lib.hid hnw
  have HNP := Lib.hid hnp
  have HNC := Lib.hid hnc
  clear hg hnw hnp hnc
  have p1 := X.out.at (j := 0) rfl
  have p2 := X.out.at (j := 1) rfl
  have p3 := X.out.at (j := 2) rfl
  go_wp2_with fail
  refine (wFitsV x0 c0 wb R.out HNW.out HNP.out HNC.out).mono ?_
  rintro e wc ⟨rfl, hb⟩
  replace X := Lib.hid (X.out.to hb)
  replace R := Lib.hid (R.out.to hb)
  replace B := Lib.hid (B.out.trans (hb.mono B.out.size))
  clear hb p1 p2 p3
  cases hf : fitsV c0
  · skip
    go_wp2_with fail
    refine (lAwakeV _).mono ?_
    rintro e wz ⟨rfl, hb⟩
    have BZ := Lib.hid (B.out.trans (hb.mono B.out.size))
    clear hb
    go_wp2_with fail
    go_ret
    exact ⟨rfl, BZ.out⟩
  have VA := Lib.hid (val_of hf)
  have HMW := Lib.hid VA.out.mayw
  have HCE := Lib.hid VA.out.ce
  have HCC := Lib.hid VA.out.can
  clear hf
  have p1 := X.out.at (j := 0) rfl
  have p2 := X.out.at (j := 1) rfl
  have p3 := X.out.at (j := 2) rfl
  go_wp2_with fail
  refine (Sch.may x0.aw x0.nw x0.kw c0.ws wc R.out.ww (by have := HNW.out; omega)).mono ?_
  rw [HMW.out]
  rintro e wd ⟨rfl, hb⟩
  replace X := Lib.hid (X.out.to hb)
  replace R := Lib.hid (R.out.to hb)
  replace B := Lib.hid (B.out.trans (hb.mono B.out.size))
  clear hb p1 p2 p3
  have p1 := X.out.at (j := 0) rfl
  have p2 := X.out.at (j := 1) rfl
  have p3 := X.out.at (j := 2) rfl
  go_wp2_with fail
  refine (wAll x0.ac x0.nc x0.kc c0.cs wd R.out.cc HNC.out).mono ?_
  rw [HCE.out]
  rintro e we ⟨rfl, hb⟩
  replace X := Lib.hid (X.out.to hb)
  replace R := Lib.hid (R.out.to hb)
  replace B := Lib.hid (B.out.trans (hb.mono B.out.size))
  clear hb p1 p2 p3
  have p1 := X.out.at (j := 0) rfl
  have p2 := X.out.at (j := 1) rfl
  have p3 := X.out.at (j := 2) rfl
  go_wp2_with fail
  refine (pCanOf x0 c0 we R.out HNP.out).mono ?_
  rw [HCC.out]
  rintro e wB ⟨rfl, hb⟩
  replace X := Lib.hid (X.out.to hb)
  replace R := Lib.hid (R.out.to hb)
  replace B := Lib.hid (B.out.trans (hb.mono B.out.size))
  clear hb p1 p2 p3
  have HN0 : Hid (0 < x0.np) := by (show _ < _); rw [← R.out.pp.1]; exact VA.out.pos
  have hn0 : ((x0.np : Int) == 0) = false := by rw [beq_eq_false_iff_ne]; have := HN0.out; omega
  have p2 := X.out.at (j := 1) rfl
  go_wp2_with fail
  clear p2 hn0
  go_loopw [3, 4, 5, 6] (fun s3 s4 s5 s6 wr => ∃ k : Nat, k ≤ x0.np ∧ s4 = .int .i64 (k : Int) ∧ wr.ownsRow wB.heap.size 42 2 s3 k (winsV ((regsP c0).take k)) ∧ Below wB.heap.size wB wr) (fun _ s4 _ _ _ => x0.np - (intOf s4).toNat)
  case atStart => exact ⟨0, Nat.zero_le _, rfl, World.ownsRow_nil _ _ _ _, Below.refl _ _⟩
  case round =>
    obtain ⟨k, hk, rfl, ho, hbel⟩ := hrel
    obtain ⟨A3, k3, rfl⟩ := own_slV ho
    have O3 := Lib.hid ho
    have BD := Lib.hid hbel
    have HK := Lib.hid hk
    clear ho hbel hk
    have p2 := (X.out.to BD.out).at (j := 1) rfl
    by_cases hlt : k < x0.np
    · have hltI : (k : Int) < (x0.np : Int) := by omega
      have HLT := Lib.hid hlt
      have hwk : IntKind.i64.wrap ((k : Int) + 1) = (k : Int) + 1 := by have := HNP.out; rw [IntKind.wrap_i64]; omega
      obtain ⟨bb, o, A', m, c', hA, y0, y1, y2, y3, y4, hrd, hmc, hcc, hm7⟩ := R.out.pp.at_ hlt
      have HBB : Hid (bb < wB.heap.size) := cell_block y0
      have HA := Lib.hid hA
      have HCK := Lib.hid y0
      have HC1 := Lib.hid y1
      have HC2 := Lib.hid y2
      have HL : Hid (k < c0.ps.length) := by (show _ < _); rw [R.out.pp.1]; exact hlt
      clear hA y0 y1 y2 y3 y4 hrd hmc hcc hm7 hlt
      obtain ⟨id, hid⟩ : ∃ x, (ptAt c0.ps k).id = x := ⟨_, rfl⟩
      have HPV : Hid (partV c0 id = ptAt c0.ps k) := by (show _ = _); rw [← hid]; exact partV_at VA.out HL.out
      have HHP : Hid (hasP c0 id = true) := by (show _ = _); rw [← hid]; exact hasP_at VA.out HL.out
      rw [hid] at HCK
      have HID := Lib.hid hid
      clear hid
      go_upto_region 9 with (fail)
      go_cut [5, 6] from 44 to 98 (fun s t wx => PtB c0 id wr s t wx)
      case first =>
        obtain ⟨wd, hwd⟩ : ∃ wd, wr.drew = wd := ⟨_, rfl⟩
        have BR : Hid (Below wr.heap.size wr wd) := by (show Below _ _ _); rw [← hwd]; exact (Below.refl _ wr).drew
        refine wp_region_held_drew (S := (fun w' => Below wB.heap.size wB w')) (by kernel_rfl) (BD.out.drew) (fun hHeld => ?_)
        rw [hwd] at hHeld ⊢
        clear hwd
        have BS := Lib.hid hHeld
        refine wpAnyH_take (i := 0) (v := ?_) rfl (by kernel_rfl) (by kernel_rfl) (by kernel_rfl) (fun _ _ _ h => h) (Or.inl ⟨by rfl, ?_⟩) (by assumption) ?_
        rotate_left 1
        · intro w hSw; (try dsimp only at hSw); have t1 := (X.out.to hSw).at (j := 0) rfl; have t2 := (X.out.to hSw).at (j := 1) rfl; have t3 := (X.out.to hSw).at (j := 2) rfl; go_simp; (try with_reducible rfl)
        simp only [Act.put, List.getElem_toArray, List.getElem_cons_zero, List.getElem_cons_succ, List.setIfInBounds_toArray, List.set_cons_zero, List.set_cons_succ]
        refine wpAnyH_take (i := 1) (v := ?_) rfl (by kernel_rfl) (by kernel_rfl) (by kernel_rfl) (fun _ _ _ h => h) (Or.inl ⟨by rfl, ?_⟩) (by assumption) ?_
        rotate_left 1
        · intro w hSw; (try dsimp only at hSw); go_simp; (try with_reducible rfl)
        simp only [Act.put, List.getElem_toArray, List.getElem_cons_zero, List.getElem_cons_succ, List.setIfInBounds_toArray, List.set_cons_zero, List.set_cons_succ]
        refine wpAnyH_take (i := 2) (v := ?_) rfl (by kernel_rfl) (by kernel_rfl) (by kernel_rfl) (fun _ _ _ h => h) (Or.inl ⟨by rfl, ?_⟩) (by assumption) ?_
        rotate_left 1
        · intro w hSw; (try dsimp only at hSw); have t1 := (X.out.to hSw).at (j := 1) rfl; rw [HA.out] at t1; go_simp; (try with_reducible rfl)
        simp only [Act.put, List.getElem_toArray, List.getElem_cons_zero, List.getElem_cons_succ, List.setIfInBounds_toArray, List.set_cons_zero, List.set_cons_succ]
        refine wpAnyH_take (i := 3) (v := ?_) rfl (by kernel_rfl) (by kernel_rfl) (by kernel_rfl) (fun _ _ _ h => h) (Or.inl ⟨by rfl, ?_⟩) (by assumption) ?_
        rotate_left 1
        · intro w hSw; (try dsimp only at hSw); go_simp; (try with_reducible rfl)
        simp only [Act.put, List.getElem_toArray, List.getElem_cons_zero, List.getElem_cons_succ, List.setIfInBounds_toArray, List.set_cons_zero, List.set_cons_succ]
        refine wpAnyH_take (i := 4) (v := ?_) rfl (by kernel_rfl) (by kernel_rfl) (by kernel_rfl) (fun _ _ _ h => h) (Or.inl ⟨by rfl, ?_⟩) (by assumption) ?_
        rotate_left 1
        · intro w hSw; (try dsimp only at hSw); go_simp; (try with_reducible rfl)
        simp only [Act.put, List.getElem_toArray, List.getElem_cons_zero, List.getElem_cons_succ, List.setIfInBounds_toArray, List.set_cons_zero, List.set_cons_succ]
        refine wpAnyH_take (i := 5) (v := ?_) rfl (by kernel_rfl) (by kernel_rfl) (by kernel_rfl) (fun _ _ _ h => h) (Or.inl ⟨by rfl, ?_⟩) (by assumption) ?_
        rotate_left 1
        · intro w hSw; (try dsimp only at hSw); go_simp; (try with_reducible rfl)
        simp only [Act.put, List.getElem_toArray, List.getElem_cons_zero, List.getElem_cons_succ, List.setIfInBounds_toArray, List.set_cons_zero, List.set_cons_succ]
        refine wpAnyH_take (i := 6) (v := ?_) rfl (by kernel_rfl) (by kernel_rfl) (by kernel_rfl) (fun _ _ _ h => h) (Or.inl ⟨by rfl, ?_⟩) (by assumption) ?_
        rotate_left 1
        · intro w hSw; (try dsimp only at hSw); have t1 := (hSw.cell (p := ⟨bb, o + k * 5, none⟩) HBB.out).trans HCK.out; go_simp; (try with_reducible rfl)
        simp only [Act.put, List.getElem_toArray, List.getElem_cons_zero, List.getElem_cons_succ, List.setIfInBounds_toArray, List.set_cons_zero, List.set_cons_succ]
        refine wpAnyH_ready (rs := [7, 11]) (by kernel_rfl) (by simp) ?_
        refine AllReadyH.cons rfl (fun K hK => ?_) (AllReadyH.cons rfl (fun K hK => ?_) AllReadyH.nil)
        · skip
          go_simp
          refine (wPart x0 c0 id wd (R.out.to BS.out) HNP.out).mono ?_
          rintro e we ⟨A8, m8, k8, rfl, ho, hm1, hm2, hb⟩
          dsimp only
          have HM8 : Hid (m8 = (partV c0 id).img.length) := ho.1.1.symm
          replace BR := Lib.hid (BR.out.trans (hb.mono BR.out.size))
          replace BS := Lib.hid (BS.out.trans (hb.mono BS.out.size))
          clear ho hm1 hm2 hb hHeld
          go_wp2_with fail
          refine hK.out _ _ (BS.out) (fun hHeld => ?_)
          clear hK K
          refine wpAnyH_take (i := 8) (v := ?_) rfl (by kernel_rfl) (by kernel_rfl) (by kernel_rfl) (fun _ _ _ h => h) (Or.inl ⟨by rfl, ?_⟩) (by assumption) ?_
          rotate_left 1
          · intro w hSw; (try dsimp only at hSw); go_simp; (try with_reducible rfl)
          simp only [Act.put, List.getElem_toArray, List.getElem_cons_zero, List.getElem_cons_succ, List.setIfInBounds_toArray, List.set_cons_zero, List.set_cons_succ]
          refine wpAnyH_take (i := 9) (v := ?_) rfl (by kernel_rfl) (by kernel_rfl) (by kernel_rfl) (fun _ _ _ h => h) (Or.inl ⟨by rfl, ?_⟩) (by assumption) ?_
          rotate_left 1
          · intro w hSw; (try dsimp only at hSw); go_simp; (try with_reducible rfl)
          simp only [Act.put, List.getElem_toArray, List.getElem_cons_zero, List.getElem_cons_succ, List.setIfInBounds_toArray, List.set_cons_zero, List.set_cons_succ]
          refine wpAnyH_take (i := 10) (v := ?_) rfl (by kernel_rfl) (by kernel_rfl) (by kernel_rfl) (fun _ _ _ h => h) (Or.inl ⟨by rfl, ?_⟩) (by assumption) ?_
          rotate_left 1
          · intro w hSw; (try dsimp only at hSw); go_simp; (try with_reducible rfl)
          simp only [Act.put, List.getElem_toArray, List.getElem_cons_zero, List.getElem_cons_succ, List.setIfInBounds_toArray, List.set_cons_zero, List.set_cons_succ]
          refine wpAnyH_ready (rs := [11]) (by kernel_rfl) (by simp) ?_
          refine AllReadyH.cons rfl (fun K hK => ?_) AllReadyH.nil
          go_simp
          refine hK.out _ _ ((BS.out.alloc BS.out.size (.cells #[.int .i64 0, .int .i64 0, .int .i64 0, .bool false, .slice none 0 0] 45))) (fun hHeld => ?_)
          clear hK K
          have hal := (Below.refl we.heap.size we).alloc (Nat.le_refl _) (.cells #[.int .i64 0, .int .i64 0, .int .i64 0, .bool false, .slice none 0 0] 45)
          have ZB := Lib.hid (Bx.new we 45 [.int .i64 0, .int .i64 0, .int .i64 0, .bool false, .slice none 0 0])
          have hs1 := BR.out.size
          have hs2 := BS.out.size
          replace BR := Lib.hid (BR.out.trans (hal.mono BR.out.size))
          replace BS := Lib.hid (BS.out.trans (hal.mono BS.out.size))
          clear hal
          generalize hgg : we.heap.size = gg at *
          have HGG := Lib.hid hs2
          have HGR := Lib.hid hs1
          replace hgg := Lib.hid hgg
          clear hs1 hs2
          generalize we.alloc (.cells #[.int .i64 0, .int .i64 0, .int .i64 0, .bool false, .slice none 0 0] 45) = wf at *
          have a0 := ZB.out.at (j := 0) rfl
          have a1 := ZB.out.at (j := 1) rfl
          have a2 := ZB.out.at (j := 2) rfl
          have a3 := ZB.out.at (j := 3) rfl
          have a4 := ZB.out.at (j := 4) rfl
          have f0 := ZB.out.fz 0
          have f1 := ZB.out.fz 1
          have f2 := ZB.out.fz 2
          have f3 := ZB.out.fz 3
          have f4 := ZB.out.fz 4
          refine wpAnyH_ready (rs := [12]) (by kernel_rfl) (by simp) ?_
          refine AllReadyH.cons rfl (fun K hK => ?_) AllReadyH.nil
          go_simp
          refine hK.out _ _ ((below_sets HGG.out [.int .i64 (partV c0 id).id, .int .i64 (partV c0 id).base, .int .i64 (partV c0 id).size, .bool (partV c0 id).keep, .slice A8 m8 k8] 0 BS.out)) (fun hHeld => ?_)
          clear hK K
          have P9 := Lib.hid (ZB.out.sets [.int .i64 (partV c0 id).id, .int .i64 (partV c0 id).base, .int .i64 (partV c0 id).size, .bool (partV c0 id).keep, .slice A8 m8 k8] rfl)
          have BR9 := Lib.hid (below_sets HGR.out [.int .i64 (partV c0 id).id, .int .i64 (partV c0 id).base, .int .i64 (partV c0 id).size, .bool (partV c0 id).keep, .slice A8 m8 k8] 0 BR.out)
          clear a0 a1 a2 a3 a4 f0 f1 f2 f3 f4
          refine wpAnyH_take (i := 13) (v := ?_) rfl (by kernel_rfl) (by kernel_rfl) (by kernel_rfl) (fun _ _ _ h => h) (Or.inl ⟨by rfl, ?_⟩) (by assumption) ?_
          rotate_left 1
          · intro w hSw; (try dsimp only at hSw); go_simp; (try with_reducible rfl)
          simp only [Act.put, List.getElem_toArray, List.getElem_cons_zero, List.getElem_cons_succ, List.setIfInBounds_toArray, List.set_cons_zero, List.set_cons_succ]
          refine wpAnyH_done (by kernel_rfl) ?_ _
          clear hHeld
          go_wp2_with fail
          go_meet
          exact ⟨gg, m8, k8, A8, rfl, rfl, P9.out, HM8.out, BR9.out⟩
        · skip
          go_simp
          refine hK.out _ _ ((BS.out.alloc BS.out.size (.cells #[.int .i64 0, .int .i64 0, .int .i64 0, .bool false, .slice none 0 0] 45))) (fun hHeld => ?_)
          clear hK K
          have hal := (Below.refl wd.heap.size wd).alloc (Nat.le_refl _) (.cells #[.int .i64 0, .int .i64 0, .int .i64 0, .bool false, .slice none 0 0] 45)
          have ZB := Lib.hid (Bx.new wd 45 [.int .i64 0, .int .i64 0, .int .i64 0, .bool false, .slice none 0 0])
          have hs1 := BR.out.size
          have hs2 := BS.out.size
          replace BR := Lib.hid (BR.out.trans (hal.mono BR.out.size))
          replace BS := Lib.hid (BS.out.trans (hal.mono BS.out.size))
          clear hal
          generalize hgg : wd.heap.size = gg at *
          have HGG := Lib.hid hs2
          have HGR := Lib.hid hs1
          replace hgg := Lib.hid hgg
          clear hs1 hs2
          generalize wd.alloc (.cells #[.int .i64 0, .int .i64 0, .int .i64 0, .bool false, .slice none 0 0] 45) = we at *
          refine wpAnyH_ready (rs := [7]) (by kernel_rfl) (by simp) ?_
          refine AllReadyH.cons rfl (fun K hK => ?_) AllReadyH.nil
          go_simp
          refine (wPart x0 c0 id we (R.out.to BS.out) HNP.out).mono ?_
          rintro e wf ⟨A8, m8, k8, rfl, ho, hm1, hm2, hb⟩
          dsimp only
          have HM8 : Hid (m8 = (partV c0 id).img.length) := ho.1.1.symm
          replace ZB := Lib.hid (ZB.out.to hb)
          replace BR := Lib.hid (BR.out.trans (hb.mono BR.out.size))
          replace BS := Lib.hid (BS.out.trans (hb.mono BS.out.size))
          clear ho hm1 hm2 hb hHeld
          go_wp2_with fail
          refine hK.out _ _ (BS.out) (fun hHeld => ?_)
          clear hK K
          refine wpAnyH_take (i := 8) (v := ?_) rfl (by kernel_rfl) (by kernel_rfl) (by kernel_rfl) (fun _ _ _ h => h) (Or.inl ⟨by rfl, ?_⟩) (by assumption) ?_
          rotate_left 1
          · intro w hSw; (try dsimp only at hSw); go_simp; (try with_reducible rfl)
          simp only [Act.put, List.getElem_toArray, List.getElem_cons_zero, List.getElem_cons_succ, List.setIfInBounds_toArray, List.set_cons_zero, List.set_cons_succ]
          refine wpAnyH_take (i := 9) (v := ?_) rfl (by kernel_rfl) (by kernel_rfl) (by kernel_rfl) (fun _ _ _ h => h) (Or.inl ⟨by rfl, ?_⟩) (by assumption) ?_
          rotate_left 1
          · intro w hSw; (try dsimp only at hSw); go_simp; (try with_reducible rfl)
          simp only [Act.put, List.getElem_toArray, List.getElem_cons_zero, List.getElem_cons_succ, List.setIfInBounds_toArray, List.set_cons_zero, List.set_cons_succ]
          refine wpAnyH_take (i := 10) (v := ?_) rfl (by kernel_rfl) (by kernel_rfl) (by kernel_rfl) (fun _ _ _ h => h) (Or.inl ⟨by rfl, ?_⟩) (by assumption) ?_
          rotate_left 1
          · intro w hSw; (try dsimp only at hSw); go_simp; (try with_reducible rfl)
          simp only [Act.put, List.getElem_toArray, List.getElem_cons_zero, List.getElem_cons_succ, List.setIfInBounds_toArray, List.set_cons_zero, List.set_cons_succ]
          have a0 := ZB.out.at (j := 0) rfl
          have a1 := ZB.out.at (j := 1) rfl
          have a2 := ZB.out.at (j := 2) rfl
          have a3 := ZB.out.at (j := 3) rfl
          have a4 := ZB.out.at (j := 4) rfl
          have f0 := ZB.out.fz 0
          have f1 := ZB.out.fz 1
          have f2 := ZB.out.fz 2
          have f3 := ZB.out.fz 3
          have f4 := ZB.out.fz 4
          refine wpAnyH_ready (rs := [12]) (by kernel_rfl) (by simp) ?_
          refine AllReadyH.cons rfl (fun K hK => ?_) AllReadyH.nil
          go_simp
          refine hK.out _ _ ((below_sets HGG.out [.int .i64 (partV c0 id).id, .int .i64 (partV c0 id).base, .int .i64 (partV c0 id).size, .bool (partV c0 id).keep, .slice A8 m8 k8] 0 BS.out)) (fun hHeld => ?_)
          clear hK K
          have P9 := Lib.hid (ZB.out.sets [.int .i64 (partV c0 id).id, .int .i64 (partV c0 id).base, .int .i64 (partV c0 id).size, .bool (partV c0 id).keep, .slice A8 m8 k8] rfl)
          have BR9 := Lib.hid (below_sets HGR.out [.int .i64 (partV c0 id).id, .int .i64 (partV c0 id).base, .int .i64 (partV c0 id).size, .bool (partV c0 id).keep, .slice A8 m8 k8] 0 BR.out)
          clear a0 a1 a2 a3 a4 f0 f1 f2 f3 f4
          refine wpAnyH_take (i := 13) (v := ?_) rfl (by kernel_rfl) (by kernel_rfl) (by kernel_rfl) (fun _ _ _ h => h) (Or.inl ⟨by rfl, ?_⟩) (by assumption) ?_
          rotate_left 1
          · intro w hSw; (try dsimp only at hSw); go_simp; (try with_reducible rfl)
          simp only [Act.put, List.getElem_toArray, List.getElem_cons_zero, List.getElem_cons_succ, List.setIfInBounds_toArray, List.set_cons_zero, List.set_cons_succ]
          refine wpAnyH_done (by kernel_rfl) ?_ _
          clear hHeld
          go_wp2_with fail
          go_meet
          exact ⟨gg, m8, k8, A8, rfl, rfl, P9.out, HM8.out, BR9.out⟩
      case rest =>
      obtain ⟨g5, m5, k5, A5, rfl, rfl, hx5, hm5, hb⟩ := hcut
      rw [HHP.out]
      rw [HPV.out] at hx5 hm5
      have P5 := Lib.hid hx5
      have HM5 := Lib.hid hm5
      replace O3 := Lib.hid (own_bv O3.out hb)
      replace BD := Lib.hid (BD.out.trans (hb.mono BD.out.size))
      clear hx5 hm5 hb
      obtain ⟨ws, hws⟩ : ∃ x, x = wc := ⟨_, rfl⟩
      subst hws
      go_upto_region 10 with (fail)
      go_cut [93] from 44 to 98 (fun s93 wx => s93 = .bool false ∧ Below ws.heap.size ws wx)
      case first =>
        have hgd := cfReg_guard
        have heq := cfReg_eq
        have hv := VA.out.ids k HL.out
        have hi := VA.out.img k HL.out
        have hqq : eqR ((ptAt c0.ps k).base, (ptAt c0.ps k).size) ((ptAt c0.ps k).base, (ptAt c0.ps k).size) = true := eqR_iff.2 rfl
        have hd1 : decide ((ptAt c0.ps k).size < (m5 : Int)) = false := decide_eq_false (by rw [HM5.out]; omega)
        have hd2 : decide ((ptAt c0.ps k).id < 1) = false := decide_eq_false (by omega)
        have hd3 : decide (6 < (ptAt c0.ps k).id) = false := decide_eq_false (by omega)
        clear hv hi
        obtain ⟨wd, hwd⟩ : ∃ wd, ws.drew = wd := ⟨_, rfl⟩
        refine wp_region_held_drew (S := (fun w' => Below ws.heap.size ws w')) (by kernel_rfl) (((Below.refl _ ws).drew)) (fun hHeld => ?_)
        rw [hwd] at hHeld ⊢
        clear hwd
        refine wpAnyH_take (i := 0) (v := ?_) rfl (by kernel_rfl) (by kernel_rfl) (by kernel_rfl) (fun _ _ _ h => h) (Or.inl ⟨by rfl, ?_⟩) (by assumption) ?_
        rotate_left 1
        · intro w hSw; (try dsimp only at hSw); go_simp; (try with_reducible rfl)
        simp only [Act.put, List.getElem_toArray, List.getElem_cons_zero, List.getElem_cons_succ, List.setIfInBounds_toArray, List.set_cons_zero, List.set_cons_succ]
        refine wpAnyH_take (i := 1) (v := ?_) rfl (by kernel_rfl) (by kernel_rfl) (by kernel_rfl) (fun _ _ _ h => h) (Or.inl ⟨by rfl, ?_⟩) (by assumption) ?_
        rotate_left 1
        · intro w hSw; (try dsimp only at hSw); go_simp; (try with_reducible rfl)
        simp only [Act.put, List.getElem_toArray, List.getElem_cons_zero, List.getElem_cons_succ, List.setIfInBounds_toArray, List.set_cons_zero, List.set_cons_succ]
        refine wpAnyH_take (i := 2) (v := ?_) rfl (by kernel_rfl) (by kernel_rfl) (by kernel_rfl) (fun _ _ _ h => h) (Or.inl ⟨by rfl, ?_⟩) (by assumption) ?_
        rotate_left 1
        · intro w hSw; (try dsimp only at hSw); go_simp; (try with_reducible rfl)
        simp only [Act.put, List.getElem_toArray, List.getElem_cons_zero, List.getElem_cons_succ, List.setIfInBounds_toArray, List.set_cons_zero, List.set_cons_succ]
        refine wpAnyH_take (i := 3) (v := ?_) rfl (by kernel_rfl) (by kernel_rfl) (by kernel_rfl) (fun _ _ _ h => h) (Or.inl ⟨by rfl, ?_⟩) (by assumption) ?_
        rotate_left 1
        · intro w hSw; (try dsimp only at hSw); go_simp; (try with_reducible rfl)
        simp only [Act.put, List.getElem_toArray, List.getElem_cons_zero, List.getElem_cons_succ, List.setIfInBounds_toArray, List.set_cons_zero, List.set_cons_succ]
        refine wpAnyH_take (i := 4) (v := ?_) rfl (by kernel_rfl) (by kernel_rfl) (by kernel_rfl) (fun _ _ _ h => h) (Or.inl ⟨by rfl, ?_⟩) (by assumption) ?_
        rotate_left 1
        · intro w hSw; (try dsimp only at hSw); have t1 := (P5.out.to hSw).at (j := 1) rfl; have t2 := (P5.out.to hSw).at (j := 2) rfl; go_simp; (try with_reducible rfl)
        simp only [Act.put, List.getElem_toArray, List.getElem_cons_zero, List.getElem_cons_succ, List.setIfInBounds_toArray, List.set_cons_zero, List.set_cons_succ]
        refine wpAnyH_take (i := 5) (v := ?_) rfl (by kernel_rfl) (by kernel_rfl) (by kernel_rfl) (fun _ _ _ h => h) (Or.inl ⟨by rfl, ?_⟩) (by assumption) ?_
        rotate_left 1
        · intro w hSw; (try dsimp only at hSw); go_simp; (try with_reducible rfl)
        simp only [Act.put, List.getElem_toArray, List.getElem_cons_zero, List.getElem_cons_succ, List.setIfInBounds_toArray, List.set_cons_zero, List.set_cons_succ]
        refine wpAnyH_take (i := 6) (v := ?_) rfl (by kernel_rfl) (by kernel_rfl) (by kernel_rfl) (fun _ _ _ h => h) (Or.inl ⟨by rfl, ?_⟩) (by assumption) ?_
        rotate_left 1
        · intro w hSw; (try dsimp only at hSw); have t1 := ((X.out.to BD.out).to hSw).at (j := 1) rfl; rw [HA.out] at t1; go_simp; (try with_reducible rfl)
        simp only [Act.put, List.getElem_toArray, List.getElem_cons_zero, List.getElem_cons_succ, List.setIfInBounds_toArray, List.set_cons_zero, List.set_cons_succ]
        refine wpAnyH_take (i := 7) (v := ?_) rfl (by kernel_rfl) (by kernel_rfl) (by kernel_rfl) (fun _ _ _ h => h) (Or.inl ⟨by rfl, ?_⟩) (by assumption) ?_
        rotate_left 1
        · intro w hSw; (try dsimp only at hSw); go_simp; (try with_reducible rfl)
        simp only [Act.put, List.getElem_toArray, List.getElem_cons_zero, List.getElem_cons_succ, List.setIfInBounds_toArray, List.set_cons_zero, List.set_cons_succ]
        refine wpAnyH_take (i := 8) (v := ?_) rfl (by kernel_rfl) (by kernel_rfl) (by kernel_rfl) (fun _ _ _ h => h) (Or.inl ⟨by rfl, ?_⟩) (by assumption) ?_
        rotate_left 1
        · intro w hSw; (try dsimp only at hSw); go_simp; (try with_reducible rfl)
        simp only [Act.put, List.getElem_toArray, List.getElem_cons_zero, List.getElem_cons_succ, List.setIfInBounds_toArray, List.set_cons_zero, List.set_cons_succ]
        refine wpAnyH_take (i := 9) (v := ?_) rfl (by kernel_rfl) (by kernel_rfl) (by kernel_rfl) (fun _ _ _ h => h) (Or.inl ⟨by rfl, ?_⟩) (by assumption) ?_
        rotate_left 1
        · intro w hSw; (try dsimp only at hSw); go_simp; (try with_reducible rfl)
        simp only [Act.put, List.getElem_toArray, List.getElem_cons_zero, List.getElem_cons_succ, List.setIfInBounds_toArray, List.set_cons_zero, List.set_cons_succ]
        refine wpAnyH_take (i := 10) (v := ?_) rfl (by kernel_rfl) (by kernel_rfl) (by kernel_rfl) (fun _ _ _ h => h) (Or.inl ⟨by rfl, ?_⟩) (by assumption) ?_
        rotate_left 1
        · intro w hSw; (try dsimp only at hSw); have t0 := BD.out.trans (hSw.mono BD.out.size); have t1 := (t0.cell (p := ⟨bb, o + k * 5 + 1, none⟩) HBB.out).trans HC1.out; have t2 := (t0.cell (p := ⟨bb, o + k * 5 + 2, none⟩) HBB.out).trans HC2.out; go_simp; (try with_reducible rfl)
        simp only [Act.put, List.getElem_toArray, List.getElem_cons_zero, List.getElem_cons_succ, List.setIfInBounds_toArray, List.set_cons_zero, List.set_cons_succ]
        refine wpAnyH_take (i := 11) (v := ?_) rfl (by kernel_rfl) (by kernel_rfl) (by kernel_rfl) (fun _ _ _ h => h) (Or.inl ⟨by rfl, ?_⟩) (by assumption) ?_
        rotate_left 1
        · intro w hSw; (try dsimp only at hSw); go_simp; (try with_reducible rfl)
        simp only [Act.put, List.getElem_toArray, List.getElem_cons_zero, List.getElem_cons_succ, List.setIfInBounds_toArray, List.set_cons_zero, List.set_cons_succ]
        refine wpAnyH_take (i := 12) (v := ?_) rfl (by kernel_rfl) (by kernel_rfl) (by kernel_rfl) (fun _ _ _ h => h) (Or.inl ⟨by rfl, ?_⟩) (by assumption) ?_
        rotate_left 1
        · intro w hSw; (try dsimp only at hSw); go_simp; (try with_reducible rfl)
        simp only [Act.put, List.getElem_toArray, List.getElem_cons_zero, List.getElem_cons_succ, List.setIfInBounds_toArray, List.set_cons_zero, List.set_cons_succ]
        refine wpAnyH_take (i := 13) (v := ?_) rfl (by kernel_rfl) (by kernel_rfl) (by kernel_rfl) (fun _ _ _ h => h) (Or.inl ⟨by rfl, ?_⟩) (by assumption) ?_
        rotate_left 1
        · intro w hSw; (try dsimp only at hSw); go_simp; (try with_reducible rfl)
        simp only [Act.put, List.getElem_toArray, List.getElem_cons_zero, List.getElem_cons_succ, List.setIfInBounds_toArray, List.set_cons_zero, List.set_cons_succ]
        refine wpAnyH_take (i := 14) (v := ?_) rfl (by kernel_rfl) (by kernel_rfl) (by kernel_rfl) (fun _ _ _ h => h) (Or.inl ⟨by rfl, ?_⟩) (by assumption) ?_
        rotate_left 1
        · intro w hSw; (try dsimp only at hSw); go_simp; (try with_reducible rfl)
        simp only [Act.put, List.getElem_toArray, List.getElem_cons_zero, List.getElem_cons_succ, List.setIfInBounds_toArray, List.set_cons_zero, List.set_cons_succ]
        refine wpAnyH_take (i := 15) (v := ?_) rfl (by kernel_rfl) (by kernel_rfl) (by kernel_rfl) (fun _ _ _ h => h) (Or.inl ⟨by rfl, ?_⟩) (by assumption) ?_
        rotate_left 1
        · intro w hSw; (try dsimp only at hSw); have t1 := (P5.out.to hSw).at (j := 4) rfl; go_simp; (try with_reducible rfl)
        simp only [Act.put, List.getElem_toArray, List.getElem_cons_zero, List.getElem_cons_succ, List.setIfInBounds_toArray, List.set_cons_zero, List.set_cons_succ]
        refine wpAnyH_take (i := 16) (v := ?_) rfl (by kernel_rfl) (by kernel_rfl) (by kernel_rfl) (fun _ _ _ h => h) (Or.inl ⟨by rfl, ?_⟩) (by assumption) ?_
        rotate_left 1
        · intro w hSw; (try dsimp only at hSw); go_simp; (try with_reducible rfl)
        simp only [Act.put, List.getElem_toArray, List.getElem_cons_zero, List.getElem_cons_succ, List.setIfInBounds_toArray, List.set_cons_zero, List.set_cons_succ]
        refine wpAnyH_take (i := 17) (v := ?_) rfl (by kernel_rfl) (by kernel_rfl) (by kernel_rfl) (fun _ _ _ h => h) (Or.inl ⟨by rfl, ?_⟩) (by assumption) ?_
        rotate_left 1
        · intro w hSw; (try dsimp only at hSw); go_simp; (try with_reducible rfl)
        simp only [Act.put, List.getElem_toArray, List.getElem_cons_zero, List.getElem_cons_succ, List.setIfInBounds_toArray, List.set_cons_zero, List.set_cons_succ]
        refine wpAnyH_take (i := 18) (v := ?_) rfl (by kernel_rfl) (by kernel_rfl) (by kernel_rfl) (fun _ _ _ h => h) (Or.inl ⟨by rfl, ?_⟩) (by assumption) ?_
        rotate_left 1
        · intro w hSw; (try dsimp only at hSw); go_simp; (try with_reducible rfl)
        simp only [Act.put, List.getElem_toArray, List.getElem_cons_zero, List.getElem_cons_succ, List.setIfInBounds_toArray, List.set_cons_zero, List.set_cons_succ]
        refine wpAnyH_take (i := 19) (v := ?_) rfl (by kernel_rfl) (by kernel_rfl) (by kernel_rfl) (fun _ _ _ h => h) (Or.inl ⟨by rfl, ?_⟩) (by assumption) ?_
        rotate_left 1
        · intro w hSw; (try dsimp only at hSw); have t1 := (P5.out.to hSw).at (j := 2) rfl; go_simp; (try with_reducible rfl)
        simp only [Act.put, List.getElem_toArray, List.getElem_cons_zero, List.getElem_cons_succ, List.setIfInBounds_toArray, List.set_cons_zero, List.set_cons_succ]
        refine wpAnyH_take (i := 20) (v := ?_) rfl (by kernel_rfl) (by kernel_rfl) (by kernel_rfl) (fun _ _ _ h => h) (Or.inl ⟨by rfl, ?_⟩) (by assumption) ?_
        rotate_left 1
        · intro w hSw; (try dsimp only at hSw); go_simp; (try with_reducible rfl)
        simp only [Act.put, List.getElem_toArray, List.getElem_cons_zero, List.getElem_cons_succ, List.setIfInBounds_toArray, List.set_cons_zero, List.set_cons_succ]
        refine wpAnyH_take (i := 21) (v := ?_) rfl (by kernel_rfl) (by kernel_rfl) (by kernel_rfl) (fun _ _ _ h => h) (Or.inl ⟨by rfl, ?_⟩) (by assumption) ?_
        rotate_left 1
        · intro w hSw; (try dsimp only at hSw); go_simp; (try with_reducible rfl)
        simp only [Act.put, List.getElem_toArray, List.getElem_cons_zero, List.getElem_cons_succ, List.setIfInBounds_toArray, List.set_cons_zero, List.set_cons_succ]
        refine wpAnyH_take (i := 22) (v := ?_) rfl (by kernel_rfl) (by kernel_rfl) (by kernel_rfl) (fun _ _ _ h => h) (Or.inl ⟨by rfl, ?_⟩) (by assumption) ?_
        rotate_left 1
        · intro w hSw; (try dsimp only at hSw); go_simp; (try with_reducible rfl)
        simp only [Act.put, List.getElem_toArray, List.getElem_cons_zero, List.getElem_cons_succ, List.setIfInBounds_toArray, List.set_cons_zero, List.set_cons_succ]
        refine wpAnyH_take (i := 23) (v := ?_) rfl (by kernel_rfl) (by kernel_rfl) (by kernel_rfl) (fun _ _ _ h => h) (Or.inl ⟨by rfl, ?_⟩) (by assumption) ?_
        rotate_left 1
        · intro w hSw; (try dsimp only at hSw); go_simp; (try with_reducible rfl)
        simp only [Act.put, List.getElem_toArray, List.getElem_cons_zero, List.getElem_cons_succ, List.setIfInBounds_toArray, List.set_cons_zero, List.set_cons_succ]
        refine wpAnyH_take (i := 24) (v := ?_) rfl (by kernel_rfl) (by kernel_rfl) (by kernel_rfl) (fun _ _ _ h => h) (Or.inl ⟨by rfl, ?_⟩) (by assumption) ?_
        rotate_left 1
        · intro w hSw; (try dsimp only at hSw); have t1 := (P5.out.to hSw).at (j := 0) rfl; go_simp; (try with_reducible rfl)
        simp only [Act.put, List.getElem_toArray, List.getElem_cons_zero, List.getElem_cons_succ, List.setIfInBounds_toArray, List.set_cons_zero, List.set_cons_succ]
        refine wpAnyH_take (i := 25) (v := ?_) rfl (by kernel_rfl) (by kernel_rfl) (by kernel_rfl) (fun _ _ _ h => h) (Or.inl ⟨by rfl, ?_⟩) (by assumption) ?_
        rotate_left 1
        · intro w hSw; (try dsimp only at hSw); go_simp; (try with_reducible rfl)
        simp only [Act.put, List.getElem_toArray, List.getElem_cons_zero, List.getElem_cons_succ, List.setIfInBounds_toArray, List.set_cons_zero, List.set_cons_succ]
        refine wpAnyH_take (i := 26) (v := ?_) rfl (by kernel_rfl) (by kernel_rfl) (by kernel_rfl) (fun _ _ _ h => h) (Or.inl ⟨by rfl, ?_⟩) (by assumption) ?_
        rotate_left 1
        · intro w hSw; (try dsimp only at hSw); go_simp; (try with_reducible rfl)
        simp only [Act.put, List.getElem_toArray, List.getElem_cons_zero, List.getElem_cons_succ, List.setIfInBounds_toArray, List.set_cons_zero, List.set_cons_succ]
        refine wpAnyH_take (i := 27) (v := ?_) rfl (by kernel_rfl) (by kernel_rfl) (by kernel_rfl) (fun _ _ _ h => h) (Or.inl ⟨by rfl, ?_⟩) (by assumption) ?_
        rotate_left 1
        · intro w hSw; (try dsimp only at hSw); go_simp; (try with_reducible rfl)
        simp only [Act.put, List.getElem_toArray, List.getElem_cons_zero, List.getElem_cons_succ, List.setIfInBounds_toArray, List.set_cons_zero, List.set_cons_succ]
        refine wpAnyH_take (i := 28) (v := ?_) rfl (by kernel_rfl) (by kernel_rfl) (by kernel_rfl) (fun _ _ _ h => h) (Or.inl ⟨by rfl, ?_⟩) (by assumption) ?_
        rotate_left 1
        · intro w hSw; (try dsimp only at hSw); go_simp; (try with_reducible rfl)
        simp only [Act.put, List.getElem_toArray, List.getElem_cons_zero, List.getElem_cons_succ, List.setIfInBounds_toArray, List.set_cons_zero, List.set_cons_succ]
        refine wpAnyH_take (i := 29) (v := ?_) rfl (by kernel_rfl) (by kernel_rfl) (by kernel_rfl) (fun _ _ _ h => h) (Or.inl ⟨by rfl, ?_⟩) (by assumption) ?_
        rotate_left 1
        · intro w hSw; (try dsimp only at hSw); have t1 := (P5.out.to hSw).at (j := 0) rfl; go_simp; (try with_reducible rfl)
        simp only [Act.put, List.getElem_toArray, List.getElem_cons_zero, List.getElem_cons_succ, List.setIfInBounds_toArray, List.set_cons_zero, List.set_cons_succ]
        refine wpAnyH_take (i := 30) (v := ?_) rfl (by kernel_rfl) (by kernel_rfl) (by kernel_rfl) (fun _ _ _ h => h) (Or.inl ⟨by rfl, ?_⟩) (by assumption) ?_
        rotate_left 1
        · intro w hSw; (try dsimp only at hSw); go_simp; (try with_reducible rfl)
        simp only [Act.put, List.getElem_toArray, List.getElem_cons_zero, List.getElem_cons_succ, List.setIfInBounds_toArray, List.set_cons_zero, List.set_cons_succ]
        refine wpAnyH_take (i := 31) (v := ?_) rfl (by kernel_rfl) (by kernel_rfl) (by kernel_rfl) (fun _ _ _ h => h) (Or.inl ⟨by rfl, ?_⟩) (by assumption) ?_
        rotate_left 1
        · intro w hSw; (try dsimp only at hSw); go_simp; (try with_reducible rfl)
        simp only [Act.put, List.getElem_toArray, List.getElem_cons_zero, List.getElem_cons_succ, List.setIfInBounds_toArray, List.set_cons_zero, List.set_cons_succ]
        refine wpAnyH_done (by kernel_rfl) ?_ _
        go_wp2_with fail
        go_meet
        exact ⟨rfl, hHeld⟩
      case rest =>
      obtain ⟨rfl, hb⟩ := hcut
      replace P5 := Lib.hid (P5.out.to hb)
      replace O3 := Lib.hid (own_bv O3.out hb)
      replace BD := Lib.hid (BD.out.trans (hb.mono BD.out.size))
      clear hb
      obtain ⟨wt, hwt⟩ : ∃ x, x = wc := ⟨_, rfl⟩
      subst hwt
      have q1 := P5.out.at (j := 1) rfl
      have q2 := P5.out.at (j := 2) rfl
      have hal := (Below.refl wt.heap.size wt).alloc (Nat.le_refl _) (.cells #[.int .i64 (ptAt c0.ps k).base, .int .i64 (ptAt c0.ps k).size] 42)
      have O7 := Lib.hid (own_bv O3.out hal)
      have N7 := Lib.hid (cells_newV wt 42 [.int .i64 (ptAt c0.ps k).base, .int .i64 (ptAt c0.ps k).size])
      have B8 := Lib.hid (BD.out.trans (hal.mono BD.out.size))
      clear hal
      go_wp2_with (at_builtin; refine wpList_pushV vtG rfl (.tmp 94) (.tmp 97) rfl rfl rfl O7.out (m := 1) (news := winsV [regP (ptAt c0.ps k)]) rfl (fun _ => ⟨_, rfl, N7.out⟩) (winsV_one _) B8.out.size (by have := HNP.out; have := HLT.out; omega) ?_; intro v9 w9 hown9 hk9 hv9; obtain ⟨A9, c9, rfl⟩ := own_slV hown9; have B9 := Lib.hid (hk9.below B8.out B8.out.size (fun k hk => (O7.out.lt k hk).1)); have O9 := Lib.hid hown9; clear hown9 hk9 hv9)
      have O10 : Hid (w9.ownsRow wB.heap.size 42 2 (.slice A9 (k + 1) c9) (k + 1) (winsV ((regsP c0).take (k + 1)))) := by (show World.ownsRow _ _ _ _ _ _ _); rw [regs_take HL.out, winsV_app]; exact O9.out
      go_roundw
      case rel => first | exact ⟨k + 1, HLT.out, by go_num, O10.out, B9.out⟩ | ((repeat apply Exists.intro); exact ⟨⟨k + 1, HLT.out, by go_num, O10.out, B9.out⟩, rfl⟩)
      case measure => simp [intOf]; omega
    · obtain rfl : k = x0.np := by have := HK.out; omega
      have HRS : Hid (wr.ownsRow wB.heap.size 42 2 (.slice A3 x0.np k3) x0.np (winsV (regsP c0))) := by
        have h := O3.out
        rw [List.take_of_length_le (by rw [regsP, List.length_map, R.out.pp.1]; exact Nat.le_refl _)] at h
        exact h
      clear O3
      go_wp2_with fail
      clear hlt p2
      go_loopw [7, 8, 9] (fun s7 s8 s9 wr => ∃ k : Nat, k ≤ x0.nw ∧ s7 = .int .i64 (k : Int) ∧ wr.ownsRow wB.heap.size 42 2 (.slice A3 x0.np k3) x0.np (winsV (regsP c0)) ∧ Below wB.heap.size wB wr) (fun s7 _ _ _ => x0.nw - (intOf s7).toNat)
      case atStart => exact ⟨0, Nat.zero_le _, rfl, HRS.out, BD.out⟩
      case round =>
        clear HRS BD
        obtain ⟨k, hk, rfl, ho, hbel⟩ := hrel
        have O3 := Lib.hid ho
        have BD := Lib.hid hbel
        have HK := Lib.hid hk
        clear ho hbel hk
        have p1 := (X.out.to BD.out).at (j := 0) rfl
        by_cases hlt : k < x0.nw
        · have hltI : (k : Int) < (x0.nw : Int) := by omega
          have HLT := Lib.hid hlt
          have hwk : IntKind.i64.wrap ((k : Int) + 1) = (k : Int) + 1 := by have := HNW.out; rw [IntKind.wrap_i64]; omega
          obtain ⟨bb, o, hA, hbb, hcc⟩ := R.out.ww.2 (by omega)
          obtain ⟨pt, hpt⟩ : ∃ x, (rat c0.ws k).2 = x := ⟨_, rfl⟩
          have HCK : Hid (wB.cell? ⟨bb, o + k * 2 + 1, none⟩ = some (.int .i64 pt)) := by (show _ = _); rw [← hpt]; exact (hcc k hlt).2
          have HHP : Hid (hasP c0 pt = (pt != 0)) := by
            (show _ = _)
            by_cases hz : pt = 0
            · rw [VA.out.none (by omega), hz]; rfl
            · rw [← hpt, VA.out.win k (by rw [R.out.ww.1]; exact hlt) (by rw [hpt]; exact hz), hpt]
              exact (bne_iff_ne.2 hz).symm
          have HA := Lib.hid hA
          have HBB := Lib.hid hbb
          have hzz : ((pt != 0) != (pt != 0)) = false := by simp
          clear hA hbb hcc hpt hlt
          go_upto_region 16 with (fail)
          go_cut [8, 9] from 99 to 125 (fun s t wx => PtB c0 pt wr s t wx)
          case first =>
            obtain ⟨wd, hwd⟩ : ∃ wd, wr.drew = wd := ⟨_, rfl⟩
            have BR : Hid (Below wr.heap.size wr wd) := by (show Below _ _ _); rw [← hwd]; exact (Below.refl _ wr).drew
            refine wp_region_held_drew (S := (fun w' => Below wB.heap.size wB w')) (by kernel_rfl) (BD.out.drew) (fun hHeld => ?_)
            rw [hwd] at hHeld ⊢
            clear hwd
            have BS := Lib.hid hHeld
            refine wpAnyH_take (i := 0) (v := ?_) rfl (by kernel_rfl) (by kernel_rfl) (by kernel_rfl) (fun _ _ _ h => h) (Or.inl ⟨by rfl, ?_⟩) (by assumption) ?_
            rotate_left 1
            · intro w hSw; (try dsimp only at hSw); have t1 := (X.out.to hSw).at (j := 0) rfl; have t2 := (X.out.to hSw).at (j := 1) rfl; have t3 := (X.out.to hSw).at (j := 2) rfl; go_simp; (try with_reducible rfl)
            simp only [Act.put, List.getElem_toArray, List.getElem_cons_zero, List.getElem_cons_succ, List.setIfInBounds_toArray, List.set_cons_zero, List.set_cons_succ]
            refine wpAnyH_take (i := 1) (v := ?_) rfl (by kernel_rfl) (by kernel_rfl) (by kernel_rfl) (fun _ _ _ h => h) (Or.inl ⟨by rfl, ?_⟩) (by assumption) ?_
            rotate_left 1
            · intro w hSw; (try dsimp only at hSw); go_simp; (try with_reducible rfl)
            simp only [Act.put, List.getElem_toArray, List.getElem_cons_zero, List.getElem_cons_succ, List.setIfInBounds_toArray, List.set_cons_zero, List.set_cons_succ]
            refine wpAnyH_take (i := 2) (v := ?_) rfl (by kernel_rfl) (by kernel_rfl) (by kernel_rfl) (fun _ _ _ h => h) (Or.inl ⟨by rfl, ?_⟩) (by assumption) ?_
            rotate_left 1
            · intro w hSw; (try dsimp only at hSw); have t1 := (X.out.to hSw).at (j := 0) rfl; rw [HA.out] at t1; go_simp; (try with_reducible rfl)
            simp only [Act.put, List.getElem_toArray, List.getElem_cons_zero, List.getElem_cons_succ, List.setIfInBounds_toArray, List.set_cons_zero, List.set_cons_succ]
            refine wpAnyH_take (i := 3) (v := ?_) rfl (by kernel_rfl) (by kernel_rfl) (by kernel_rfl) (fun _ _ _ h => h) (Or.inl ⟨by rfl, ?_⟩) (by assumption) ?_
            rotate_left 1
            · intro w hSw; (try dsimp only at hSw); go_simp; (try with_reducible rfl)
            simp only [Act.put, List.getElem_toArray, List.getElem_cons_zero, List.getElem_cons_succ, List.setIfInBounds_toArray, List.set_cons_zero, List.set_cons_succ]
            refine wpAnyH_take (i := 4) (v := ?_) rfl (by kernel_rfl) (by kernel_rfl) (by kernel_rfl) (fun _ _ _ h => h) (Or.inl ⟨by rfl, ?_⟩) (by assumption) ?_
            rotate_left 1
            · intro w hSw; (try dsimp only at hSw); go_simp; (try with_reducible rfl)
            simp only [Act.put, List.getElem_toArray, List.getElem_cons_zero, List.getElem_cons_succ, List.setIfInBounds_toArray, List.set_cons_zero, List.set_cons_succ]
            refine wpAnyH_take (i := 5) (v := ?_) rfl (by kernel_rfl) (by kernel_rfl) (by kernel_rfl) (fun _ _ _ h => h) (Or.inl ⟨by rfl, ?_⟩) (by assumption) ?_
            rotate_left 1
            · intro w hSw; (try dsimp only at hSw); go_simp; (try with_reducible rfl)
            simp only [Act.put, List.getElem_toArray, List.getElem_cons_zero, List.getElem_cons_succ, List.setIfInBounds_toArray, List.set_cons_zero, List.set_cons_succ]
            refine wpAnyH_take (i := 6) (v := ?_) rfl (by kernel_rfl) (by kernel_rfl) (by kernel_rfl) (fun _ _ _ h => h) (Or.inl ⟨by rfl, ?_⟩) (by assumption) ?_
            rotate_left 1
            · intro w hSw; (try dsimp only at hSw); have t1 := (hSw.cell (p := ⟨bb, o + k * 2 + 1, none⟩) HBB.out).trans HCK.out; go_simp; (try with_reducible rfl)
            simp only [Act.put, List.getElem_toArray, List.getElem_cons_zero, List.getElem_cons_succ, List.setIfInBounds_toArray, List.set_cons_zero, List.set_cons_succ]
            refine wpAnyH_ready (rs := [7, 11]) (by kernel_rfl) (by simp) ?_
            refine AllReadyH.cons rfl (fun K hK => ?_) (AllReadyH.cons rfl (fun K hK => ?_) AllReadyH.nil)
            · skip
              go_simp
              refine (wPart x0 c0 pt wd (R.out.to BS.out) HNP.out).mono ?_
              rintro e we ⟨A8, m8, k8, rfl, ho, hm1, hm2, hb⟩
              dsimp only
              have HM8 : Hid (m8 = (partV c0 pt).img.length) := ho.1.1.symm
              replace BR := Lib.hid (BR.out.trans (hb.mono BR.out.size))
              replace BS := Lib.hid (BS.out.trans (hb.mono BS.out.size))
              clear ho hm1 hm2 hb hHeld
              go_wp2_with fail
              refine hK.out _ _ (BS.out) (fun hHeld => ?_)
              clear hK K
              refine wpAnyH_take (i := 8) (v := ?_) rfl (by kernel_rfl) (by kernel_rfl) (by kernel_rfl) (fun _ _ _ h => h) (Or.inl ⟨by rfl, ?_⟩) (by assumption) ?_
              rotate_left 1
              · intro w hSw; (try dsimp only at hSw); go_simp; (try with_reducible rfl)
              simp only [Act.put, List.getElem_toArray, List.getElem_cons_zero, List.getElem_cons_succ, List.setIfInBounds_toArray, List.set_cons_zero, List.set_cons_succ]
              refine wpAnyH_take (i := 9) (v := ?_) rfl (by kernel_rfl) (by kernel_rfl) (by kernel_rfl) (fun _ _ _ h => h) (Or.inl ⟨by rfl, ?_⟩) (by assumption) ?_
              rotate_left 1
              · intro w hSw; (try dsimp only at hSw); go_simp; (try with_reducible rfl)
              simp only [Act.put, List.getElem_toArray, List.getElem_cons_zero, List.getElem_cons_succ, List.setIfInBounds_toArray, List.set_cons_zero, List.set_cons_succ]
              refine wpAnyH_take (i := 10) (v := ?_) rfl (by kernel_rfl) (by kernel_rfl) (by kernel_rfl) (fun _ _ _ h => h) (Or.inl ⟨by rfl, ?_⟩) (by assumption) ?_
              rotate_left 1
              · intro w hSw; (try dsimp only at hSw); go_simp; (try with_reducible rfl)
              simp only [Act.put, List.getElem_toArray, List.getElem_cons_zero, List.getElem_cons_succ, List.setIfInBounds_toArray, List.set_cons_zero, List.set_cons_succ]
              refine wpAnyH_ready (rs := [11]) (by kernel_rfl) (by simp) ?_
              refine AllReadyH.cons rfl (fun K hK => ?_) AllReadyH.nil
              go_simp
              refine hK.out _ _ ((BS.out.alloc BS.out.size (.cells #[.int .i64 0, .int .i64 0, .int .i64 0, .bool false, .slice none 0 0] 45))) (fun hHeld => ?_)
              clear hK K
              have hal := (Below.refl we.heap.size we).alloc (Nat.le_refl _) (.cells #[.int .i64 0, .int .i64 0, .int .i64 0, .bool false, .slice none 0 0] 45)
              have ZB := Lib.hid (Bx.new we 45 [.int .i64 0, .int .i64 0, .int .i64 0, .bool false, .slice none 0 0])
              have hs1 := BR.out.size
              have hs2 := BS.out.size
              replace BR := Lib.hid (BR.out.trans (hal.mono BR.out.size))
              replace BS := Lib.hid (BS.out.trans (hal.mono BS.out.size))
              clear hal
              generalize hgg : we.heap.size = gg at *
              have HGG := Lib.hid hs2
              have HGR := Lib.hid hs1
              replace hgg := Lib.hid hgg
              clear hs1 hs2
              generalize we.alloc (.cells #[.int .i64 0, .int .i64 0, .int .i64 0, .bool false, .slice none 0 0] 45) = wf at *
              have a0 := ZB.out.at (j := 0) rfl
              have a1 := ZB.out.at (j := 1) rfl
              have a2 := ZB.out.at (j := 2) rfl
              have a3 := ZB.out.at (j := 3) rfl
              have a4 := ZB.out.at (j := 4) rfl
              have f0 := ZB.out.fz 0
              have f1 := ZB.out.fz 1
              have f2 := ZB.out.fz 2
              have f3 := ZB.out.fz 3
              have f4 := ZB.out.fz 4
              refine wpAnyH_ready (rs := [12]) (by kernel_rfl) (by simp) ?_
              refine AllReadyH.cons rfl (fun K hK => ?_) AllReadyH.nil
              go_simp
              refine hK.out _ _ ((below_sets HGG.out [.int .i64 (partV c0 pt).id, .int .i64 (partV c0 pt).base, .int .i64 (partV c0 pt).size, .bool (partV c0 pt).keep, .slice A8 m8 k8] 0 BS.out)) (fun hHeld => ?_)
              clear hK K
              have P9 := Lib.hid (ZB.out.sets [.int .i64 (partV c0 pt).id, .int .i64 (partV c0 pt).base, .int .i64 (partV c0 pt).size, .bool (partV c0 pt).keep, .slice A8 m8 k8] rfl)
              have BR9 := Lib.hid (below_sets HGR.out [.int .i64 (partV c0 pt).id, .int .i64 (partV c0 pt).base, .int .i64 (partV c0 pt).size, .bool (partV c0 pt).keep, .slice A8 m8 k8] 0 BR.out)
              clear a0 a1 a2 a3 a4 f0 f1 f2 f3 f4
              refine wpAnyH_take (i := 13) (v := ?_) rfl (by kernel_rfl) (by kernel_rfl) (by kernel_rfl) (fun _ _ _ h => h) (Or.inl ⟨by rfl, ?_⟩) (by assumption) ?_
              rotate_left 1
              · intro w hSw; (try dsimp only at hSw); go_simp; (try with_reducible rfl)
              simp only [Act.put, List.getElem_toArray, List.getElem_cons_zero, List.getElem_cons_succ, List.setIfInBounds_toArray, List.set_cons_zero, List.set_cons_succ]
              refine wpAnyH_done (by kernel_rfl) ?_ _
              clear hHeld
              go_wp2_with fail
              go_meet
              exact ⟨gg, m8, k8, A8, rfl, rfl, P9.out, HM8.out, BR9.out⟩
            · skip
              go_simp
              refine hK.out _ _ ((BS.out.alloc BS.out.size (.cells #[.int .i64 0, .int .i64 0, .int .i64 0, .bool false, .slice none 0 0] 45))) (fun hHeld => ?_)
              clear hK K
              have hal := (Below.refl wd.heap.size wd).alloc (Nat.le_refl _) (.cells #[.int .i64 0, .int .i64 0, .int .i64 0, .bool false, .slice none 0 0] 45)
              have ZB := Lib.hid (Bx.new wd 45 [.int .i64 0, .int .i64 0, .int .i64 0, .bool false, .slice none 0 0])
              have hs1 := BR.out.size
              have hs2 := BS.out.size
              replace BR := Lib.hid (BR.out.trans (hal.mono BR.out.size))
              replace BS := Lib.hid (BS.out.trans (hal.mono BS.out.size))
              clear hal
              generalize hgg : wd.heap.size = gg at *
              have HGG := Lib.hid hs2
              have HGR := Lib.hid hs1
              replace hgg := Lib.hid hgg
              clear hs1 hs2
              generalize wd.alloc (.cells #[.int .i64 0, .int .i64 0, .int .i64 0, .bool false, .slice none 0 0] 45) = we at *
              refine wpAnyH_ready (rs := [7]) (by kernel_rfl) (by simp) ?_
              refine AllReadyH.cons rfl (fun K hK => ?_) AllReadyH.nil
              go_simp
              refine (wPart x0 c0 pt we (R.out.to BS.out) HNP.out).mono ?_
              rintro e wf ⟨A8, m8, k8, rfl, ho, hm1, hm2, hb⟩
              dsimp only
              have HM8 : Hid (m8 = (partV c0 pt).img.length) := ho.1.1.symm
              replace ZB := Lib.hid (ZB.out.to hb)
              replace BR := Lib.hid (BR.out.trans (hb.mono BR.out.size))
              replace BS := Lib.hid (BS.out.trans (hb.mono BS.out.size))
              clear ho hm1 hm2 hb hHeld
              go_wp2_with fail
              refine hK.out _ _ (BS.out) (fun hHeld => ?_)
              clear hK K
              refine wpAnyH_take (i := 8) (v := ?_) rfl (by kernel_rfl) (by kernel_rfl) (by kernel_rfl) (fun _ _ _ h => h) (Or.inl ⟨by rfl, ?_⟩) (by assumption) ?_
              rotate_left 1
              · intro w hSw; (try dsimp only at hSw); go_simp; (try with_reducible rfl)
              simp only [Act.put, List.getElem_toArray, List.getElem_cons_zero, List.getElem_cons_succ, List.setIfInBounds_toArray, List.set_cons_zero, List.set_cons_succ]
              refine wpAnyH_take (i := 9) (v := ?_) rfl (by kernel_rfl) (by kernel_rfl) (by kernel_rfl) (fun _ _ _ h => h) (Or.inl ⟨by rfl, ?_⟩) (by assumption) ?_
              rotate_left 1
              · intro w hSw; (try dsimp only at hSw); go_simp; (try with_reducible rfl)
              simp only [Act.put, List.getElem_toArray, List.getElem_cons_zero, List.getElem_cons_succ, List.setIfInBounds_toArray, List.set_cons_zero, List.set_cons_succ]
              refine wpAnyH_take (i := 10) (v := ?_) rfl (by kernel_rfl) (by kernel_rfl) (by kernel_rfl) (fun _ _ _ h => h) (Or.inl ⟨by rfl, ?_⟩) (by assumption) ?_
              rotate_left 1
              · intro w hSw; (try dsimp only at hSw); go_simp; (try with_reducible rfl)
              simp only [Act.put, List.getElem_toArray, List.getElem_cons_zero, List.getElem_cons_succ, List.setIfInBounds_toArray, List.set_cons_zero, List.set_cons_succ]
              have a0 := ZB.out.at (j := 0) rfl
              have a1 := ZB.out.at (j := 1) rfl
              have a2 := ZB.out.at (j := 2) rfl
              have a3 := ZB.out.at (j := 3) rfl
              have a4 := ZB.out.at (j := 4) rfl
              have f0 := ZB.out.fz 0
              have f1 := ZB.out.fz 1
              have f2 := ZB.out.fz 2
              have f3 := ZB.out.fz 3
              have f4 := ZB.out.fz 4
              refine wpAnyH_ready (rs := [12]) (by kernel_rfl) (by simp) ?_
              refine AllReadyH.cons rfl (fun K hK => ?_) AllReadyH.nil
              go_simp
              refine hK.out _ _ ((below_sets HGG.out [.int .i64 (partV c0 pt).id, .int .i64 (partV c0 pt).base, .int .i64 (partV c0 pt).size, .bool (partV c0 pt).keep, .slice A8 m8 k8] 0 BS.out)) (fun hHeld => ?_)
              clear hK K
              have P9 := Lib.hid (ZB.out.sets [.int .i64 (partV c0 pt).id, .int .i64 (partV c0 pt).base, .int .i64 (partV c0 pt).size, .bool (partV c0 pt).keep, .slice A8 m8 k8] rfl)
              have BR9 := Lib.hid (below_sets HGR.out [.int .i64 (partV c0 pt).id, .int .i64 (partV c0 pt).base, .int .i64 (partV c0 pt).size, .bool (partV c0 pt).keep, .slice A8 m8 k8] 0 BR.out)
              clear a0 a1 a2 a3 a4 f0 f1 f2 f3 f4
              refine wpAnyH_take (i := 13) (v := ?_) rfl (by kernel_rfl) (by kernel_rfl) (by kernel_rfl) (fun _ _ _ h => h) (Or.inl ⟨by rfl, ?_⟩) (by assumption) ?_
              rotate_left 1
              · intro w hSw; (try dsimp only at hSw); go_simp; (try with_reducible rfl)
              simp only [Act.put, List.getElem_toArray, List.getElem_cons_zero, List.getElem_cons_succ, List.setIfInBounds_toArray, List.set_cons_zero, List.set_cons_succ]
              refine wpAnyH_done (by kernel_rfl) ?_ _
              clear hHeld
              go_wp2_with fail
              go_meet
              exact ⟨gg, m8, k8, A8, rfl, rfl, P9.out, HM8.out, BR9.out⟩
          case rest =>
          obtain ⟨g5, m5, k5, A5, rfl, rfl, -, -, hb⟩ := hcut
          rw [HHP.out]
          replace O3 := Lib.hid (own_bv O3.out hb)
          replace BD := Lib.hid (BD.out.trans (hb.mono BD.out.size))
          clear hb p1
          obtain ⟨ws, hws⟩ : ∃ x, x = wc := ⟨_, rfl⟩
          subst hws
          have p1 := (X.out.to BD.out).at (j := 0) rfl
          rw [HA.out] at p1
          have p2 := (BD.out.cell (p := ⟨bb, o + k * 2 + 1, none⟩) HBB.out).trans HCK.out
          go_wp2_with fail
          go_roundw
          case rel => first | exact ⟨k + 1, HLT.out, by go_num, O3.out, BD.out⟩ | ((repeat apply Exists.intro); exact ⟨⟨k + 1, HLT.out, by go_num, O3.out, BD.out⟩, rfl⟩)
          case measure => simp [intOf]; omega
        · obtain rfl : k = x0.nw := by have := HK.out; omega
          skip
          go_wp2_with fail
          clear hlt p1
          go_loopw [10, 11, 12, 13, 14] (fun s10 s11 s12 s13 s14 wr => ∃ k : Nat, k ≤ x0.nc ∧ s10 = .int .i64 (k : Int) ∧ wr.ownsRow wB.heap.size 42 2 (.slice A3 x0.np k3) x0.np (winsV (regsP c0)) ∧ Below wB.heap.size wB wr) (fun s10 _ _ _ _ _ => x0.nc - (intOf s10).toNat)
          case atStart => exact ⟨0, Nat.zero_le _, rfl, O3.out, BD.out⟩
          case round =>
            clear O3 BD HK
            obtain ⟨k, hk, rfl, ho, hbel⟩ := hrel
            have O3 := Lib.hid ho
            have BD := Lib.hid hbel
            have HK := Lib.hid hk
            clear ho hbel hk
            have p1 := (X.out.to BD.out).at (j := 2) rfl
            by_cases hlt : k < x0.nc
            · have hltI : (k : Int) < (x0.nc : Int) := by omega
              have HLT := Lib.hid hlt
              have hwk : IntKind.i64.wrap ((k : Int) + 1) = (k : Int) + 1 := by have := HNC.out; rw [IntKind.wrap_i64]; omega
              obtain ⟨bb, o, hA, y0, y1, y2, y3, y4⟩ := R.out.cc.at_ hlt
              have HBB : Hid (bb < wB.heap.size) := cell_block y0
              have HA := Lib.hid hA
              have hch := VA.out.chs k (by rw [R.out.cc.1]; exact hlt)
              obtain ⟨fr, hfr⟩ : ∃ x, (chAt c0.cs k).fr = x := ⟨_, rfl⟩
              obtain ⟨ds, hds⟩ : ∃ x, (chAt c0.cs k).dst = x := ⟨_, rfl⟩
              rw [hfr] at y1
              rw [hds] at y2
              rw [hfr, hds] at hch
              have HCK := Lib.hid y1
              have HCK2 := Lib.hid y2
              have HH1 := Lib.hid hch.1
              have HH2 := Lib.hid hch.2
              clear hA y0 y1 y2 y3 y4 hlt hch hfr hds
              go_upto_region 22 with (fail)
              go_cut [11, 12] from 126 to 160 (fun s t wx => PtB c0 fr wr s t wx)
              case first =>
                obtain ⟨wd, hwd⟩ : ∃ wd, wr.drew = wd := ⟨_, rfl⟩
                have BR : Hid (Below wr.heap.size wr wd) := by (show Below _ _ _); rw [← hwd]; exact (Below.refl _ wr).drew
                refine wp_region_held_drew (S := (fun w' => Below wB.heap.size wB w')) (by kernel_rfl) (BD.out.drew) (fun hHeld => ?_)
                rw [hwd] at hHeld ⊢
                clear hwd
                have BS := Lib.hid hHeld
                refine wpAnyH_take (i := 0) (v := ?_) rfl (by kernel_rfl) (by kernel_rfl) (by kernel_rfl) (fun _ _ _ h => h) (Or.inl ⟨by rfl, ?_⟩) (by assumption) ?_
                rotate_left 1
                · intro w hSw; (try dsimp only at hSw); have t1 := (X.out.to hSw).at (j := 0) rfl; have t2 := (X.out.to hSw).at (j := 1) rfl; have t3 := (X.out.to hSw).at (j := 2) rfl; go_simp; (try with_reducible rfl)
                simp only [Act.put, List.getElem_toArray, List.getElem_cons_zero, List.getElem_cons_succ, List.setIfInBounds_toArray, List.set_cons_zero, List.set_cons_succ]
                refine wpAnyH_take (i := 1) (v := ?_) rfl (by kernel_rfl) (by kernel_rfl) (by kernel_rfl) (fun _ _ _ h => h) (Or.inl ⟨by rfl, ?_⟩) (by assumption) ?_
                rotate_left 1
                · intro w hSw; (try dsimp only at hSw); go_simp; (try with_reducible rfl)
                simp only [Act.put, List.getElem_toArray, List.getElem_cons_zero, List.getElem_cons_succ, List.setIfInBounds_toArray, List.set_cons_zero, List.set_cons_succ]
                refine wpAnyH_take (i := 2) (v := ?_) rfl (by kernel_rfl) (by kernel_rfl) (by kernel_rfl) (fun _ _ _ h => h) (Or.inl ⟨by rfl, ?_⟩) (by assumption) ?_
                rotate_left 1
                · intro w hSw; (try dsimp only at hSw); have t1 := (X.out.to hSw).at (j := 2) rfl; rw [HA.out] at t1; go_simp; (try with_reducible rfl)
                simp only [Act.put, List.getElem_toArray, List.getElem_cons_zero, List.getElem_cons_succ, List.setIfInBounds_toArray, List.set_cons_zero, List.set_cons_succ]
                refine wpAnyH_take (i := 3) (v := ?_) rfl (by kernel_rfl) (by kernel_rfl) (by kernel_rfl) (fun _ _ _ h => h) (Or.inl ⟨by rfl, ?_⟩) (by assumption) ?_
                rotate_left 1
                · intro w hSw; (try dsimp only at hSw); go_simp; (try with_reducible rfl)
                simp only [Act.put, List.getElem_toArray, List.getElem_cons_zero, List.getElem_cons_succ, List.setIfInBounds_toArray, List.set_cons_zero, List.set_cons_succ]
                refine wpAnyH_take (i := 4) (v := ?_) rfl (by kernel_rfl) (by kernel_rfl) (by kernel_rfl) (fun _ _ _ h => h) (Or.inl ⟨by rfl, ?_⟩) (by assumption) ?_
                rotate_left 1
                · intro w hSw; (try dsimp only at hSw); go_simp; (try with_reducible rfl)
                simp only [Act.put, List.getElem_toArray, List.getElem_cons_zero, List.getElem_cons_succ, List.setIfInBounds_toArray, List.set_cons_zero, List.set_cons_succ]
                refine wpAnyH_take (i := 5) (v := ?_) rfl (by kernel_rfl) (by kernel_rfl) (by kernel_rfl) (fun _ _ _ h => h) (Or.inl ⟨by rfl, ?_⟩) (by assumption) ?_
                rotate_left 1
                · intro w hSw; (try dsimp only at hSw); go_simp; (try with_reducible rfl)
                simp only [Act.put, List.getElem_toArray, List.getElem_cons_zero, List.getElem_cons_succ, List.setIfInBounds_toArray, List.set_cons_zero, List.set_cons_succ]
                refine wpAnyH_take (i := 6) (v := ?_) rfl (by kernel_rfl) (by kernel_rfl) (by kernel_rfl) (fun _ _ _ h => h) (Or.inl ⟨by rfl, ?_⟩) (by assumption) ?_
                rotate_left 1
                · intro w hSw; (try dsimp only at hSw); have t1 := (hSw.cell (p := ⟨bb, o + k * 5 + 1, none⟩) HBB.out).trans HCK.out; go_simp; (try with_reducible rfl)
                simp only [Act.put, List.getElem_toArray, List.getElem_cons_zero, List.getElem_cons_succ, List.setIfInBounds_toArray, List.set_cons_zero, List.set_cons_succ]
                refine wpAnyH_ready (rs := [7, 11]) (by kernel_rfl) (by simp) ?_
                refine AllReadyH.cons rfl (fun K hK => ?_) (AllReadyH.cons rfl (fun K hK => ?_) AllReadyH.nil)
                · skip
                  go_simp
                  refine (wPart x0 c0 fr wd (R.out.to BS.out) HNP.out).mono ?_
                  rintro e we ⟨A8, m8, k8, rfl, ho, hm1, hm2, hb⟩
                  dsimp only
                  have HM8 : Hid (m8 = (partV c0 fr).img.length) := ho.1.1.symm
                  replace BR := Lib.hid (BR.out.trans (hb.mono BR.out.size))
                  replace BS := Lib.hid (BS.out.trans (hb.mono BS.out.size))
                  clear ho hm1 hm2 hb hHeld
                  go_wp2_with fail
                  refine hK.out _ _ (BS.out) (fun hHeld => ?_)
                  clear hK K
                  refine wpAnyH_take (i := 8) (v := ?_) rfl (by kernel_rfl) (by kernel_rfl) (by kernel_rfl) (fun _ _ _ h => h) (Or.inl ⟨by rfl, ?_⟩) (by assumption) ?_
                  rotate_left 1
                  · intro w hSw; (try dsimp only at hSw); go_simp; (try with_reducible rfl)
                  simp only [Act.put, List.getElem_toArray, List.getElem_cons_zero, List.getElem_cons_succ, List.setIfInBounds_toArray, List.set_cons_zero, List.set_cons_succ]
                  refine wpAnyH_take (i := 9) (v := ?_) rfl (by kernel_rfl) (by kernel_rfl) (by kernel_rfl) (fun _ _ _ h => h) (Or.inl ⟨by rfl, ?_⟩) (by assumption) ?_
                  rotate_left 1
                  · intro w hSw; (try dsimp only at hSw); go_simp; (try with_reducible rfl)
                  simp only [Act.put, List.getElem_toArray, List.getElem_cons_zero, List.getElem_cons_succ, List.setIfInBounds_toArray, List.set_cons_zero, List.set_cons_succ]
                  refine wpAnyH_take (i := 10) (v := ?_) rfl (by kernel_rfl) (by kernel_rfl) (by kernel_rfl) (fun _ _ _ h => h) (Or.inl ⟨by rfl, ?_⟩) (by assumption) ?_
                  rotate_left 1
                  · intro w hSw; (try dsimp only at hSw); go_simp; (try with_reducible rfl)
                  simp only [Act.put, List.getElem_toArray, List.getElem_cons_zero, List.getElem_cons_succ, List.setIfInBounds_toArray, List.set_cons_zero, List.set_cons_succ]
                  refine wpAnyH_ready (rs := [11]) (by kernel_rfl) (by simp) ?_
                  refine AllReadyH.cons rfl (fun K hK => ?_) AllReadyH.nil
                  go_simp
                  refine hK.out _ _ ((BS.out.alloc BS.out.size (.cells #[.int .i64 0, .int .i64 0, .int .i64 0, .bool false, .slice none 0 0] 45))) (fun hHeld => ?_)
                  clear hK K
                  have hal := (Below.refl we.heap.size we).alloc (Nat.le_refl _) (.cells #[.int .i64 0, .int .i64 0, .int .i64 0, .bool false, .slice none 0 0] 45)
                  have ZB := Lib.hid (Bx.new we 45 [.int .i64 0, .int .i64 0, .int .i64 0, .bool false, .slice none 0 0])
                  have hs1 := BR.out.size
                  have hs2 := BS.out.size
                  replace BR := Lib.hid (BR.out.trans (hal.mono BR.out.size))
                  replace BS := Lib.hid (BS.out.trans (hal.mono BS.out.size))
                  clear hal
                  generalize hgg : we.heap.size = gg at *
                  have HGG := Lib.hid hs2
                  have HGR := Lib.hid hs1
                  replace hgg := Lib.hid hgg
                  clear hs1 hs2
                  generalize we.alloc (.cells #[.int .i64 0, .int .i64 0, .int .i64 0, .bool false, .slice none 0 0] 45) = wf at *
                  have a0 := ZB.out.at (j := 0) rfl
                  have a1 := ZB.out.at (j := 1) rfl
                  have a2 := ZB.out.at (j := 2) rfl
                  have a3 := ZB.out.at (j := 3) rfl
                  have a4 := ZB.out.at (j := 4) rfl
                  have f0 := ZB.out.fz 0
                  have f1 := ZB.out.fz 1
                  have f2 := ZB.out.fz 2
                  have f3 := ZB.out.fz 3
                  have f4 := ZB.out.fz 4
                  refine wpAnyH_ready (rs := [12]) (by kernel_rfl) (by simp) ?_
                  refine AllReadyH.cons rfl (fun K hK => ?_) AllReadyH.nil
                  go_simp
                  refine hK.out _ _ ((below_sets HGG.out [.int .i64 (partV c0 fr).id, .int .i64 (partV c0 fr).base, .int .i64 (partV c0 fr).size, .bool (partV c0 fr).keep, .slice A8 m8 k8] 0 BS.out)) (fun hHeld => ?_)
                  clear hK K
                  have P9 := Lib.hid (ZB.out.sets [.int .i64 (partV c0 fr).id, .int .i64 (partV c0 fr).base, .int .i64 (partV c0 fr).size, .bool (partV c0 fr).keep, .slice A8 m8 k8] rfl)
                  have BR9 := Lib.hid (below_sets HGR.out [.int .i64 (partV c0 fr).id, .int .i64 (partV c0 fr).base, .int .i64 (partV c0 fr).size, .bool (partV c0 fr).keep, .slice A8 m8 k8] 0 BR.out)
                  clear a0 a1 a2 a3 a4 f0 f1 f2 f3 f4
                  refine wpAnyH_take (i := 13) (v := ?_) rfl (by kernel_rfl) (by kernel_rfl) (by kernel_rfl) (fun _ _ _ h => h) (Or.inl ⟨by rfl, ?_⟩) (by assumption) ?_
                  rotate_left 1
                  · intro w hSw; (try dsimp only at hSw); go_simp; (try with_reducible rfl)
                  simp only [Act.put, List.getElem_toArray, List.getElem_cons_zero, List.getElem_cons_succ, List.setIfInBounds_toArray, List.set_cons_zero, List.set_cons_succ]
                  refine wpAnyH_done (by kernel_rfl) ?_ _
                  clear hHeld
                  go_wp2_with fail
                  go_meet
                  exact ⟨gg, m8, k8, A8, rfl, rfl, P9.out, HM8.out, BR9.out⟩
                · skip
                  go_simp
                  refine hK.out _ _ ((BS.out.alloc BS.out.size (.cells #[.int .i64 0, .int .i64 0, .int .i64 0, .bool false, .slice none 0 0] 45))) (fun hHeld => ?_)
                  clear hK K
                  have hal := (Below.refl wd.heap.size wd).alloc (Nat.le_refl _) (.cells #[.int .i64 0, .int .i64 0, .int .i64 0, .bool false, .slice none 0 0] 45)
                  have ZB := Lib.hid (Bx.new wd 45 [.int .i64 0, .int .i64 0, .int .i64 0, .bool false, .slice none 0 0])
                  have hs1 := BR.out.size
                  have hs2 := BS.out.size
                  replace BR := Lib.hid (BR.out.trans (hal.mono BR.out.size))
                  replace BS := Lib.hid (BS.out.trans (hal.mono BS.out.size))
                  clear hal
                  generalize hgg : wd.heap.size = gg at *
                  have HGG := Lib.hid hs2
                  have HGR := Lib.hid hs1
                  replace hgg := Lib.hid hgg
                  clear hs1 hs2
                  generalize wd.alloc (.cells #[.int .i64 0, .int .i64 0, .int .i64 0, .bool false, .slice none 0 0] 45) = we at *
                  refine wpAnyH_ready (rs := [7]) (by kernel_rfl) (by simp) ?_
                  refine AllReadyH.cons rfl (fun K hK => ?_) AllReadyH.nil
                  go_simp
                  refine (wPart x0 c0 fr we (R.out.to BS.out) HNP.out).mono ?_
                  rintro e wf ⟨A8, m8, k8, rfl, ho, hm1, hm2, hb⟩
                  dsimp only
                  have HM8 : Hid (m8 = (partV c0 fr).img.length) := ho.1.1.symm
                  replace ZB := Lib.hid (ZB.out.to hb)
                  replace BR := Lib.hid (BR.out.trans (hb.mono BR.out.size))
                  replace BS := Lib.hid (BS.out.trans (hb.mono BS.out.size))
                  clear ho hm1 hm2 hb hHeld
                  go_wp2_with fail
                  refine hK.out _ _ (BS.out) (fun hHeld => ?_)
                  clear hK K
                  refine wpAnyH_take (i := 8) (v := ?_) rfl (by kernel_rfl) (by kernel_rfl) (by kernel_rfl) (fun _ _ _ h => h) (Or.inl ⟨by rfl, ?_⟩) (by assumption) ?_
                  rotate_left 1
                  · intro w hSw; (try dsimp only at hSw); go_simp; (try with_reducible rfl)
                  simp only [Act.put, List.getElem_toArray, List.getElem_cons_zero, List.getElem_cons_succ, List.setIfInBounds_toArray, List.set_cons_zero, List.set_cons_succ]
                  refine wpAnyH_take (i := 9) (v := ?_) rfl (by kernel_rfl) (by kernel_rfl) (by kernel_rfl) (fun _ _ _ h => h) (Or.inl ⟨by rfl, ?_⟩) (by assumption) ?_
                  rotate_left 1
                  · intro w hSw; (try dsimp only at hSw); go_simp; (try with_reducible rfl)
                  simp only [Act.put, List.getElem_toArray, List.getElem_cons_zero, List.getElem_cons_succ, List.setIfInBounds_toArray, List.set_cons_zero, List.set_cons_succ]
                  refine wpAnyH_take (i := 10) (v := ?_) rfl (by kernel_rfl) (by kernel_rfl) (by kernel_rfl) (fun _ _ _ h => h) (Or.inl ⟨by rfl, ?_⟩) (by assumption) ?_
                  rotate_left 1
                  · intro w hSw; (try dsimp only at hSw); go_simp; (try with_reducible rfl)
                  simp only [Act.put, List.getElem_toArray, List.getElem_cons_zero, List.getElem_cons_succ, List.setIfInBounds_toArray, List.set_cons_zero, List.set_cons_succ]
                  have a0 := ZB.out.at (j := 0) rfl
                  have a1 := ZB.out.at (j := 1) rfl
                  have a2 := ZB.out.at (j := 2) rfl
                  have a3 := ZB.out.at (j := 3) rfl
                  have a4 := ZB.out.at (j := 4) rfl
                  have f0 := ZB.out.fz 0
                  have f1 := ZB.out.fz 1
                  have f2 := ZB.out.fz 2
                  have f3 := ZB.out.fz 3
                  have f4 := ZB.out.fz 4
                  refine wpAnyH_ready (rs := [12]) (by kernel_rfl) (by simp) ?_
                  refine AllReadyH.cons rfl (fun K hK => ?_) AllReadyH.nil
                  go_simp
                  refine hK.out _ _ ((below_sets HGG.out [.int .i64 (partV c0 fr).id, .int .i64 (partV c0 fr).base, .int .i64 (partV c0 fr).size, .bool (partV c0 fr).keep, .slice A8 m8 k8] 0 BS.out)) (fun hHeld => ?_)
                  clear hK K
                  have P9 := Lib.hid (ZB.out.sets [.int .i64 (partV c0 fr).id, .int .i64 (partV c0 fr).base, .int .i64 (partV c0 fr).size, .bool (partV c0 fr).keep, .slice A8 m8 k8] rfl)
                  have BR9 := Lib.hid (below_sets HGR.out [.int .i64 (partV c0 fr).id, .int .i64 (partV c0 fr).base, .int .i64 (partV c0 fr).size, .bool (partV c0 fr).keep, .slice A8 m8 k8] 0 BR.out)
                  clear a0 a1 a2 a3 a4 f0 f1 f2 f3 f4
                  refine wpAnyH_take (i := 13) (v := ?_) rfl (by kernel_rfl) (by kernel_rfl) (by kernel_rfl) (fun _ _ _ h => h) (Or.inl ⟨by rfl, ?_⟩) (by assumption) ?_
                  rotate_left 1
                  · intro w hSw; (try dsimp only at hSw); go_simp; (try with_reducible rfl)
                  simp only [Act.put, List.getElem_toArray, List.getElem_cons_zero, List.getElem_cons_succ, List.setIfInBounds_toArray, List.set_cons_zero, List.set_cons_succ]
                  refine wpAnyH_done (by kernel_rfl) ?_ _
                  clear hHeld
                  go_wp2_with fail
                  go_meet
                  exact ⟨gg, m8, k8, A8, rfl, rfl, P9.out, HM8.out, BR9.out⟩
              case rest =>
              obtain ⟨g5, m5, k5, A5, rfl, rfl, -, -, hb⟩ := hcut
              rw [HH1.out]
              replace O3 := Lib.hid (own_bv O3.out hb)
              replace BD := Lib.hid (BD.out.trans (hb.mono BD.out.size))
              clear hb p1
              obtain ⟨wr, hws⟩ : ∃ x, x = wc := ⟨_, rfl⟩
              subst hws
              go_upto_region 23 with (fail)
              go_cut [13, 14] from 126 to 160 (fun s t wx => PtB c0 ds wr s t wx)
              case first =>
                obtain ⟨wd, hwd⟩ : ∃ wd, wr.drew = wd := ⟨_, rfl⟩
                have BR : Hid (Below wr.heap.size wr wd) := by (show Below _ _ _); rw [← hwd]; exact (Below.refl _ wr).drew
                refine wp_region_held_drew (S := (fun w' => Below wB.heap.size wB w')) (by kernel_rfl) (BD.out.drew) (fun hHeld => ?_)
                rw [hwd] at hHeld ⊢
                clear hwd
                have BS := Lib.hid hHeld
                refine wpAnyH_take (i := 0) (v := ?_) rfl (by kernel_rfl) (by kernel_rfl) (by kernel_rfl) (fun _ _ _ h => h) (Or.inl ⟨by rfl, ?_⟩) (by assumption) ?_
                rotate_left 1
                · intro w hSw; (try dsimp only at hSw); have t1 := (X.out.to hSw).at (j := 0) rfl; have t2 := (X.out.to hSw).at (j := 1) rfl; have t3 := (X.out.to hSw).at (j := 2) rfl; go_simp; (try with_reducible rfl)
                simp only [Act.put, List.getElem_toArray, List.getElem_cons_zero, List.getElem_cons_succ, List.setIfInBounds_toArray, List.set_cons_zero, List.set_cons_succ]
                refine wpAnyH_take (i := 1) (v := ?_) rfl (by kernel_rfl) (by kernel_rfl) (by kernel_rfl) (fun _ _ _ h => h) (Or.inl ⟨by rfl, ?_⟩) (by assumption) ?_
                rotate_left 1
                · intro w hSw; (try dsimp only at hSw); go_simp; (try with_reducible rfl)
                simp only [Act.put, List.getElem_toArray, List.getElem_cons_zero, List.getElem_cons_succ, List.setIfInBounds_toArray, List.set_cons_zero, List.set_cons_succ]
                refine wpAnyH_take (i := 2) (v := ?_) rfl (by kernel_rfl) (by kernel_rfl) (by kernel_rfl) (fun _ _ _ h => h) (Or.inl ⟨by rfl, ?_⟩) (by assumption) ?_
                rotate_left 1
                · intro w hSw; (try dsimp only at hSw); have t1 := (X.out.to hSw).at (j := 2) rfl; rw [HA.out] at t1; go_simp; (try with_reducible rfl)
                simp only [Act.put, List.getElem_toArray, List.getElem_cons_zero, List.getElem_cons_succ, List.setIfInBounds_toArray, List.set_cons_zero, List.set_cons_succ]
                refine wpAnyH_take (i := 3) (v := ?_) rfl (by kernel_rfl) (by kernel_rfl) (by kernel_rfl) (fun _ _ _ h => h) (Or.inl ⟨by rfl, ?_⟩) (by assumption) ?_
                rotate_left 1
                · intro w hSw; (try dsimp only at hSw); go_simp; (try with_reducible rfl)
                simp only [Act.put, List.getElem_toArray, List.getElem_cons_zero, List.getElem_cons_succ, List.setIfInBounds_toArray, List.set_cons_zero, List.set_cons_succ]
                refine wpAnyH_take (i := 4) (v := ?_) rfl (by kernel_rfl) (by kernel_rfl) (by kernel_rfl) (fun _ _ _ h => h) (Or.inl ⟨by rfl, ?_⟩) (by assumption) ?_
                rotate_left 1
                · intro w hSw; (try dsimp only at hSw); go_simp; (try with_reducible rfl)
                simp only [Act.put, List.getElem_toArray, List.getElem_cons_zero, List.getElem_cons_succ, List.setIfInBounds_toArray, List.set_cons_zero, List.set_cons_succ]
                refine wpAnyH_take (i := 5) (v := ?_) rfl (by kernel_rfl) (by kernel_rfl) (by kernel_rfl) (fun _ _ _ h => h) (Or.inl ⟨by rfl, ?_⟩) (by assumption) ?_
                rotate_left 1
                · intro w hSw; (try dsimp only at hSw); go_simp; (try with_reducible rfl)
                simp only [Act.put, List.getElem_toArray, List.getElem_cons_zero, List.getElem_cons_succ, List.setIfInBounds_toArray, List.set_cons_zero, List.set_cons_succ]
                refine wpAnyH_take (i := 6) (v := ?_) rfl (by kernel_rfl) (by kernel_rfl) (by kernel_rfl) (fun _ _ _ h => h) (Or.inl ⟨by rfl, ?_⟩) (by assumption) ?_
                rotate_left 1
                · intro w hSw; (try dsimp only at hSw); have t1 := (hSw.cell (p := ⟨bb, o + k * 5 + 2, none⟩) HBB.out).trans HCK2.out; go_simp; (try with_reducible rfl)
                simp only [Act.put, List.getElem_toArray, List.getElem_cons_zero, List.getElem_cons_succ, List.setIfInBounds_toArray, List.set_cons_zero, List.set_cons_succ]
                refine wpAnyH_ready (rs := [7, 11]) (by kernel_rfl) (by simp) ?_
                refine AllReadyH.cons rfl (fun K hK => ?_) (AllReadyH.cons rfl (fun K hK => ?_) AllReadyH.nil)
                · skip
                  go_simp
                  refine (wPart x0 c0 ds wd (R.out.to BS.out) HNP.out).mono ?_
                  rintro e we ⟨A8, m8, k8, rfl, ho, hm1, hm2, hb⟩
                  dsimp only
                  have HM8 : Hid (m8 = (partV c0 ds).img.length) := ho.1.1.symm
                  replace BR := Lib.hid (BR.out.trans (hb.mono BR.out.size))
                  replace BS := Lib.hid (BS.out.trans (hb.mono BS.out.size))
                  clear ho hm1 hm2 hb hHeld
                  go_wp2_with fail
                  refine hK.out _ _ (BS.out) (fun hHeld => ?_)
                  clear hK K
                  refine wpAnyH_take (i := 8) (v := ?_) rfl (by kernel_rfl) (by kernel_rfl) (by kernel_rfl) (fun _ _ _ h => h) (Or.inl ⟨by rfl, ?_⟩) (by assumption) ?_
                  rotate_left 1
                  · intro w hSw; (try dsimp only at hSw); go_simp; (try with_reducible rfl)
                  simp only [Act.put, List.getElem_toArray, List.getElem_cons_zero, List.getElem_cons_succ, List.setIfInBounds_toArray, List.set_cons_zero, List.set_cons_succ]
                  refine wpAnyH_take (i := 9) (v := ?_) rfl (by kernel_rfl) (by kernel_rfl) (by kernel_rfl) (fun _ _ _ h => h) (Or.inl ⟨by rfl, ?_⟩) (by assumption) ?_
                  rotate_left 1
                  · intro w hSw; (try dsimp only at hSw); go_simp; (try with_reducible rfl)
                  simp only [Act.put, List.getElem_toArray, List.getElem_cons_zero, List.getElem_cons_succ, List.setIfInBounds_toArray, List.set_cons_zero, List.set_cons_succ]
                  refine wpAnyH_take (i := 10) (v := ?_) rfl (by kernel_rfl) (by kernel_rfl) (by kernel_rfl) (fun _ _ _ h => h) (Or.inl ⟨by rfl, ?_⟩) (by assumption) ?_
                  rotate_left 1
                  · intro w hSw; (try dsimp only at hSw); go_simp; (try with_reducible rfl)
                  simp only [Act.put, List.getElem_toArray, List.getElem_cons_zero, List.getElem_cons_succ, List.setIfInBounds_toArray, List.set_cons_zero, List.set_cons_succ]
                  refine wpAnyH_ready (rs := [11]) (by kernel_rfl) (by simp) ?_
                  refine AllReadyH.cons rfl (fun K hK => ?_) AllReadyH.nil
                  go_simp
                  refine hK.out _ _ ((BS.out.alloc BS.out.size (.cells #[.int .i64 0, .int .i64 0, .int .i64 0, .bool false, .slice none 0 0] 45))) (fun hHeld => ?_)
                  clear hK K
                  have hal := (Below.refl we.heap.size we).alloc (Nat.le_refl _) (.cells #[.int .i64 0, .int .i64 0, .int .i64 0, .bool false, .slice none 0 0] 45)
                  have ZB := Lib.hid (Bx.new we 45 [.int .i64 0, .int .i64 0, .int .i64 0, .bool false, .slice none 0 0])
                  have hs1 := BR.out.size
                  have hs2 := BS.out.size
                  replace BR := Lib.hid (BR.out.trans (hal.mono BR.out.size))
                  replace BS := Lib.hid (BS.out.trans (hal.mono BS.out.size))
                  clear hal
                  generalize hgg : we.heap.size = gg at *
                  have HGG := Lib.hid hs2
                  have HGR := Lib.hid hs1
                  replace hgg := Lib.hid hgg
                  clear hs1 hs2
                  generalize we.alloc (.cells #[.int .i64 0, .int .i64 0, .int .i64 0, .bool false, .slice none 0 0] 45) = wf at *
                  have a0 := ZB.out.at (j := 0) rfl
                  have a1 := ZB.out.at (j := 1) rfl
                  have a2 := ZB.out.at (j := 2) rfl
                  have a3 := ZB.out.at (j := 3) rfl
                  have a4 := ZB.out.at (j := 4) rfl
                  have f0 := ZB.out.fz 0
                  have f1 := ZB.out.fz 1
                  have f2 := ZB.out.fz 2
                  have f3 := ZB.out.fz 3
                  have f4 := ZB.out.fz 4
                  refine wpAnyH_ready (rs := [12]) (by kernel_rfl) (by simp) ?_
                  refine AllReadyH.cons rfl (fun K hK => ?_) AllReadyH.nil
                  go_simp
                  refine hK.out _ _ ((below_sets HGG.out [.int .i64 (partV c0 ds).id, .int .i64 (partV c0 ds).base, .int .i64 (partV c0 ds).size, .bool (partV c0 ds).keep, .slice A8 m8 k8] 0 BS.out)) (fun hHeld => ?_)
                  clear hK K
                  have P9 := Lib.hid (ZB.out.sets [.int .i64 (partV c0 ds).id, .int .i64 (partV c0 ds).base, .int .i64 (partV c0 ds).size, .bool (partV c0 ds).keep, .slice A8 m8 k8] rfl)
                  have BR9 := Lib.hid (below_sets HGR.out [.int .i64 (partV c0 ds).id, .int .i64 (partV c0 ds).base, .int .i64 (partV c0 ds).size, .bool (partV c0 ds).keep, .slice A8 m8 k8] 0 BR.out)
                  clear a0 a1 a2 a3 a4 f0 f1 f2 f3 f4
                  refine wpAnyH_take (i := 13) (v := ?_) rfl (by kernel_rfl) (by kernel_rfl) (by kernel_rfl) (fun _ _ _ h => h) (Or.inl ⟨by rfl, ?_⟩) (by assumption) ?_
                  rotate_left 1
                  · intro w hSw; (try dsimp only at hSw); go_simp; (try with_reducible rfl)
                  simp only [Act.put, List.getElem_toArray, List.getElem_cons_zero, List.getElem_cons_succ, List.setIfInBounds_toArray, List.set_cons_zero, List.set_cons_succ]
                  refine wpAnyH_done (by kernel_rfl) ?_ _
                  clear hHeld
                  go_wp2_with fail
                  go_meet
                  exact ⟨gg, m8, k8, A8, rfl, rfl, P9.out, HM8.out, BR9.out⟩
                · skip
                  go_simp
                  refine hK.out _ _ ((BS.out.alloc BS.out.size (.cells #[.int .i64 0, .int .i64 0, .int .i64 0, .bool false, .slice none 0 0] 45))) (fun hHeld => ?_)
                  clear hK K
                  have hal := (Below.refl wd.heap.size wd).alloc (Nat.le_refl _) (.cells #[.int .i64 0, .int .i64 0, .int .i64 0, .bool false, .slice none 0 0] 45)
                  have ZB := Lib.hid (Bx.new wd 45 [.int .i64 0, .int .i64 0, .int .i64 0, .bool false, .slice none 0 0])
                  have hs1 := BR.out.size
                  have hs2 := BS.out.size
                  replace BR := Lib.hid (BR.out.trans (hal.mono BR.out.size))
                  replace BS := Lib.hid (BS.out.trans (hal.mono BS.out.size))
                  clear hal
                  generalize hgg : wd.heap.size = gg at *
                  have HGG := Lib.hid hs2
                  have HGR := Lib.hid hs1
                  replace hgg := Lib.hid hgg
                  clear hs1 hs2
                  generalize wd.alloc (.cells #[.int .i64 0, .int .i64 0, .int .i64 0, .bool false, .slice none 0 0] 45) = we at *
                  refine wpAnyH_ready (rs := [7]) (by kernel_rfl) (by simp) ?_
                  refine AllReadyH.cons rfl (fun K hK => ?_) AllReadyH.nil
                  go_simp
                  refine (wPart x0 c0 ds we (R.out.to BS.out) HNP.out).mono ?_
                  rintro e wf ⟨A8, m8, k8, rfl, ho, hm1, hm2, hb⟩
                  dsimp only
                  have HM8 : Hid (m8 = (partV c0 ds).img.length) := ho.1.1.symm
                  replace ZB := Lib.hid (ZB.out.to hb)
                  replace BR := Lib.hid (BR.out.trans (hb.mono BR.out.size))
                  replace BS := Lib.hid (BS.out.trans (hb.mono BS.out.size))
                  clear ho hm1 hm2 hb hHeld
                  go_wp2_with fail
                  refine hK.out _ _ (BS.out) (fun hHeld => ?_)
                  clear hK K
                  refine wpAnyH_take (i := 8) (v := ?_) rfl (by kernel_rfl) (by kernel_rfl) (by kernel_rfl) (fun _ _ _ h => h) (Or.inl ⟨by rfl, ?_⟩) (by assumption) ?_
                  rotate_left 1
                  · intro w hSw; (try dsimp only at hSw); go_simp; (try with_reducible rfl)
                  simp only [Act.put, List.getElem_toArray, List.getElem_cons_zero, List.getElem_cons_succ, List.setIfInBounds_toArray, List.set_cons_zero, List.set_cons_succ]
                  refine wpAnyH_take (i := 9) (v := ?_) rfl (by kernel_rfl) (by kernel_rfl) (by kernel_rfl) (fun _ _ _ h => h) (Or.inl ⟨by rfl, ?_⟩) (by assumption) ?_
                  rotate_left 1
                  · intro w hSw; (try dsimp only at hSw); go_simp; (try with_reducible rfl)
                  simp only [Act.put, List.getElem_toArray, List.getElem_cons_zero, List.getElem_cons_succ, List.setIfInBounds_toArray, List.set_cons_zero, List.set_cons_succ]
                  refine wpAnyH_take (i := 10) (v := ?_) rfl (by kernel_rfl) (by kernel_rfl) (by kernel_rfl) (fun _ _ _ h => h) (Or.inl ⟨by rfl, ?_⟩) (by assumption) ?_
                  rotate_left 1
                  · intro w hSw; (try dsimp only at hSw); go_simp; (try with_reducible rfl)
                  simp only [Act.put, List.getElem_toArray, List.getElem_cons_zero, List.getElem_cons_succ, List.setIfInBounds_toArray, List.set_cons_zero, List.set_cons_succ]
                  have a0 := ZB.out.at (j := 0) rfl
                  have a1 := ZB.out.at (j := 1) rfl
                  have a2 := ZB.out.at (j := 2) rfl
                  have a3 := ZB.out.at (j := 3) rfl
                  have a4 := ZB.out.at (j := 4) rfl
                  have f0 := ZB.out.fz 0
                  have f1 := ZB.out.fz 1
                  have f2 := ZB.out.fz 2
                  have f3 := ZB.out.fz 3
                  have f4 := ZB.out.fz 4
                  refine wpAnyH_ready (rs := [12]) (by kernel_rfl) (by simp) ?_
                  refine AllReadyH.cons rfl (fun K hK => ?_) AllReadyH.nil
                  go_simp
                  refine hK.out _ _ ((below_sets HGG.out [.int .i64 (partV c0 ds).id, .int .i64 (partV c0 ds).base, .int .i64 (partV c0 ds).size, .bool (partV c0 ds).keep, .slice A8 m8 k8] 0 BS.out)) (fun hHeld => ?_)
                  clear hK K
                  have P9 := Lib.hid (ZB.out.sets [.int .i64 (partV c0 ds).id, .int .i64 (partV c0 ds).base, .int .i64 (partV c0 ds).size, .bool (partV c0 ds).keep, .slice A8 m8 k8] rfl)
                  have BR9 := Lib.hid (below_sets HGR.out [.int .i64 (partV c0 ds).id, .int .i64 (partV c0 ds).base, .int .i64 (partV c0 ds).size, .bool (partV c0 ds).keep, .slice A8 m8 k8] 0 BR.out)
                  clear a0 a1 a2 a3 a4 f0 f1 f2 f3 f4
                  refine wpAnyH_take (i := 13) (v := ?_) rfl (by kernel_rfl) (by kernel_rfl) (by kernel_rfl) (fun _ _ _ h => h) (Or.inl ⟨by rfl, ?_⟩) (by assumption) ?_
                  rotate_left 1
                  · intro w hSw; (try dsimp only at hSw); go_simp; (try with_reducible rfl)
                  simp only [Act.put, List.getElem_toArray, List.getElem_cons_zero, List.getElem_cons_succ, List.setIfInBounds_toArray, List.set_cons_zero, List.set_cons_succ]
                  refine wpAnyH_done (by kernel_rfl) ?_ _
                  clear hHeld
                  go_wp2_with fail
                  go_meet
                  exact ⟨gg, m8, k8, A8, rfl, rfl, P9.out, HM8.out, BR9.out⟩
              case rest =>
              obtain ⟨g6, m6, k6, A6, rfl, rfl, -, -, hb⟩ := hcut
              rw [HH2.out]
              replace O3 := Lib.hid (own_bv O3.out hb)
              replace BD := Lib.hid (BD.out.trans (hb.mono BD.out.size))
              clear hb
              obtain ⟨ws, hws⟩ : ∃ x, x = wc := ⟨_, rfl⟩
              subst hws
              go_wp2_with fail
              go_roundw
              case rel => first | exact ⟨k + 1, HLT.out, by go_num, O3.out, BD.out⟩ | ((repeat apply Exists.intro); exact ⟨⟨k + 1, HLT.out, by go_num, O3.out, BD.out⟩, rfl⟩)
              case measure => simp [intOf]; omega
            · obtain rfl : k = x0.nc := by have := HK.out; omega
              skip
              obtain ⟨hq1, hq2, hq3⟩ := own_capV O3.out
              have HRR : Hid (allR (regsP c0) = 0) := VA.out.regs
              go_wp2_with fail
              clear hlt p1
              refine (wAllR A3 x0.np k3 (regsP c0) wr (RdG.of_ownV O3.out) hq2 hq3).mono ?_
              rw [HRR.out]
              rintro e we2 ⟨rfl, hb⟩
              replace B := Lib.hid ((B.out.trans (BD.out.mono B.out.size)).trans (hb.mono (B.out.trans (BD.out.mono B.out.size)).size))
              clear hb hq1 hq2 hq3
              go_wp2_with fail
              refine (lAwakeV _).mono ?_
              rintro e wz ⟨rfl, hb⟩
              have BZ := Lib.hid (B.out.trans (hb.mono B.out.size))
              clear hb
              go_wp2_with fail
              go_ret
              exact ⟨rfl, BZ.out⟩

set_option maxRecDepth 100000 in
theorem lifted (os : Os) (started : os.Started) (H : Type) (enc : TypeId × Value → H) :
    ReturnsInHanded {} Try.checked os 4 .any (Rows.validPartsSpec.pre6 enc Try.prog Try.f4 Rows.validPartsRow.domain false) (Rows.validPartsSpec.post enc Try.prog Try.f4 false true false false) := by
  refine returnsInHanded_of_change_sized (C := Try.checked) own started (by kernel_rfl) Try.func4
    (ChangeSpec.witness6 (enc := enc) (C := Try.checked) false ⟨#[], #[.agg #[.slice none 0 0, .slice none 0 0, .slice none 0 0]], []⟩ 8 (by kernel_rfl) (by kernel_rfl) (by kernel_rfl) (by kernel_rfl)) ?_
  intro W base args ds gs before hval0 hW hcnd hsz0 _
  have hval : ∀ (j : Nat) t v, Try.f4.params[j]? = some t → args[j]? = some v → Value.okWide Try.prog W .any base t v := hval0
  have hsz : (DataW.weightsEach Try.prog (Try.f4.params.toList ++ Rows.validPartsSpec.plain.varTypes Try.prog) (ds ++ gs)).all (· ≤ reachBytes) = true := hsz0
  have hW' := hW
  obtain ⟨p, q, hA0, hV, rfl, hfz, hnd⟩ := hW
  have hA : DataW.TrodAll enc Try.prog W 0 (fun _ => true) true Try.f4.params.toList args.toList ds p := hA0
  rw [Try.params4] at hA hval hsz
  obtain ⟨v0, vs0, d0, ds0, p0, q0, hargs, rfl, rfl, h0, r0⟩ := trodAll_cons hA
  obtain ⟨rfl, rfl, rfl⟩ := trodAll_nil r0
  obtain rfl : args = #[v0] := by cases args; simp_all
  obtain ⟨rfl, rfl⟩ := trodVars_none hV
  have sz0 : ∀ x ∈ d0.weights Try.prog 26, x ≤ reachBytes := fun x hx => by simpa using List.all_eq_true.1 hsz _ (DataW.weights_mem_each (j := 0) rfl rfl x hx)
  have k0 := h0
  have lt0 : ∀ x ∈ p0, x.block < W.heap.size := by obtain ⟨m, hm⟩ := k0; exact DataW.trod_lt m _ _ _ hm
  obtain ⟨x0, c0, rfl, w0⟩ := open_config (hval 0 26 v0 rfl rfl) h0 sz0
  clear hA0 hval0
  refine (walk x0 c0 W w0).mono fun e W' ⟨he, bel⟩ => ?_
  subst he
  exact ⟨_, rfl, _, _, _, [], _, [], hW', trodAll_mk1 (shut_bool Try.underlying4 _), (trodAll_cons_mk (Below.trod laidOut (by kernel_rfl) (of_decide_eq_true (by kernel_rfl)) k0 bel lt0) trodAll_mk0), rfl, bel.frame _, fun h => by cases h⟩

theorem over : Rows.validPartsRow.holds Try.pinned (OpenSpec.ofChange Rows.validPartsSpec) :=
  OpenClaim.holds_of_wide 4 Try.f4 rfl rfl rfl rfl rfl rfl rfl ⟨rfl, rfl, rfl, rfl, rfl⟩ rfl rfl rfl rfl rfl (by kernel_rfl) Try.func4 (by kernel_rfl)
    (of_decide_eq_true (by kernel_rfl)) (by unfold Func.isWrapper; first | (rw [if_pos (by decide +kernel)]; kernel_rfl) | (rw [if_neg (by decide +kernel)]; exact ⟨rfl, rfl⟩))
    (fun os started H enc _ => lifted os started H enc)

theorem proved : Rows.ValidPartsSaid := over
end Go.Proofs.Ytnaegbnijbdgbaa.validParts
