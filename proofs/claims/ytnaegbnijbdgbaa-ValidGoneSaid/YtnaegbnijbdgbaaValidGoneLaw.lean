/- For any configuration and any number the law ValidGone of citadellaw12 returns true: a partition that is taken away from a valid configuration leaves just those faults that a window, a channel that names it makes (valid.All, Fits; schedule.Ticks). -/
import Derived.Test.YtnaegbnijbdgbaaRows
import Derived.Test.YtnaegbnijbdgbaaVaXq
import Derived.Test.YtnaegbnijbdgbaaVaNq
import Derived.Test.YtnaegbnijbdgbaaVaCq
import Derived.Test.YtnaegbnijbdgbaaCfLq
import Derived.Test.YtnaegbnijbdgbaaCfLc
import Derived.Deep.DeepCutAuto
import Derived.SizedLaws
import Derived.WalkKit
import Derived.ProofKit
import Derived.OpenShut
import Derived.ShutString
import Derived.ChangeOld
import Derived.Below
namespace Go.Proofs.Ytnaegbnijbdgbaa.validGone
open Go.ChangeShapes Go.WideShapes Go.ChangeAt Go.RowKit
open Go.ChangeMaps (open_string shut_string)
set_option linter.unusedVariables false
set_option linter.unusedSimpArgs false

theorem own : ownKnob Try.prog.godebug = none := by kernel_rfl
theorem laidOut : laidOutB Try.prog = true := by kernel_rfl

theorem vtQ : VT Try.prog 23 45 5 56 (.agg #[.int .i64 0, .int .i64 0, .int .i64 0, .bool false, .slice none 0 0]) := ⟨Try.underlying23, by kernel_rfl, rfl, by decide⟩
/-- A row of numbers of the call's own, while the law goes on. -/
structure ESt (w1 wx : World) (s : Value) (l : List Int) : Prop where
  row : wx.ownsRow w1.heap.size 33 1 s l.length (l.map iv)
  bel : Below w1.heap.size w1 wx
theorem names_no {cs : List Ch} {id : Int} {n : Nat} (h : ∀ j, j < n → (chAt cs j).fr ≠ id ∧ (chAt cs j).dst ≠ id) : namesC cs id n = false :=
  anyN_no.2 fun j hj => by have := h j hj; simp [this.1, this.2]
theorem names_at {cs : List Ch} {id : Int} {n k : Nat} (hk : k < n) (h : (chAt cs k).fr = id ∨ (chAt cs k).dst = id) : namesC cs id n = true :=
  anyN_iff.2 ⟨k, hk, by rcases h with h | h <;> simp [h]⟩
set_option maxRecDepth 1000000 in
set_option maxHeartbeats 4000000 in
theorem walk (x0 : CV) (c0 : Cf) (a1 : Int) (w : World) (w0 : RdCf w w.heap.size x0 c0 ∧ x0.kw ≤ 9223372036854775807 ∧ x0.kp ≤ 9223372036854775807 ∧ x0.kc ≤ 9223372036854775807 ∧ CfWf c0) (w1 : (Lit.int .i64 a1).wf = true) :
    Calls Try.prog 6 #[.agg #[.slice x0.aw x0.nw x0.kw, .slice x0.ap x0.np x0.kp, .slice x0.ac x0.nc x0.kc], .int .i64 a1] w fun e w' => e = .returned (.bool true) ∧ Below w.heap.size w w' := by
  obtain ⟨r0, -, -, -, -⟩ := w0
  obtain ⟨wa, hwa, hb1, hx, hr⟩ := one_box w r0
  have HWA := Lib.hid hwa
  have B := Lib.hid hb1
  have X := Lib.hid hx
  have R := Lib.hid hr
  clear r0 hwa hb1 hx hr
  go_enter Try.func6, Try.ntmps6
  go_upto_region 1 with (fail)
  rw [HWA.out]
  clear HWA
  have p1 := X.out.at (j := 0) rfl
  have p2 := X.out.at (j := 1) rfl
  have p3 := X.out.at (j := 2) rfl
  go_wp2_with fail
  refine (lGreat x0 c0 wa R.out).mono ?_
  rintro e wb ⟨rfl, hb⟩
  replace X := Lib.hid (X.out.to hb)
  replace R := Lib.hid (R.out.to hb)
  replace B := Lib.hid (B.out.trans (hb.mono B.out.size))
  clear hb p1 p2 p3
  cases hg : greatC c0
  rotate_left 1
  · skip
    go_wp2_with fail
    refine (lAwakeV _).mono ?_
    rintro e wz ⟨rfl, hb⟩
    have BZ := Lib.hid (B.out.trans (hb.mono B.out.size))
    clear hb
    go_wp2_with fail
    go_ret
    exact ⟨rfl, BZ.out⟩
  obtain ⟨hnw, hnp, hnc, him⟩ := bounds_of R.out hg
  have HNW := Lib.hid hnw
  have HNP := Lib.hid hnp
  have HNC := Lib.hid hnc
  have HIM := Lib.hid him
  clear hg hnw hnp hnc him
  have p1 := X.out.at (j := 0) rfl
  have p2 := X.out.at (j := 1) rfl
  have p3 := X.out.at (j := 2) rfl
  go_wp2_with fail
  refine (wFitsV x0 c0 wb R.out HNW.out HNP.out HNC.out).mono ?_
  rintro e wk ⟨rfl, hb⟩
  replace X := Lib.hid (X.out.to hb)
  replace R := Lib.hid (R.out.to hb)
  replace B := Lib.hid (B.out.trans (hb.mono B.out.size))
  clear hb p1 p2 p3
  cases hf : fitsV c0
  · skip
    go_wp2_with fail
    refine (lAwakeV _).mono ?_
    rintro e wz ⟨rfl, hb⟩
    have BZ := Lib.hid (B.out.trans (hb.mono B.out.size))
    clear hb
    go_wp2_with fail
    go_ret
    exact ⟨rfl, BZ.out⟩
  have VA := Lib.hid (val_of hf)
  clear hf
  have LP : Hid (c0.ps.length = x0.np) := R.out.pp.1
  have LC : Hid (c0.cs.length = x0.nc) := R.out.cc.1
  have p1 := X.out.at (j := 0) rfl
  have p2 := X.out.at (j := 1) rfl
  have p3 := X.out.at (j := 2) rfl
  by_cases h2 : x0.np < 2
  · have hI : (x0.np : Int) < 2 := by omega
    clear h2
    go_wp2_with fail
    refine (lAwakeV _).mono ?_
    rintro e wz ⟨rfl, hb⟩
    have BZ := Lib.hid (B.out.trans (hb.mono B.out.size))
    clear hb
    go_wp2_with fail
    go_ret
    exact ⟨rfl, BZ.out⟩
  have hI : ¬ (x0.np : Int) < 2 := by omega
  have HN0 : Hid (0 < x0.np) := by (show _ < _); omega
  have HN2 : Hid (2 ≤ c0.ps.length) := by (show _ ≤ _); rw [LP.out]; omega
  clear h2
  obtain ⟨k, hk, hke⟩ := idx_ofC a1 HN0.out (by have := HNP.out; omega)
  have HK := Lib.hid hk
  have hum : IntKind.u64.wrap (x0.np : Int) = (x0.np : Int) := by have := HNP.out; rw [IntKind.wrap_u64]; omega
  have hne : ¬ x0.np = 0 := by have := HN0.out; omega
  clear hk
  go_upto_region 4 with (fail)
  rw [hke]
  clear hke hum hne hI
  have KL : Hid (k < c0.ps.length) := by (show _ < _); rw [LP.out]; exact HK.out
  have hkI : (k : Int) < (x0.np : Int) := by have := HK.out; omega
  obtain ⟨bb, o, A', mm, cc, hA, y0, -⟩ := R.out.pp.at_ HK.out
  obtain ⟨id, hid⟩ : ∃ i, (ptAt c0.ps k).id = i := ⟨_, rfl⟩
  have HID := Lib.hid hid
  rw [hid] at y0
  rw [hA] at p2
  clear hid
  go_upto_region 5 with (fail)
  rw [← hA] at p2
  clear hA y0 hkI
  go_wp2_with fail
  refine (lCopiedX x0 c0 wk R.out HNW.out HNP.out HNC.out HIM.out).mono ?_
  rintro e wr ⟨v2, qt, rfl, hox, hb⟩
  have XC := Lib.hid X.out
  have RC := Lib.hid R.out
  have BC := Lib.hid hb
  clear X R hb p1 p2 p3
  obtain ⟨aw2, nw2, kw2, ap2, np2, kp2, ac2, nc2, kc2⟩ := v2
  obtain rfl : np2 = x0.np := by have h1 := hox.ps_len; have h2 := RC.out.pp.1; dsimp only at h1; omega
  obtain ⟨gc, hac, hgc, hgl, -⟩ := hox.at_ap HN0.out
  dsimp only at hac
  subst hac
  dsimp only [CV.val]
  have xd := Bx.new wr 26 [.slice aw2 nw2 kw2, .slice (some ⟨gc, 0, none⟩) x0.np kp2, .slice ac2 nc2 kc2]
  have hal := (Below.refl wr.heap.size wr).alloc (Nat.le_refl _) (.cells #[.slice aw2 nw2 kw2, .slice (some ⟨gc, 0, none⟩) x0.np kp2, .slice ac2 nc2 kc2] 26)
  have OX := Lib.hid (hox.to hal)
  have XE : Hid (Bx (wr.alloc (.cells #[.slice aw2 nw2 kw2, .slice (some ⟨gc, 0, none⟩) x0.np kp2, .slice ac2 nc2 kc2] 26)) wr.heap.size 26 [.slice aw2 nw2 kw2, .slice (some ⟨gc, 0, none⟩) x0.np kp2, .slice ac2 nc2 kc2]) := xd
  have HGC : Hid (wk.heap.size ≤ gc ∧ gc < wr.heap.size) := ⟨hgc, hgl⟩
  have HGE : Hid (wr.heap.size < (wr.alloc (.cells #[.slice aw2 nw2 kw2, .slice (some ⟨gc, 0, none⟩) x0.np kp2, .slice ac2 nc2 kc2] 26)).heap.size) := xd.lt
  have HQR := Lib.hid BC.out.size
  replace BC := Lib.hid (BC.out.trans (hal.mono BC.out.size))
  have N2 : Hid (nw2 ≤ 1000 ∧ nc2 ≤ 1000) := by (show _ ∧ _); have h1 := hox.nw_le; have h2 := hox.nc_le; have h3 := RC.out.ww.1; have h4 := RC.out.cc.1; dsimp only at h1 h2; have := HNW.out; have := HNC.out; constructor <;> omega
  have AP := Lib.hid (hox.ap (Nat.le_refl _))
  clear hox xd hal hgc hgl
  go_upto_region 6 with (fail)
  generalize wr.alloc (.cells #[.slice aw2 nw2 kw2, .slice (some ⟨gc, 0, none⟩) x0.np kp2, .slice ac2 nc2 kc2] 26) = ws at *
  obtain ⟨ge, hge⟩ : ∃ g, wr.heap.size = g := ⟨_, rfl⟩
  rw [hge] at XE HGC HGE AP HQR ⊢
  clear hge
  have HCC : Hid (x0.np ≤ kp2) := by (show _ ≤ _); have h1 := (own_capV OX.out.pp.row).2.1; have h2 := OX.out.np; dsimp only at h1 h2; omega
  replace OX := Lib.hid (OX.out.to ((Below.refl _ _).drew))
  replace XE := Lib.hid (XE.out.to ((Below.refl _ _).drew))
  replace BC := Lib.hid (BC.out.drew)
  obtain ⟨wt, hwt⟩ : ∃ x, ws.drew = x := ⟨_, rfl⟩
  replace HGE : Hid (ge < ws.drew.heap.size) := HGE.out
  rw [hwt] at OX XE BC HGE
  have HPP : Hid (wt.ownsRow wk.heap.size 45 5 (.slice (some ⟨gc, 0, none⟩) x0.np kp2) x0.np (partsV qt)) := by (show World.ownsRow _ _ _ _ _ _ _); have h1 := OX.out.pp.row; rw [OX.out.np] at h1; exact h1
  have shl : ∀ W : World, (Instr.slice 23 (.slice (some ⟨gc, 0, none⟩) x0.np kp2) none (some (.int .i64 (k : Int))) none).run Try.prog W = .ok (.slice (some ⟨gc, 0, none⟩) k kp2) W := fun W => sliceV_h vtQ _ (Nat.le_of_lt HK.out) HCC.out _ W
  obtain ⟨A4, c4, sl4, hr4⟩ := own_tailV vtQ (l := k + 1) HPP.out HK.out
  have sll : ∀ W : World, (Instr.slice 23 (.slice (some ⟨gc, 0, none⟩) x0.np kp2) (some (.int .i64 ((k : Int) + 1))) none none).run Try.prog W = .ok (.slice A4 (x0.np - (k + 1)) c4) W := fun W => by
    have := sl4 .i64 W
    rw [show ((k + 1 : Nat) : Int) = (k : Int) + 1 from by push_cast; rfl] at this
    exact this
  have hwj : IntKind.i64.wrap ((k : Int) + 1) = (k : Int) + 1 := by have := HK.out; have := HNP.out; rw [IntKind.wrap_i64]; omega
  have HR4 := Lib.hid hr4
  have OF := Lib.hid (own_frontV HPP.out (Nat.le_of_lt HK.out))
  clear sl4 hr4
  have HLD : Hid (((partsV qt).drop ((k + 1) * 5)).length = (x0.np - (k + 1)) * 5) := by (show _ = _); rw [List.length_drop, HPP.out.1, Nat.sub_mul]
  have HNK : Hid (¬ (Value.slice (some ⟨gc, 0, none⟩) k kp2).ownBlock = some ge) := by
    (show ¬ _)
    intro h
    have h2 := Option.some.inj (show some gc = some ge from h)
    have := HGC.out
    omega
  refine AnyE.start (m := 11) (S := (fun w' => Bx w' ge 26 [.slice aw2 nw2 kw2, .slice (some ⟨gc, 0, none⟩) x0.np kp2, .slice ac2 nc2 kc2])) (by kernel_rfl) ((by rw [hwt]; exact XE.out)) (fun hHeld => ?_)
  rw [hwt] at hHeld ⊢
  clear hwt
  refine AnyE.takeD (i := 0) (d := 40) (v := ?_) rfl rfl (by kernel_rfl) (by kernel_rfl) (by kernel_rfl) (by kernel_rfl) (fun _ _ _ h => h) (Or.inl ⟨by rfl, ?_⟩) (by assumption) ?_
  rotate_left 1
  · intro w hSw; (try dsimp only at hSw); go_simp; (try with_reducible rfl)
  simp only [List.setIfInBounds_toArray, List.set_cons_zero, List.set_cons_succ]
  refine AnyE.takeD (i := 1) (d := 41) (v := ?_) rfl rfl (by kernel_rfl) (by kernel_rfl) (by kernel_rfl) (by kernel_rfl) (fun _ _ _ h => h) (Or.inl ⟨by rfl, ?_⟩) (by assumption) ?_
  rotate_left 1
  · intro w hSw; (try dsimp only at hSw); have t1 := hSw.at (j := 1) rfl; go_simp; (try with_reducible rfl)
  simp only [List.setIfInBounds_toArray, List.set_cons_zero, List.set_cons_succ]
  refine AnyE.takeD (i := 2) (d := 42) (v := ?_) rfl rfl (by kernel_rfl) (by kernel_rfl) (by kernel_rfl) (by kernel_rfl) (fun _ _ _ h => h) (Or.inl ⟨by rfl, ?_⟩) (by assumption) ?_
  rotate_left 1
  · intro w hSw; (try dsimp only at hSw); go_simp; (try with_reducible rfl)
  simp only [List.setIfInBounds_toArray, List.set_cons_zero, List.set_cons_succ]
  refine AnyE.takeD (i := 3) (d := 43) (v := ?_) rfl rfl (by kernel_rfl) (by kernel_rfl) (by kernel_rfl) (by kernel_rfl) (fun _ _ _ h => h) (Or.inl ⟨by rfl, ?_⟩) (by assumption) ?_
  rotate_left 1
  · intro w hSw; (try dsimp only at hSw); go_simp; (try with_reducible rfl)
  simp only [List.setIfInBounds_toArray, List.set_cons_zero, List.set_cons_succ]
  refine AnyE.takeD (i := 4) (d := 44) (v := ?_) rfl rfl (by kernel_rfl) (by kernel_rfl) (by kernel_rfl) (by kernel_rfl) (fun _ _ _ h => h) (Or.inl ⟨by rfl, ?_⟩) (by assumption) ?_
  rotate_left 1
  · intro w hSw; (try dsimp only at hSw); go_simp; (try with_reducible rfl)
  simp only [List.setIfInBounds_toArray, List.set_cons_zero, List.set_cons_succ]
  refine AnyE.takeD (i := 5) (d := 45) (v := ?_) rfl rfl (by kernel_rfl) (by kernel_rfl) (by kernel_rfl) (by kernel_rfl) (fun _ _ _ h => h) (Or.inl ⟨by rfl, ?_⟩) (by assumption) ?_
  rotate_left 1
  · intro w hSw; (try dsimp only at hSw); have t1 := hSw.at (j := 1) rfl; go_simp; (try with_reducible rfl)
  simp only [List.setIfInBounds_toArray, List.set_cons_zero, List.set_cons_succ]
  refine AnyE.takeD (i := 6) (d := 46) (v := ?_) rfl rfl (by kernel_rfl) (by kernel_rfl) (by kernel_rfl) (by kernel_rfl) (fun _ _ _ h => h) (Or.inl ⟨by rfl, ?_⟩) (by assumption) ?_
  rotate_left 1
  · intro w hSw; (try dsimp only at hSw); go_simp; (try with_reducible rfl)
  simp only [List.setIfInBounds_toArray, List.set_cons_zero, List.set_cons_succ]
  refine AnyE.takeD (i := 7) (d := 47) (v := ?_) rfl rfl (by kernel_rfl) (by kernel_rfl) (by kernel_rfl) (by kernel_rfl) (fun _ _ _ h => h) (Or.inl ⟨by rfl, ?_⟩) (by assumption) ?_
  rotate_left 1
  · intro w hSw; (try dsimp only at hSw); go_simp; (try with_reducible rfl)
  simp only [List.setIfInBounds_toArray, List.set_cons_zero, List.set_cons_succ]
  refine AnyE.takeD (i := 8) (d := 48) (v := ?_) rfl rfl (by kernel_rfl) (by kernel_rfl) (by kernel_rfl) (by kernel_rfl) (fun _ _ _ h => h) (Or.inl ⟨by rfl, ?_⟩) (by assumption) ?_
  rotate_left 1
  · intro w hSw; (try dsimp only at hSw); go_simp; (try with_reducible rfl)
  simp only [List.setIfInBounds_toArray, List.set_cons_zero, List.set_cons_succ]
  refine AnyE.ready (rs := [9]) (by kernel_rfl) (by simp) ?_
  refine ReadyE.cons rfl (fun K hK => ?_) ReadyE.nil
  refine step_pushV vtQ rfl (.tmp 43) (.tmp 48) rfl rfl rfl OF.out (m := x0.np - (k + 1)) (news := (partsV qt).drop ((k + 1) * 5)) HLD.out HR4.out (fun u hu => partsV_one _ u (List.mem_of_mem_drop hu)) BC.out.size (by have := HK.out; have := HNP.out; omega) ?_
  intro v9 w9 hown9 hk9 hv9
  obtain ⟨A9, k9, rfl⟩ := own_slV hown9
  have O9 := Lib.hid hown9
  have K9 := Lib.hid hk9
  have HV9 := Lib.hid hv9
  have XE9 := Lib.hid (XE.out.kept hk9 HNK.out)
  clear hown9 hk9 hv9
  refine hK.out _ _ (XE9.out) (fun hHeld => ?_)
  clear hK K
  simp only [Act.put, List.getElem_toArray, List.getElem_cons_zero, List.getElem_cons_succ, List.setIfInBounds_toArray, List.set_cons_zero, List.set_cons_succ]
  clear shl sll hwj
  refine AnyE.takeD (i := 10) (d := 50) (v := ?_) rfl rfl (by kernel_rfl) (by kernel_rfl) (by kernel_rfl) (by kernel_rfl) (fun _ _ _ h => h) (Or.inl ⟨by rfl, ?_⟩) (by assumption) ?_
  rotate_left 1
  · intro w hSw; (try dsimp only at hSw); go_simp; (try with_reducible rfl)
  simp only [List.setIfInBounds_toArray, List.set_cons_zero, List.set_cons_succ]
  have c2 := XE9.out.at (j := 1) rfl
  have f2 := XE9.out.fz 1
  refine AnyE.ready (rs := [11]) (by kernel_rfl) (by simp) ?_
  refine ReadyE.last rfl (by kernel_rfl) (fun K hK => ?_)
  go_simp
  refine hK.out _ _ trivial (fun _ => ?_)
  clear hK K
  refine AnyE.done (by kernel_rfl) ?_ _
  clear c2 f2 hHeld
  have KX := (Keep.refl (· = ge) w9).setCell ⟨ge, 1, none⟩ (.slice A9 (k + (x0.np - (k + 1))) k9) rfl
  have XE10 := Lib.hid (XE9.out.set 1 (.slice A9 (k + (x0.np - (k + 1))) k9))
  have R10 := Lib.hid (OX.out.lessP rfl HK.out O9.out K9.out HV9.out KX HGE.out AP.out)
  have BC10 := Lib.hid ((K9.out.below BC.out BC.out.size (fun b hb => by
    have h2 := Option.some.inj (show some gc = some b from hb)
    have := HGC.out
    omega)).setCell (p := ⟨ge, 1, none⟩) HQR.out (.slice A9 (k + (x0.np - (k + 1))) k9))
  clear KX O9 K9 HV9 XE9 OX OF XE BC HR4 HLD HNK HPP
  obtain ⟨n9, hn9⟩ : ∃ n, k + (x0.np - (k + 1)) = n := ⟨_, rfl⟩
  have HN9 : Hid (n9 ≤ 1000) := by (show _ ≤ _); have := HK.out; have := HNP.out; omega
  dsimp only at R10
  rw [hn9] at XE10 R10 BC10 ⊢
  clear hn9
  generalize w9.setCell ⟨ge, 1, none⟩ (.slice A9 n9 k9) = wu at *
  have HV := Lib.hid (VA.out.gone KL.out HN2.out)
  rw [HID.out] at HV
  have X := Lib.hid (XC.out.to BC10.out)
  have p1 := X.out.at (j := 0) rfl
  have R := Lib.hid (RC.out.to BC10.out)
  go_wp2_with fail
  refine (Sch.ticks x0.aw x0.nw x0.kw c0.ws id wu R.out.ww (by have := HNW.out; omega)).mono ?_
  rintro e wv ⟨rfl, hb⟩
  replace R10 := Lib.hid (R10.out.to hb)
  replace XE10 := Lib.hid (XE10.out.to hb)
  replace BC10 := Lib.hid (BC10.out.trans (hb.mono BC10.out.size))
  clear hb p1 X R
  obtain ⟨tk, htk⟩ : ∃ t, ticksW c0.ws id = t := ⟨_, rfl⟩
  rw [htk] at HV ⊢
  clear htk
  go_upto_if 55 with (fail)
  obtain ⟨tb, htb⟩ : ∃ b, decide (0 < tk) = b := ⟨_, rfl⟩
  rw [htb] at HV ⊢
  clear htb
  go_cut [8] from 51 to 58 (fun s8 wx => ESt wv wx s8 (more tb 90))
  case first =>
    have V : Hid (ESt wv wv (.slice none 0 0) []) := ⟨⟨rfl, .inl ⟨rfl, rfl⟩⟩, Below.refl _ _⟩
    cases tb
    · go_wp2_with fail
      go_meet
      rw [more_no]
      exact V.out
    · have hal := (Below.refl wv.heap.size wv).alloc (Nat.le_refl _) (.cells #[.int .i64 90] 33)
      have O7 := Lib.hid (own_bv V.out.row hal)
      have N7 := Lib.hid (cells_newV wv 33 [.int .i64 90])
      have B8 := Lib.hid hal
      clear hal
      go_wp2_with (at_builtin; refine wpList_pushV vtE rfl (.tmp 56) (.tmp 57) rfl rfl rfl O7.out (m := 1) (news := [.int .i64 90]) rfl (fun _ => ⟨_, rfl, N7.out⟩) (one_int _) B8.out.size (by (show (0 + 1) * (8 + 1) ≤ 140737488355328); omega) ?_; intro v9 w9 hown9 hk9 hv9; obtain ⟨A9, c9, rfl⟩ := own_slV hown9; have B9 := Lib.hid (hk9.below B8.out B8.out.size (fun k hk => (O7.out.lt k hk).1)); have O9 := Lib.hid hown9; clear hown9 hk9 hv9)
      go_meet
      rw [more_yes]
      exact ⟨O9.out, B9.out⟩
  case rest =>
  obtain ⟨A1, k1, hs1⟩ := own_slV hcut.row
  subst hs1
  obtain ⟨l1, hl1⟩ : ∃ l, more tb 90 = l := ⟨_, rfl⟩
  rw [hl1] at hcut HV ⊢
  have HLL : Hid (l1.length ≤ 1) := by (show _ ≤ _); rw [← hl1]; exact more_len _ _
  obtain ⟨n1, hn1⟩ : ∃ n, n = l1.length := ⟨_, rfl⟩
  have HN1 := Lib.hid hn1
  rw [← hn1]
  have V : Hid (ESt wv wc (.slice A1 n1 k1) l1) := by (show ESt _ _ _ _); rw [hn1]; exact hcut
  clear hcut hn1 hl1
  obtain ⟨wy, hwy⟩ : ∃ x, x = wc := ⟨_, rfl⟩
  subst hwy
  have BV := Lib.hid V.out.bel
  have O1 : Hid (wy.ownsRow wv.heap.size 33 1 (.slice A1 n1 k1) n1 (l1.map iv)) := by (show World.ownsRow _ _ _ _ _ _ _); have h := V.out.row; rw [← HN1.out] at h; exact h
  have HVW := Lib.hid V.out.bel.size
  clear V
  go_wp2_with fail
  go_loopw [8, 9] (fun s8 s9 wr => ∃ q : Nat, q ≤ x0.nc ∧ s9 = .int .i64 (q : Int) ∧ s8 = .slice A1 n1 k1 ∧ (∀ j, j < q → (chAt c0.cs j).fr ≠ id ∧ (chAt c0.cs j).dst ≠ id) ∧ wr = wy) (fun _ s9 _ => x0.nc - (intOf s9).toNat)
  case atStart => exact ⟨0, Nat.zero_le _, rfl, rfl, fun j hj => absurd hj (Nat.not_lt_zero _), rfl⟩
  case round =>
    obtain ⟨q, hq, rfl, rfl, hno, rfl⟩ := hrel
    have HQ := Lib.hid hq
    have NO := Lib.hid hno
    clear hq hno
    have BW := Lib.hid (BC10.out.trans (BV.out.mono BC10.out.size))
    have X := Lib.hid (XC.out.to BW.out)
    have R := Lib.hid (RC.out.to BW.out)
    have p3 := X.out.at (j := 2) rfl
    by_cases hlt : q < x0.nc
    · have hltI : (q : Int) < (x0.nc : Int) := by omega
      have HLT := Lib.hid hlt
      have hwk : IntKind.i64.wrap ((q : Int) + 1) = (q : Int) + 1 := by have := HNC.out; rw [IntKind.wrap_i64]; omega
      obtain ⟨b8, o8, hA8, y0, y1, y2, -⟩ := R.out.cc.at_ hlt
      obtain ⟨fr, hfr⟩ : ∃ f, (chAt c0.cs q).fr = f := ⟨_, rfl⟩
      obtain ⟨ds, hds⟩ : ∃ f, (chAt c0.cs q).dst = f := ⟨_, rfl⟩
      have HFR := Lib.hid hfr
      have HDS := Lib.hid hds
      rw [hfr] at y1
      rw [hds] at y2
      rw [hA8] at p3
      clear hfr hds hlt y0
      clear hA8
      by_cases hf : fr = id
      · have HL2' : Hid (namesC c0.cs id c0.cs.length = true) := names_at (k := q) (by rw [LC.out]; exact HLT.out) (.inl (by rw [HFR.out]; exact hf))
        have hnm1 : (fr == id) = true := beq_iff_eq.2 hf
        clear hf
        have hal := (Below.refl wr.heap.size wr).alloc (Nat.le_refl _) (.cells #[.int .i64 100] 33)
        have O7 := Lib.hid (own_bv O1.out hal)
        have N7 := Lib.hid (cells_newV wr 33 [.int .i64 100])
        have B8 := Lib.hid (show Below wv.heap.size wr (wr.alloc (.cells #[.int .i64 100] 33)) from hal.mono HVW.out)
        have HB9 := Lib.hid (Nat.le_trans HVW.out hal.size)
        have HN1L : Hid (n1 ≤ 1) := by (show _ ≤ _); have := HN1.out; have := HLL.out; omega
        clear hal
        go_wp2_with (at_builtin; refine wpList_pushV vtE rfl (.tmp 84) (.tmp 85) rfl rfl rfl O7.out (m := 1) (news := [.int .i64 100]) rfl (fun _ => ⟨_, rfl, N7.out⟩) (one_int _) HB9.out (by have := HN1L.out; omega) ?_; intro v9 w9 hown9 hk9 hv9; obtain ⟨A9', c9, rfl⟩ := own_slV hown9; have B9 := Lib.hid (hk9.below B8.out HB9.out (fun k hk => (O7.out.lt k hk).1)); have O9 := Lib.hid hown9; have BV9 := Lib.hid (BV.out.trans B9.out); have d1 := (XE10.out.to BV9.out).at (j := 0) rfl; have d2 := (XE10.out.to BV9.out).at (j := 1) rfl; have d3 := (XE10.out.to BV9.out).at (j := 2) rfl; clear hown9 hk9 hv9)
        clear y1 y2 p3 hltI hwk X R BW
        replace BV := BV9
        have Z := Lib.hid (RdZ.of_own (xs := l1 ++ [100]) (by rw [List.map_append]; exact O9.out))
        obtain ⟨l2, hl2⟩ : ∃ l, l1 ++ [100] = l := ⟨_, rfl⟩
        have HL2 : Hid (allV ⟨c0.ws, c0.ps.eraseIdx k, c0.cs⟩ = l2) := by (show _ = _); rw [HV.out, HL2'.out, more_yes, hl2]
        rw [hl2] at Z
        clear hl2
        replace R10 := Lib.hid (R10.out.to BV.out)
        replace BC10 := Lib.hid (BC10.out.trans (BV.out.mono BC10.out.size))
        refine (lIs ⟨aw2, nw2, kw2, A9, n9, k9, ac2, nc2, kc2⟩ _ _ _ _ _ _ R10.out Z.out N2.out.1 HN9.out N2.out.2).mono ?_
        rw [decide_eq_true HL2.out]
        rintro e wi ⟨rfl, hb⟩
        replace BC10 := Lib.hid (BC10.out.trans (hb.mono BC10.out.size))
        replace B := Lib.hid (B.out.trans (BC10.out.mono B.out.size))
        clear hb d1 d2 d3
        go_wp2_with fail
        refine (lAwakeV _).mono ?_
        rintro e wz ⟨rfl, hb⟩
        have BZ := Lib.hid (B.out.trans (hb.mono B.out.size))
        clear hb
        go_wp2_with fail
        go_ret
        exact ⟨rfl, BZ.out⟩
      have hnm1 : (fr == id) = false := beq_eq_false_iff_ne.2 hf
      by_cases hg : ds = id
      · have HL2' : Hid (namesC c0.cs id c0.cs.length = true) := names_at (k := q) (by rw [LC.out]; exact HLT.out) (.inr (by rw [HDS.out]; exact hg))
        have hnm2 : (ds == id) = true := beq_iff_eq.2 hg
        clear hf hg
        have hal := (Below.refl wr.heap.size wr).alloc (Nat.le_refl _) (.cells #[.int .i64 100] 33)
        have O7 := Lib.hid (own_bv O1.out hal)
        have N7 := Lib.hid (cells_newV wr 33 [.int .i64 100])
        have B8 := Lib.hid (show Below wv.heap.size wr (wr.alloc (.cells #[.int .i64 100] 33)) from hal.mono HVW.out)
        have HB9 := Lib.hid (Nat.le_trans HVW.out hal.size)
        have HN1L : Hid (n1 ≤ 1) := by (show _ ≤ _); have := HN1.out; have := HLL.out; omega
        clear hal
        go_wp2_with (at_builtin; refine wpList_pushV vtE rfl (.tmp 84) (.tmp 85) rfl rfl rfl O7.out (m := 1) (news := [.int .i64 100]) rfl (fun _ => ⟨_, rfl, N7.out⟩) (one_int _) HB9.out (by have := HN1L.out; omega) ?_; intro v9 w9 hown9 hk9 hv9; obtain ⟨A9', c9, rfl⟩ := own_slV hown9; have B9 := Lib.hid (hk9.below B8.out HB9.out (fun k hk => (O7.out.lt k hk).1)); have O9 := Lib.hid hown9; have BV9 := Lib.hid (BV.out.trans B9.out); have d1 := (XE10.out.to BV9.out).at (j := 0) rfl; have d2 := (XE10.out.to BV9.out).at (j := 1) rfl; have d3 := (XE10.out.to BV9.out).at (j := 2) rfl; clear hown9 hk9 hv9)
        clear y1 y2 p3 hltI hwk X R BW
        replace BV := BV9
        have Z := Lib.hid (RdZ.of_own (xs := l1 ++ [100]) (by rw [List.map_append]; exact O9.out))
        obtain ⟨l2, hl2⟩ : ∃ l, l1 ++ [100] = l := ⟨_, rfl⟩
        have HL2 : Hid (allV ⟨c0.ws, c0.ps.eraseIdx k, c0.cs⟩ = l2) := by (show _ = _); rw [HV.out, HL2'.out, more_yes, hl2]
        rw [hl2] at Z
        clear hl2
        replace R10 := Lib.hid (R10.out.to BV.out)
        replace BC10 := Lib.hid (BC10.out.trans (BV.out.mono BC10.out.size))
        refine (lIs ⟨aw2, nw2, kw2, A9, n9, k9, ac2, nc2, kc2⟩ _ _ _ _ _ _ R10.out Z.out N2.out.1 HN9.out N2.out.2).mono ?_
        rw [decide_eq_true HL2.out]
        rintro e wi ⟨rfl, hb⟩
        replace BC10 := Lib.hid (BC10.out.trans (hb.mono BC10.out.size))
        replace B := Lib.hid (B.out.trans (BC10.out.mono B.out.size))
        clear hb d1 d2 d3
        go_wp2_with fail
        refine (lAwakeV _).mono ?_
        rintro e wz ⟨rfl, hb⟩
        have BZ := Lib.hid (B.out.trans (hb.mono B.out.size))
        clear hb
        go_wp2_with fail
        go_ret
        exact ⟨rfl, BZ.out⟩
      have hnm2 : (ds == id) = false := beq_eq_false_iff_ne.2 hg
      have HNO : Hid ((chAt c0.cs q).fr ≠ id ∧ (chAt c0.cs q).dst ≠ id) := by (show _ ∧ _); rw [HFR.out, HDS.out]; exact ⟨hf, hg⟩
      clear hf hg
      go_wp2_with fail
      go_roundw
      case rel => exact ⟨q + 1, HLT.out, by go_num, by first | rfl | trivial, fun j hj => by
        rcases Nat.lt_or_ge j q with g | g
        · exact NO.out j g
        · obtain rfl : j = q := by omega
          exact HNO.out, by first | rfl | trivial⟩
      case measure => simp [intOf]; omega
    · obtain rfl : q = x0.nc := by have := HQ.out; omega
      have HL2 : Hid (allV ⟨c0.ws, c0.ps.eraseIdx k, c0.cs⟩ = l1) := by (show _ = _); rw [HV.out, names_no (by rw [LC.out]; exact NO.out), more_no, List.append_nil]
      have Z := Lib.hid (RdZ.of_own O1.out)
      clear hlt R BW
      have d1 := (XE10.out.to BV.out).at (j := 0) rfl
      have d2 := (XE10.out.to BV.out).at (j := 1) rfl
      have d3 := (XE10.out.to BV.out).at (j := 2) rfl
      go_wp2_with fail
      clear p3 X
      replace R10 := Lib.hid (R10.out.to BV.out)
      replace BC10 := Lib.hid (BC10.out.trans (BV.out.mono BC10.out.size))
      refine (lIs ⟨aw2, nw2, kw2, A9, n9, k9, ac2, nc2, kc2⟩ _ _ _ _ _ _ R10.out Z.out N2.out.1 HN9.out N2.out.2).mono ?_
      rw [decide_eq_true HL2.out]
      rintro e wi ⟨rfl, hb⟩
      replace BC10 := Lib.hid (BC10.out.trans (hb.mono BC10.out.size))
      replace B := Lib.hid (B.out.trans (BC10.out.mono B.out.size))
      clear hb d1 d2 d3
      go_wp2_with fail
      refine (lAwakeV _).mono ?_
      rintro e wz ⟨rfl, hb⟩
      have BZ := Lib.hid (B.out.trans (hb.mono B.out.size))
      clear hb
      go_wp2_with fail
      go_ret
      exact ⟨rfl, BZ.out⟩

set_option maxRecDepth 100000 in
theorem lifted (os : Os) (started : os.Started) (H : Type) (enc : TypeId × Value → H) :
    ReturnsInHanded {} Try.checked os 6 .any (Rows.validGoneSpec.pre6 enc Try.prog Try.f6 Rows.validGoneRow.domain false) (Rows.validGoneSpec.post enc Try.prog Try.f6 false true false false) := by
  refine returnsInHanded_of_change_sized (C := Try.checked) own started (by kernel_rfl) Try.func6
    (ChangeSpec.witness6 (enc := enc) (C := Try.checked) false ⟨#[], #[.agg #[.slice none 0 0, .slice none 0 0, .slice none 0 0], .int .i64 0], []⟩ 8 (by kernel_rfl) (by kernel_rfl) (by kernel_rfl) (by kernel_rfl)) ?_
  intro W base args ds gs before hval0 hW hcnd hsz0 _
  have hval : ∀ (j : Nat) t v, Try.f6.params[j]? = some t → args[j]? = some v → Value.okWide Try.prog W .any base t v := hval0
  have hsz : (DataW.weightsEach Try.prog (Try.f6.params.toList ++ Rows.validGoneSpec.plain.varTypes Try.prog) (ds ++ gs)).all (· ≤ reachBytes) = true := hsz0
  have hW' := hW
  obtain ⟨p, q, hA0, hV, rfl, hfz, hnd⟩ := hW
  have hA : DataW.TrodAll enc Try.prog W 0 (fun _ => true) true Try.f6.params.toList args.toList ds p := hA0
  rw [Try.params6] at hA hval hsz
  obtain ⟨v0, vs0, d0, ds0, p0, q0, hargs, rfl, rfl, h0, r0⟩ := trodAll_cons hA
  obtain ⟨v1, vs1, d1, ds1, p1, q1, rfl, rfl, rfl, h1, r1⟩ := trodAll_cons r0
  obtain ⟨rfl, rfl, rfl⟩ := trodAll_nil r1
  obtain rfl : args = #[v0, v1] := by cases args; simp_all
  obtain ⟨rfl, rfl⟩ := trodVars_none hV
  have sz0 : ∀ x ∈ d0.weights Try.prog 26, x ≤ reachBytes := fun x hx => by simpa using List.all_eq_true.1 hsz _ (DataW.weights_mem_each (j := 0) rfl rfl x hx)
  have k0 := h0
  have lt0 : ∀ x ∈ p0, x.block < W.heap.size := by obtain ⟨m, hm⟩ := k0; exact DataW.trod_lt m _ _ _ hm
  obtain ⟨x0, c0, rfl, w0⟩ := open_config (hval 0 26 v0 rfl rfl) h0 sz0
  obtain ⟨a1, rfl, rfl, rfl, w1⟩ := open_int Try.underlying3 (hval 1 3 v1 rfl rfl) h1
  clear hA0 hval0
  refine (walk x0 c0 a1 W w0 w1).mono fun e W' ⟨he, bel⟩ => ?_
  subst he
  exact ⟨_, rfl, _, _, _, [], _, [], hW', trodAll_mk1 (shut_bool Try.underlying4 _), (trodAll_cons_mk (Below.trod laidOut (by kernel_rfl) (of_decide_eq_true (by kernel_rfl)) k0 bel lt0) (trodAll_cons_mk (shut_int Try.underlying3 w1) trodAll_mk0)), rfl, bel.frame _, fun h => by cases h⟩

theorem over : Rows.validGoneRow.holds Try.pinned (OpenSpec.ofChange Rows.validGoneSpec) :=
  OpenClaim.holds_of_wide 6 Try.f6 rfl rfl rfl rfl rfl rfl rfl ⟨rfl, rfl, rfl, rfl, rfl⟩ rfl rfl rfl rfl rfl (by kernel_rfl) Try.func6 (by kernel_rfl)
    (of_decide_eq_true (by kernel_rfl)) (by unfold Func.isWrapper; first | (rw [if_pos (by decide +kernel)]; kernel_rfl) | (rw [if_neg (by decide +kernel)]; exact ⟨rfl, rfl⟩))
    (fun os started H enc _ => lifted os started H enc)

theorem proved : Rows.ValidGoneSaid := over
end Go.Proofs.Ytnaegbnijbdgbaa.validGone
