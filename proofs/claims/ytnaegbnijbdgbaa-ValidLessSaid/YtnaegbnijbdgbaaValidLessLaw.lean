/- For any configuration and any two numbers the law ValidLess of citadellaw12 returns true: a valid configuration without a channel, with Keep turned about, or with an image that is no longer than its region, is valid (valid.Fits, All). -/
import Derived.Test.YtnaegbnijbdgbaaRows
import Derived.Test.YtnaegbnijbdgbaaVaXq
import Derived.Test.YtnaegbnijbdgbaaVaNq
import Derived.Test.YtnaegbnijbdgbaaVaCq
import Derived.Test.YtnaegbnijbdgbaaCfLq
import Derived.Test.YtnaegbnijbdgbaaCfLc
import Derived.Deep.DeepCutAuto
import Derived.SizedLaws
import Derived.WalkKit
import Derived.ProofKit
import Derived.OpenShut
import Derived.ShutString
import Derived.ChangeOld
import Derived.Below
namespace Go.Proofs.Ytnaegbnijbdgbaa.validLess
open Go.ChangeShapes Go.WideShapes Go.ChangeAt Go.RowKit
open Go.ChangeMaps (open_string shut_string)
set_option linter.unusedVariables false
set_option linter.unusedSimpArgs false

theorem own : ownKnob Try.prog.godebug = none := by kernel_rfl
theorem laidOut : laidOutB Try.prog = true := by kernel_rfl

theorem vtC : VT Try.prog 24 51 5 40 (.agg #[.int .i64 0, .int .i64 0, .int .i64 0, .int .i64 0, .int .i64 0]) := ⟨Try.underlying24, by kernel_rfl, rfl, by decide⟩
set_option maxRecDepth 1000000 in
set_option maxHeartbeats 4000000 in
theorem walk (x0 : CV) (c0 : Cf) (a1 : Int) (a2 : Int) (w : World) (w0 : RdCf w w.heap.size x0 c0 ∧ x0.kw ≤ 9223372036854775807 ∧ x0.kp ≤ 9223372036854775807 ∧ x0.kc ≤ 9223372036854775807 ∧ CfWf c0) (w1 : (Lit.int .i64 a1).wf = true) (w2 : (Lit.int .i64 a2).wf = true) :
    Calls Try.prog 5 #[.agg #[.slice x0.aw x0.nw x0.kw, .slice x0.ap x0.np x0.kp, .slice x0.ac x0.nc x0.kc], .int .i64 a1, .int .i64 a2] w fun e w' => e = .returned (.bool true) ∧ Below w.heap.size w w' := by
  obtain ⟨r0, -, -, -, -⟩ := w0
  obtain ⟨wa, hwa, hb1, hx, hr⟩ := one_box w r0
  have HWA := Lib.hid hwa
  have B := Lib.hid hb1
  have X := Lib.hid hx
  have R := Lib.hid hr
  clear r0 hwa hb1 hx hr
  go_enter Try.func5, Try.ntmps5
  go_upto_region 1 with (fail)
  rw [HWA.out]
  clear HWA
  have p1 := X.out.at (j := 0) rfl
  have p2 := X.out.at (j := 1) rfl
  have p3 := X.out.at (j := 2) rfl
  go_wp2_with fail
  refine (lGreat x0 c0 wa R.out).mono ?_
  rintro e wb ⟨rfl, hb⟩
  replace X := Lib.hid (X.out.to hb)
  replace R := Lib.hid (R.out.to hb)
  replace B := Lib.hid (B.out.trans (hb.mono B.out.size))
  clear hb p1 p2 p3
  cases hg : greatC c0
  rotate_left 1
  · skip
    go_wp2_with fail
    refine (lAwakeV _).mono ?_
    rintro e wz ⟨rfl, hb⟩
    have BZ := Lib.hid (B.out.trans (hb.mono B.out.size))
    clear hb
    go_wp2_with fail
    go_ret
    exact ⟨rfl, BZ.out⟩
  obtain ⟨hnw, hnp, hnc, him⟩ := bounds_of R.out hg
  have HNW := Lib.hid hnw
  have HNP := Lib.hid hnp
  have HNC := Lib.hid hnc
  have HIM := Lib.hid him
  clear hg hnw hnp hnc him
  have p1 := X.out.at (j := 0) rfl
  have p2 := X.out.at (j := 1) rfl
  have p3 := X.out.at (j := 2) rfl
  go_wp2_with fail
  refine (wFitsV x0 c0 wb R.out HNW.out HNP.out HNC.out).mono ?_
  rintro e wc ⟨rfl, hb⟩
  replace X := Lib.hid (X.out.to hb)
  replace R := Lib.hid (R.out.to hb)
  replace B := Lib.hid (B.out.trans (hb.mono B.out.size))
  clear hb p1 p2 p3
  cases hf : fitsV c0
  · skip
    go_wp2_with fail
    refine (lAwakeV _).mono ?_
    rintro e wz ⟨rfl, hb⟩
    have BZ := Lib.hid (B.out.trans (hb.mono B.out.size))
    clear hb
    go_wp2_with fail
    go_ret
    exact ⟨rfl, BZ.out⟩
  have VA := Lib.hid (val_of hf)
  clear hf
  have LP : Hid (c0.ps.length = x0.np) := R.out.pp.1
  have HN0 : Hid (0 < x0.np) := by (show _ < _); rw [← LP.out]; exact VA.out.pos
  have hn0 : ((x0.np : Int) == 0) = false := by rw [beq_eq_false_iff_ne]; have := HN0.out; omega
  have p1 := X.out.at (j := 0) rfl
  have p2 := X.out.at (j := 1) rfl
  have p3 := X.out.at (j := 2) rfl
  go_wp2_with fail
  clear hn0
  refine (lCopiedX x0 c0 wc R.out HNW.out HNP.out HNC.out HIM.out).mono ?_
  rintro e wd ⟨v1, qs, rfl, hox, hb⟩
  have XC := Lib.hid X.out
  have RC := Lib.hid R.out
  have HXW := Lib.hid X.out.lt
  have BC := Lib.hid hb
  clear X R hb p1 p2 p3
  obtain ⟨aw1, nw1, kw1, ap1, np1, kp1, ac1, nc1, kc1⟩ := v1
  obtain rfl : np1 = x0.np := by have := hox.ps_len; dsimp only at this; rw [← this]; exact LP.out
  obtain ⟨gp, hap, hgp, -, -⟩ := hox.at_ap HN0.out
  dsimp only at hap
  subst hap
  dsimp only [CV.val]
  have xd := Bx.new wd 26 [.slice aw1 nw1 kw1, .slice (some ⟨gp, 0, none⟩) x0.np kp1, .slice ac1 nc1 kc1]
  have hal := (Below.refl wd.heap.size wd).alloc (Nat.le_refl _) (.cells #[.slice aw1 nw1 kw1, .slice (some ⟨gp, 0, none⟩) x0.np kp1, .slice ac1 nc1 kc1] 26)
  have OX := Lib.hid (hox.to hal)
  have XD : Hid (Bx (wd.alloc (.cells #[.slice aw1 nw1 kw1, .slice (some ⟨gp, 0, none⟩) x0.np kp1, .slice ac1 nc1 kc1] 26)) wd.heap.size 26 [.slice aw1 nw1 kw1, .slice (some ⟨gp, 0, none⟩) x0.np kp1, .slice ac1 nc1 kc1]) := xd
  have HGP : Hid (wc.heap.size ≤ gp ∧ gp < wd.heap.size) := ⟨hgp, (hox.pp.row.lt gp rfl).2⟩
  replace BC := Lib.hid (BC.out.trans (hal.mono BC.out.size))
  have N1 : Hid (nw1 ≤ 1000 ∧ nc1 = x0.nc) := by (show _ ∧ _); have h1 := hox.nw_le; have h2 := hox.nc_le; have h3 := RC.out.ww.1; have h4 := RC.out.cc.1; dsimp only at h1 h2; have := HNW.out; constructor <;> omega
  clear hox xd hal hgp
  go_upto_region 4 with (fail)
  generalize wd.alloc (.cells #[.slice aw1 nw1 kw1, .slice (some ⟨gp, 0, none⟩) x0.np kp1, .slice ac1 nc1 kc1] 26) = we at *
  obtain ⟨gd, hgd⟩ : ∃ g, wd.heap.size = g := ⟨_, rfl⟩
  rw [hgd] at XD HGP ⊢
  clear hgd
  obtain ⟨k, hk, hke⟩ := idx_ofC a1 HN0.out (by have := HNP.out; omega)
  have HK := Lib.hid hk
  have hum : IntKind.u64.wrap (x0.np : Int) = (x0.np : Int) := by have := HNP.out; rw [IntKind.wrap_u64]; omega
  have hne : ¬ x0.np = 0 := by have := HN0.out; omega
  have hkI : (k : Int) < (x0.np : Int) := by omega
  have d2 := XD.out.at (j := 1) rfl
  clear hk
  go_upto_region 5 with (fail)
  clear d2 hum hne
  have KL : Hid (k < c0.ps.length) := by (show _ < _); rw [LP.out]; exact HK.out
  have HSZ := Lib.hid (VA.out.sizes KL.out)
  have HIL := Lib.hid (VA.out.img k KL.out)
  obtain ⟨Ai, mi, ci, z0, z1, z2, z3, z4⟩ := OX.out.cells rfl HK.out
  clear z0 z1 z2 z4
  rw [hke]
  clear hke
  obtain ⟨kb, hkb⟩ : ∃ b, (ptAt c0.ps k).keep = b := ⟨_, rfl⟩
  rw [hkb] at z3
  have d2 := XD.out.at (j := 1) rfl
  have SS : Hid (we.cell? ⟨gd, 1, none⟩ = some (.slice (some ⟨gp, 0, none⟩) x0.np kp1) ∧ we.cell? ⟨gp, k * 5 + 3, none⟩ = some (.bool kb)) := ⟨d2, z3⟩
  have FP : Hid (∀ j, we.frozen? ⟨gp, j, none⟩ = false) := by
    (show ∀ _, _)
    obtain ⟨g, e, -, -, h⟩ := OX.out.at_ap HN0.out
    injection e with e; injection e with e _
    subst e; exact h
  clear d2 z3 hkb
  obtain ⟨wf, hwf⟩ : ∃ x, we.drew = x := ⟨_, rfl⟩
  refine AnyE.start (m := 12) (S := (fun w' => w'.cell? ⟨gd, 1, none⟩ = some (.slice (some ⟨gp, 0, none⟩) x0.np kp1) ∧ w'.cell? ⟨gp, k * 5 + 3, none⟩ = some (.bool kb))) (by kernel_rfl) (SS.out) (fun hHeld => ?_)
  replace OX := Lib.hid (OX.out.to ((Below.refl _ _).drew))
  replace XD := Lib.hid (XD.out.to ((Below.refl _ _).drew))
  replace BC := Lib.hid (BC.out.drew)
  replace FP : Hid (∀ j, we.drew.frozen? ⟨gp, j, none⟩ = false) := FP.out
  replace SS : Hid (we.drew.cell? ⟨gd, 1, none⟩ = some (.slice (some ⟨gp, 0, none⟩) x0.np kp1) ∧ we.drew.cell? ⟨gp, k * 5 + 3, none⟩ = some (.bool kb)) := SS.out
  rw [hwf] at OX XD BC FP SS hHeld ⊢
  clear hwf
  refine AnyE.take (i := 0) (v := ?_) rfl (by kernel_rfl) (by kernel_rfl) (by kernel_rfl) (by kernel_rfl) (fun _ _ _ h => h) (Or.inl ⟨by rfl, ?_⟩) (by assumption) ?_
  rotate_left 1
  · intro w hSw; (try dsimp only at hSw); go_simp; (try with_reducible rfl)
  simp only [Act.put, List.getElem_toArray, List.getElem_cons_zero, List.getElem_cons_succ, List.setIfInBounds_toArray, List.set_cons_zero, List.set_cons_succ]
  refine AnyE.take (i := 1) (v := ?_) rfl (by kernel_rfl) (by kernel_rfl) (by kernel_rfl) (by kernel_rfl) (fun _ _ _ h => h) (Or.inl ⟨by rfl, ?_⟩) (by assumption) ?_
  rotate_left 1
  · intro w hSw; (try dsimp only at hSw); go_simp; (try with_reducible rfl)
  simp only [Act.put, List.getElem_toArray, List.getElem_cons_zero, List.getElem_cons_succ, List.setIfInBounds_toArray, List.set_cons_zero, List.set_cons_succ]
  refine AnyE.take (i := 2) (v := ?_) rfl (by kernel_rfl) (by kernel_rfl) (by kernel_rfl) (by kernel_rfl) (fun _ _ _ h => h) (Or.inl ⟨by rfl, ?_⟩) (by assumption) ?_
  rotate_left 1
  · intro w hSw; (try dsimp only at hSw); go_simp; (try with_reducible rfl)
  simp only [Act.put, List.getElem_toArray, List.getElem_cons_zero, List.getElem_cons_succ, List.setIfInBounds_toArray, List.set_cons_zero, List.set_cons_succ]
  refine AnyE.take (i := 3) (v := ?_) rfl (by kernel_rfl) (by kernel_rfl) (by kernel_rfl) (by kernel_rfl) (fun _ _ _ h => h) (Or.inl ⟨by rfl, ?_⟩) (by assumption) ?_
  rotate_left 1
  · intro w hSw; (try dsimp only at hSw); go_simp; (try with_reducible rfl)
  simp only [Act.put, List.getElem_toArray, List.getElem_cons_zero, List.getElem_cons_succ, List.setIfInBounds_toArray, List.set_cons_zero, List.set_cons_succ]
  refine AnyE.take (i := 4) (v := ?_) rfl (by kernel_rfl) (by kernel_rfl) (by kernel_rfl) (by kernel_rfl) (fun _ _ _ h => h) (Or.inl ⟨by rfl, ?_⟩) (by assumption) ?_
  rotate_left 1
  · intro w hSw; (try dsimp only at hSw); go_simp; (try with_reducible rfl)
  simp only [Act.put, List.getElem_toArray, List.getElem_cons_zero, List.getElem_cons_succ, List.setIfInBounds_toArray, List.set_cons_zero, List.set_cons_succ]
  refine AnyE.take (i := 5) (v := ?_) rfl (by kernel_rfl) (by kernel_rfl) (by kernel_rfl) (by kernel_rfl) (fun _ _ _ h => h) (Or.inl ⟨by rfl, ?_⟩) (by assumption) ?_
  rotate_left 1
  · intro w hSw; (try dsimp only at hSw); go_simp; (try with_reducible rfl)
  simp only [Act.put, List.getElem_toArray, List.getElem_cons_zero, List.getElem_cons_succ, List.setIfInBounds_toArray, List.set_cons_zero, List.set_cons_succ]
  refine AnyE.take (i := 6) (v := ?_) rfl (by kernel_rfl) (by kernel_rfl) (by kernel_rfl) (by kernel_rfl) (fun _ _ _ h => h) (Or.inl ⟨by rfl, ?_⟩) (by assumption) ?_
  rotate_left 1
  · intro w hSw; (try dsimp only at hSw); go_simp; (try with_reducible rfl)
  simp only [Act.put, List.getElem_toArray, List.getElem_cons_zero, List.getElem_cons_succ, List.setIfInBounds_toArray, List.set_cons_zero, List.set_cons_succ]
  refine AnyE.take (i := 7) (v := ?_) rfl (by kernel_rfl) (by kernel_rfl) (by kernel_rfl) (by kernel_rfl) (fun _ _ _ h => h) (Or.inl ⟨by rfl, ?_⟩) (by assumption) ?_
  rotate_left 1
  · intro w hSw; (try dsimp only at hSw); go_simp; (try with_reducible rfl)
  simp only [Act.put, List.getElem_toArray, List.getElem_cons_zero, List.getElem_cons_succ, List.setIfInBounds_toArray, List.set_cons_zero, List.set_cons_succ]
  refine AnyE.take (i := 8) (v := ?_) rfl (by kernel_rfl) (by kernel_rfl) (by kernel_rfl) (by kernel_rfl) (fun _ _ _ h => h) (Or.inl ⟨by rfl, ?_⟩) (by assumption) ?_
  rotate_left 1
  · intro w hSw; (try dsimp only at hSw); go_simp; (try with_reducible rfl)
  simp only [Act.put, List.getElem_toArray, List.getElem_cons_zero, List.getElem_cons_succ, List.setIfInBounds_toArray, List.set_cons_zero, List.set_cons_succ]
  refine AnyE.take (i := 9) (v := ?_) rfl (by kernel_rfl) (by kernel_rfl) (by kernel_rfl) (by kernel_rfl) (fun _ _ _ h => h) (Or.inl ⟨by rfl, ?_⟩) (by assumption) ?_
  rotate_left 1
  · intro w hSw; (try dsimp only at hSw); go_simp; (try with_reducible rfl)
  simp only [Act.put, List.getElem_toArray, List.getElem_cons_zero, List.getElem_cons_succ, List.setIfInBounds_toArray, List.set_cons_zero, List.set_cons_succ]
  refine AnyE.take (i := 10) (v := ?_) rfl (by kernel_rfl) (by kernel_rfl) (by kernel_rfl) (by kernel_rfl) (fun _ _ _ h => h) (Or.inl ⟨by rfl, ?_⟩) (by assumption) ?_
  rotate_left 1
  · intro w hSw; (try dsimp only at hSw); go_simp; (try with_reducible rfl)
  simp only [Act.put, List.getElem_toArray, List.getElem_cons_zero, List.getElem_cons_succ, List.setIfInBounds_toArray, List.set_cons_zero, List.set_cons_succ]
  refine AnyE.take (i := 11) (v := ?_) rfl (by kernel_rfl) (by kernel_rfl) (by kernel_rfl) (by kernel_rfl) (fun _ _ _ h => h) (Or.inl ⟨by rfl, ?_⟩) (by assumption) ?_
  rotate_left 1
  · intro w hSw; (try dsimp only at hSw); go_simp; (try with_reducible rfl)
  simp only [Act.put, List.getElem_toArray, List.getElem_cons_zero, List.getElem_cons_succ, List.setIfInBounds_toArray, List.set_cons_zero, List.set_cons_succ]
  clear hHeld
  have f3 := FP.out (k * 5 + 3)
  have z3 := SS.out.2
  refine AnyE.ready (rs := [12]) (by kernel_rfl) (by simp) ?_
  refine ReadyE.last rfl (by kernel_rfl) (fun K hK => ?_)
  go_simp
  refine hK.out _ _ trivial (fun _ => ?_)
  clear hK K
  refine AnyE.done (by kernel_rfl) ?_ _
  clear f3 z3 SS FP
  obtain ⟨qs2, hox2⟩ := OX.out.keep rfl HK.out (!kb)
  have hnd : gd ≠ gp := by have := HGP.out; omega
  have HND := Lib.hid hnd
  have XD2 := Lib.hid (XD.out.other ⟨gp, k * 5 + 3, none⟩ (.bool (!kb)) hnd)
  have BC2 := Lib.hid (BC.out.setCell (p := ⟨gp, k * 5 + 3, none⟩) HGP.out.1 (.bool (!kb)))
  have OX2 := Lib.hid hox2
  clear hox2 hnd OX XD BC
  generalize wf.setCell ⟨gp, k * 5 + 3, none⟩ (.bool (!kb)) = wg at *
  obtain ⟨nb, hnb⟩ : ∃ b, (!kb) = b := ⟨_, rfl⟩
  rw [hnb] at OX2
  try rw [hnb]
  clear hnb
  obtain ⟨sz, hsz⟩ : ∃ s, (ptAt c0.ps k).size = s := ⟨_, rfl⟩
  have HSE := Lib.hid hsz
  rw [hsz] at HSZ HIL
  obtain ⟨Ai, mi, ci, z0, z1, z2, z3, z4⟩ := OX2.out.cells rfl HK.out
  rw [PX_at KL.out] at z2
  dsimp only at z2
  rw [hsz] at z2
  have d2 := XD2.out.at (j := 1) rfl
  have hs1 : ¬ sz < 0 := by have := HSZ.out; omega
  have hs2 : ¬ 512 < sz := by have := HSZ.out; omega
  clear hsz z0 z1 z3 z4
  go_upto_region 9 with (fail)
  clear z2 d2 hs1 hs2
  obtain ⟨N, hN⟩ : ∃ N : Nat, (N : Int) = sz + 1 := ⟨(sz + 1).toNat, by have := HSZ.out; omega⟩
  have HNB : Hid (17 ≤ N ∧ N ≤ 513) := by (show _ ∧ _); have := HSZ.out; omega
  have HNE := Lib.hid hN
  have hw1 : IntKind.i64.wrap (sz + 1) = (N : Int) := by have := HSZ.out; rw [IntKind.wrap_i64]; omega
  have hum : IntKind.u64.wrap (N : Int) = (N : Int) := by have := HNB.out; rw [IntKind.wrap_u64]; omega
  have hne : ¬ N = 0 := by have := HNB.out; omega
  obtain ⟨m, hm, hme⟩ := idx_ofC a2 (n := N) (by have := HNB.out; omega) (by have := HNB.out; omega)
  have HM : Hid (m < N) := hm
  replace hme : IntKind.i64.wrap ((IntKind.u64.wrap a2).tmod (N : Int)) = (m : Int) := by unfold wrap64 at hme; rw [IntKind.wrap_i64]; omega
  have OXg := Lib.hid (OX2.out.to ((Below.refl _ _).drew))
  have XDg := Lib.hid (XD2.out.to ((Below.refl _ _).drew))
  have BCg := Lib.hid (BC2.out.drew)
  clear hN hm OX2 XD2 BC2
  obtain ⟨wh, hwh⟩ : ∃ x, wg.drew = x := ⟨_, rfl⟩
  rw [hwh] at OXg XDg BCg
  obtain ⟨wm, hrun, hown, hbm⟩ := run_makeU m (by have := HM.out; have := HNB.out; omega) wh
  have HRUN := Lib.hid hrun
  have HOWN := Lib.hid hown
  have HBM := Lib.hid hbm
  clear hrun hown hbm
  refine wp_region_held_drew (S := (fun w' => Bx w' gd 26 [.slice aw1 nw1 kw1, .slice (some ⟨gp, 0, none⟩) x0.np kp1, .slice ac1 nc1 kc1])) (by kernel_rfl) ((by rw [hwh]; exact XDg.out)) (fun hHeld => ?_)
  rw [hwh] at hHeld ⊢
  clear hwh
  refine wpAnyH_takeD (i := 0) (d := 60) (v := ?_) rfl rfl (by kernel_rfl) (by kernel_rfl) (by kernel_rfl) (fun _ _ _ h => h) (Or.inl ⟨by rfl, ?_⟩) (by assumption) ?_
  rotate_left 1
  · intro w hSw; (try dsimp only at hSw); go_simp; (try with_reducible rfl)
  simp only [List.setIfInBounds_toArray, List.set_cons_zero, List.set_cons_succ]
  refine wpAnyH_takeD (i := 1) (d := 61) (v := ?_) rfl rfl (by kernel_rfl) (by kernel_rfl) (by kernel_rfl) (fun _ _ _ h => h) (Or.inl ⟨by rfl, ?_⟩) (by assumption) ?_
  rotate_left 1
  · intro w hSw; (try dsimp only at hSw); have t1 := hSw.at (j := 1) rfl; go_simp; (try with_reducible rfl)
  simp only [List.setIfInBounds_toArray, List.set_cons_zero, List.set_cons_succ]
  refine wpAnyH_takeD (i := 2) (d := 62) (v := ?_) rfl rfl (by kernel_rfl) (by kernel_rfl) (by kernel_rfl) (fun _ _ _ h => h) (Or.inl ⟨by rfl, ?_⟩) (by assumption) ?_
  rotate_left 1
  · intro w hSw; (try dsimp only at hSw); go_simp; (try with_reducible rfl)
  simp only [List.setIfInBounds_toArray, List.set_cons_zero, List.set_cons_succ]
  refine wpAnyH_takeD (i := 3) (d := 63) (v := ?_) rfl rfl (by kernel_rfl) (by kernel_rfl) (by kernel_rfl) (fun _ _ _ h => h) (Or.inl ⟨by rfl, ?_⟩) (by assumption) ?_
  rotate_left 1
  · intro w hSw; (try dsimp only at hSw); go_simp; (try with_reducible rfl)
  simp only [List.setIfInBounds_toArray, List.set_cons_zero, List.set_cons_succ]
  refine wpAnyH_takeD (i := 4) (d := 64) (v := ?_) rfl rfl (by kernel_rfl) (by kernel_rfl) (by kernel_rfl) (fun _ _ _ h => h) (Or.inl ⟨by rfl, ?_⟩) (by assumption) ?_
  rotate_left 1
  · intro w hSw; (try dsimp only at hSw); go_simp; (try with_reducible rfl)
  simp only [List.setIfInBounds_toArray, List.set_cons_zero, List.set_cons_succ]
  refine wpAnyH_takeD (i := 5) (d := 65) (v := ?_) rfl rfl (by kernel_rfl) (by kernel_rfl) (by kernel_rfl) (fun _ _ _ h => h) (Or.inl ⟨by rfl, ?_⟩) (by assumption) ?_
  rotate_left 1
  · intro w hSw; (try dsimp only at hSw); go_simp; (try with_reducible rfl)
  simp only [List.setIfInBounds_toArray, List.set_cons_zero, List.set_cons_succ]
  refine wpAnyH_takeD (i := 6) (d := 66) (v := ?_) rfl rfl (by kernel_rfl) (by kernel_rfl) (by kernel_rfl) (fun _ _ _ h => h) (Or.inl ⟨by rfl, ?_⟩) (by assumption) ?_
  rotate_left 1
  · intro w hSw; (try dsimp only at hSw); go_simp; (try with_reducible rfl)
  simp only [List.setIfInBounds_toArray, List.set_cons_zero, List.set_cons_succ]
  refine wpAnyH_takeD (i := 7) (d := 67) (v := ?_) rfl rfl (by kernel_rfl) (by kernel_rfl) (by kernel_rfl) (fun _ _ _ h => h) (Or.inl ⟨by rfl, ?_⟩) (by assumption) ?_
  rotate_left 1
  · intro w hSw; (try dsimp only at hSw); go_simp; (try with_reducible rfl)
  simp only [List.setIfInBounds_toArray, List.set_cons_zero, List.set_cons_succ]
  refine wpAnyH_takeD (i := 8) (d := 68) (v := ?_) rfl rfl (by kernel_rfl) (by kernel_rfl) (by kernel_rfl) (fun _ _ _ h => h) (Or.inl ⟨by rfl, ?_⟩) (by assumption) ?_
  rotate_left 1
  · intro w hSw; (try dsimp only at hSw); go_simp; (try with_reducible rfl)
  simp only [List.setIfInBounds_toArray, List.set_cons_zero, List.set_cons_succ]
  refine wpAnyH_takeD (i := 9) (d := 69) (v := ?_) rfl rfl (by kernel_rfl) (by kernel_rfl) (by kernel_rfl) (fun _ _ _ h => h) (Or.inl ⟨by rfl, ?_⟩) (by assumption) ?_
  rotate_left 1
  · intro w hSw; (try dsimp only at hSw); go_simp; (try with_reducible rfl)
  simp only [List.setIfInBounds_toArray, List.set_cons_zero, List.set_cons_succ]
  refine wpAnyH_ready (rs := [10]) (by kernel_rfl) (by simp) ?_
  refine AllReadyH.cons rfl (fun K hK => ?_) AllReadyH.nil
  refine step_makeRun rfl 43 (.tmp 69) (.tmp 69) rfl rfl rfl HRUN.out ?_
  skip
  refine hK.out _ _ (XDg.out.to HBM.out) (fun hHeld => ?_)
  clear hK K
  simp only [Act.put, List.getElem_toArray, List.getElem_cons_zero, List.getElem_cons_succ, List.setIfInBounds_toArray, List.set_cons_zero, List.set_cons_succ]
  clear hme hw1 hum hne HRUN
  have z4 : ∃ A m cc, wm.cell? ⟨gp, k * 5 + 4, none⟩ = some (.slice A m cc) := by
    obtain ⟨A, m, cc, -, -, -, -, h⟩ := (OXg.out.to HBM.out).cells rfl HK.out
    exact ⟨A, m, cc, h⟩
  obtain ⟨Aj, mj, cj, z4⟩ := z4
  have f4 : wm.frozen? ⟨gp, k * 5 + 4, none⟩ = false := by
    obtain ⟨g, e, -, -, h⟩ := (OXg.out.to HBM.out).at_ap HN0.out
    injection e with e; injection e with e _
    subst e; exact h _
  refine wpAnyH_takeD (i := 11) (d := 71) (v := ?_) rfl rfl (by kernel_rfl) (by kernel_rfl) (by kernel_rfl) (fun _ _ _ h => h) (Or.inl ⟨by rfl, ?_⟩) (by assumption) ?_
  rotate_left 1
  · intro w hSw; (try dsimp only at hSw); go_simp; (try with_reducible rfl)
  simp only [List.setIfInBounds_toArray, List.set_cons_zero, List.set_cons_succ]
  refine wpAnyH_takeD (i := 12) (d := 72) (v := ?_) rfl rfl (by kernel_rfl) (by kernel_rfl) (by kernel_rfl) (fun _ _ _ h => h) (Or.inl ⟨by rfl, ?_⟩) (by assumption) ?_
  rotate_left 1
  · intro w hSw; (try dsimp only at hSw); go_simp; (try with_reducible rfl)
  simp only [List.setIfInBounds_toArray, List.set_cons_zero, List.set_cons_succ]
  refine wpAnyH_ready (rs := [13]) (by kernel_rfl) (by simp) ?_
  refine AllReadyH.cons rfl (fun K hK => ?_) AllReadyH.nil
  go_simp
  refine hK.out _ _ (((XDg.out.to HBM.out).other ⟨gp, k * 5 + 4, none⟩ (.slice (some ⟨wh.heap.size, 0, none⟩) m m) HND.out)) (fun hHeld => ?_)
  clear hK K
  refine wpAnyH_done (by kernel_rfl) ?_ _
  clear hHeld z4 f4
  obtain ⟨qs3, hox3⟩ := OXg.out.image HBM.out rfl HK.out BCg.out.size HOWN.out (by have := HM.out; have := HNB.out; omega)
  rw [PX_PX KL.out] at hox3
  have OX3 := Lib.hid hox3
  have XD3 := Lib.hid ((XDg.out.to HBM.out).other ⟨gp, k * 5 + 4, none⟩ (.slice (some ⟨wh.heap.size, 0, none⟩) m m) HND.out)
  have BC3 := Lib.hid ((BCg.out.trans (HBM.out.mono BCg.out.size)).setCell (p := ⟨gp, k * 5 + 4, none⟩) HGP.out.1 (.slice (some ⟨wh.heap.size, 0, none⟩) m m))
  clear hox3 OXg XDg BCg HBM HOWN
  generalize wm.setCell ⟨gp, k * 5 + 4, none⟩ (.slice (some ⟨wh.heap.size, 0, none⟩) m m) = wn at *
  have d1 := XD3.out.at (j := 0) rfl
  have d2 := XD3.out.at (j := 1) rfl
  have d3 := XD3.out.at (j := 2) rfl
  have HF3 : Hid (fitsV (PX c0 k nb (List.replicate m 0)) = true) := VA.out.setP KL.out nb (by rw [List.length_replicate, HSE.out]; have := HM.out; have := HNE.out; omega)
  go_wp2_with fail
  refine (wFitsV ⟨aw1, nw1, kw1, some ⟨gp, 0, none⟩, x0.np, kp1, ac1, nc1, kc1⟩ _ wn OX3.out.cf.rd N1.out.1 HNP.out (by (show nc1 ≤ 1000); have := N1.out.2; have := HNC.out; omega)).mono ?_
  rw [HF3.out]
  rintro e wo ⟨rfl, hb⟩
  replace OX3 := Lib.hid (OX3.out.to hb)
  replace XD3 := Lib.hid (XD3.out.to hb)
  replace BC3 := Lib.hid (BC3.out.trans (hb.mono BC3.out.size))
  clear hb d1 d2 d3 HF3
  go_upto_region 12 with (fail)
  have hw1 : IntKind.i64.wrap (sz + 1) = (N : Int) := by have := HNE.out; have := HSZ.out; rw [IntKind.wrap_i64]; omega
  have hkI : (k : Int) < (x0.np : Int) := by have := HK.out; omega
  replace OX3 := Lib.hid (OX3.out.to ((Below.refl _ _).drew))
  replace XD3 := Lib.hid (XD3.out.to ((Below.refl _ _).drew))
  replace BC3 := Lib.hid (BC3.out.drew)
  obtain ⟨wh2, hwh2⟩ : ∃ x, wo.drew = x := ⟨_, rfl⟩
  rw [hwh2] at OX3 XD3 BC3
  obtain ⟨wm2, hrun, hown, hbm⟩ := run_makeU N (by have := HNB.out; omega) wh2
  have HRUN := Lib.hid hrun
  have HOWN := Lib.hid hown
  have HBM := Lib.hid hbm
  clear hrun hown hbm
  refine wp_region_held_drew (S := (fun w' => Bx w' gd 26 [.slice aw1 nw1 kw1, .slice (some ⟨gp, 0, none⟩) x0.np kp1, .slice ac1 nc1 kc1])) (by kernel_rfl) ((by rw [hwh2]; exact XD3.out)) (fun hHeld => ?_)
  rw [hwh2] at hHeld ⊢
  clear hwh2
  refine wpAnyH_takeD (i := 0) (d := 76) (v := ?_) rfl rfl (by kernel_rfl) (by kernel_rfl) (by kernel_rfl) (fun _ _ _ h => h) (Or.inl ⟨by rfl, ?_⟩) (by assumption) ?_
  rotate_left 1
  · intro w hSw; (try dsimp only at hSw); go_simp; (try with_reducible rfl)
  simp only [List.setIfInBounds_toArray, List.set_cons_zero, List.set_cons_succ]
  refine wpAnyH_takeD (i := 1) (d := 77) (v := ?_) rfl rfl (by kernel_rfl) (by kernel_rfl) (by kernel_rfl) (fun _ _ _ h => h) (Or.inl ⟨by rfl, ?_⟩) (by assumption) ?_
  rotate_left 1
  · intro w hSw; (try dsimp only at hSw); have t1 := hSw.at (j := 1) rfl; go_simp; (try with_reducible rfl)
  simp only [List.setIfInBounds_toArray, List.set_cons_zero, List.set_cons_succ]
  refine wpAnyH_takeD (i := 2) (d := 78) (v := ?_) rfl rfl (by kernel_rfl) (by kernel_rfl) (by kernel_rfl) (fun _ _ _ h => h) (Or.inl ⟨by rfl, ?_⟩) (by assumption) ?_
  rotate_left 1
  · intro w hSw; (try dsimp only at hSw); go_simp; (try with_reducible rfl)
  simp only [List.setIfInBounds_toArray, List.set_cons_zero, List.set_cons_succ]
  refine wpAnyH_takeD (i := 3) (d := 79) (v := ?_) rfl rfl (by kernel_rfl) (by kernel_rfl) (by kernel_rfl) (fun _ _ _ h => h) (Or.inl ⟨by rfl, ?_⟩) (by assumption) ?_
  rotate_left 1
  · intro w hSw; (try dsimp only at hSw); go_simp; (try with_reducible rfl)
  simp only [List.setIfInBounds_toArray, List.set_cons_zero, List.set_cons_succ]
  refine wpAnyH_takeD (i := 4) (d := 80) (v := ?_) rfl rfl (by kernel_rfl) (by kernel_rfl) (by kernel_rfl) (fun _ _ _ h => h) (Or.inl ⟨by rfl, ?_⟩) (by assumption) ?_
  rotate_left 1
  · intro w hSw; (try dsimp only at hSw); go_simp; (try with_reducible rfl)
  simp only [List.setIfInBounds_toArray, List.set_cons_zero, List.set_cons_succ]
  refine wpAnyH_ready (rs := [5]) (by kernel_rfl) (by simp) ?_
  refine AllReadyH.cons rfl (fun K hK => ?_) AllReadyH.nil
  refine step_makeRun rfl 43 (.tmp 80) (.tmp 80) rfl rfl rfl HRUN.out ?_
  skip
  refine hK.out _ _ (XD3.out.to HBM.out) (fun hHeld => ?_)
  clear hK K
  simp only [Act.put, List.getElem_toArray, List.getElem_cons_zero, List.getElem_cons_succ, List.setIfInBounds_toArray, List.set_cons_zero, List.set_cons_succ]
  clear hw1 HRUN
  have z4 : ∃ A m cc, wm2.cell? ⟨gp, k * 5 + 4, none⟩ = some (.slice A m cc) := by
    obtain ⟨A, m, cc, -, -, -, -, h⟩ := (OX3.out.to HBM.out).cells rfl HK.out
    exact ⟨A, m, cc, h⟩
  obtain ⟨Aj, mj, cj, z4⟩ := z4
  have f4 : wm2.frozen? ⟨gp, k * 5 + 4, none⟩ = false := by
    obtain ⟨g, e, -, -, h⟩ := (OX3.out.to HBM.out).at_ap HN0.out
    injection e with e; injection e with e _
    subst e; exact h _
  refine wpAnyH_takeD (i := 6) (d := 82) (v := ?_) rfl rfl (by kernel_rfl) (by kernel_rfl) (by kernel_rfl) (fun _ _ _ h => h) (Or.inl ⟨by rfl, ?_⟩) (by assumption) ?_
  rotate_left 1
  · intro w hSw; (try dsimp only at hSw); go_simp; (try with_reducible rfl)
  simp only [List.setIfInBounds_toArray, List.set_cons_zero, List.set_cons_succ]
  refine wpAnyH_takeD (i := 7) (d := 83) (v := ?_) rfl rfl (by kernel_rfl) (by kernel_rfl) (by kernel_rfl) (fun _ _ _ h => h) (Or.inl ⟨by rfl, ?_⟩) (by assumption) ?_
  rotate_left 1
  · intro w hSw; (try dsimp only at hSw); go_simp; (try with_reducible rfl)
  simp only [List.setIfInBounds_toArray, List.set_cons_zero, List.set_cons_succ]
  refine wpAnyH_ready (rs := [8]) (by kernel_rfl) (by simp) ?_
  refine AllReadyH.cons rfl (fun K hK => ?_) AllReadyH.nil
  go_simp
  refine hK.out _ _ (((XD3.out.to HBM.out).other ⟨gp, k * 5 + 4, none⟩ (.slice (some ⟨wh2.heap.size, 0, none⟩) N N) HND.out)) (fun hHeld => ?_)
  clear hK K
  refine wpAnyH_done (by kernel_rfl) ?_ _
  clear hHeld z4 f4 hkI
  obtain ⟨qs4, hox4⟩ := OX3.out.image HBM.out rfl HK.out BC3.out.size HOWN.out (by have := HNB.out; omega)
  rw [PX_PX KL.out] at hox4
  have OX4 := Lib.hid hox4
  have XD4 := Lib.hid ((XD3.out.to HBM.out).other ⟨gp, k * 5 + 4, none⟩ (.slice (some ⟨wh2.heap.size, 0, none⟩) N N) HND.out)
  have BC4 := Lib.hid ((BC3.out.trans (HBM.out.mono BC3.out.size)).setCell (p := ⟨gp, k * 5 + 4, none⟩) HGP.out.1 (.slice (some ⟨wh2.heap.size, 0, none⟩) N N))
  clear hox4 OX3 XD3 BC3 HBM HOWN
  generalize wm2.setCell ⟨gp, k * 5 + 4, none⟩ (.slice (some ⟨wh2.heap.size, 0, none⟩) N N) = wp at *
  have d1 := XD4.out.at (j := 0) rfl
  have d2 := XD4.out.at (j := 1) rfl
  have d3 := XD4.out.at (j := 2) rfl
  have HL3 : Hid (allV (PX c0 k nb (List.replicate N 0)) = [80]) := VA.out.setL KL.out nb (by rw [List.length_replicate, HSE.out]; have := HNE.out; omega)
  have hal := (Below.refl wp.heap.size wp).alloc (Nat.le_refl _) (.cells #[.int .i64 80] 33)
  have LZ := Lib.hid (rd_lit1 wp 33 80)
  replace OX4 := Lib.hid (OX4.out.to hal)
  replace BC4 := Lib.hid (BC4.out.trans (hal.mono BC4.out.size))
  clear hal
  go_wp2_with fail
  refine (lIs ⟨aw1, nw1, kw1, some ⟨gp, 0, none⟩, x0.np, kp1, ac1, nc1, kc1⟩ _ (some ⟨wp.heap.size, 0, none⟩) 1 1 [80] _ OX4.out.cf.rd LZ.out N1.out.1 HNP.out (by (show nc1 ≤ 1000); have := N1.out.2; have := HNC.out; omega)).mono ?_
  rw [decide_eq_true HL3.out]
  rintro e wq ⟨rfl, hb⟩
  replace BC4 := Lib.hid (BC4.out.trans (hb.mono BC4.out.size))
  clear hb d1 d2 d3 HL3 LZ OX4 XD4
  have X := Lib.hid (XC.out.to BC4.out)
  have R := Lib.hid (RC.out.to BC4.out)
  replace B := Lib.hid (B.out.trans (BC4.out.mono B.out.size))
  clear BC4 XC RC KL HSZ HIL HSE HK HGP N1 HND HNB HNE HM
  go_upto_region 15 with (fail)
  have p1 := X.out.at (j := 0) rfl
  have p2 := X.out.at (j := 1) rfl
  have p3 := X.out.at (j := 2) rfl
  by_cases hc0 : x0.nc = 0
  · have hI : ((x0.nc : Int) == 0) = true := by rw [beq_iff_eq]; omega
    clear hc0
    go_wp2_with fail
    refine (lAwakeV _).mono ?_
    rintro e wz ⟨rfl, hb⟩
    have BZ := Lib.hid (B.out.trans (hb.mono B.out.size))
    clear hb
    go_wp2_with fail
    go_ret
    exact ⟨rfl, BZ.out⟩
  have hI : ((x0.nc : Int) == 0) = false := by rw [beq_eq_false_iff_ne]; omega
  have HC0 : Hid (0 < x0.nc) := by (show _ < _); omega
  clear hc0
  go_wp2_with fail
  refine (lCopiedX x0 c0 wq R.out HNW.out HNP.out HNC.out HIM.out).mono ?_
  rintro e wr ⟨v2, qt, rfl, hox, hb⟩
  have XC := Lib.hid X.out
  have RC := Lib.hid R.out
  have BC := Lib.hid hb
  clear X R hb p1 p2 p3 hI
  obtain ⟨aw2, nw2, kw2, ap2, np2, kp2, ac2, nc2, kc2⟩ := v2
  obtain rfl : nc2 = x0.nc := by have h1 := hox.nc_le; have h2 := RC.out.cc.1; dsimp only at h1; omega
  obtain ⟨gc, hac, hgc, hgl, -⟩ := hox.at_ac HC0.out
  dsimp only at hac
  subst hac
  dsimp only [CV.val]
  have xd := Bx.new wr 26 [.slice aw2 nw2 kw2, .slice ap2 np2 kp2, .slice (some ⟨gc, 0, none⟩) x0.nc kc2]
  have hal := (Below.refl wr.heap.size wr).alloc (Nat.le_refl _) (.cells #[.slice aw2 nw2 kw2, .slice ap2 np2 kp2, .slice (some ⟨gc, 0, none⟩) x0.nc kc2] 26)
  have OX := Lib.hid (hox.to hal)
  have XE : Hid (Bx (wr.alloc (.cells #[.slice aw2 nw2 kw2, .slice ap2 np2 kp2, .slice (some ⟨gc, 0, none⟩) x0.nc kc2] 26)) wr.heap.size 26 [.slice aw2 nw2 kw2, .slice ap2 np2 kp2, .slice (some ⟨gc, 0, none⟩) x0.nc kc2]) := xd
  have HGC : Hid (wq.heap.size ≤ gc ∧ gc < wr.heap.size) := ⟨hgc, hgl⟩
  have HGE : Hid (wr.heap.size < (wr.alloc (.cells #[.slice aw2 nw2 kw2, .slice ap2 np2 kp2, .slice (some ⟨gc, 0, none⟩) x0.nc kc2] 26)).heap.size) := xd.lt
  have HQR := Lib.hid BC.out.size
  replace BC := Lib.hid (BC.out.trans (hal.mono BC.out.size))
  have N2 : Hid (nw2 ≤ 1000 ∧ np2 ≤ 1000) := by (show _ ∧ _); have h1 := hox.nw_le; have h2 := hox.ps_len; have h3 := RC.out.ww.1; have h4 := RC.out.pp.1; dsimp only at h1 h2; have := HNW.out; have := HNP.out; constructor <;> omega
  have AP := Lib.hid (hox.ap (Nat.le_refl _))
  clear hox xd hal hgc hgl
  go_upto_region 18 with (fail)
  generalize wr.alloc (.cells #[.slice aw2 nw2 kw2, .slice ap2 np2 kp2, .slice (some ⟨gc, 0, none⟩) x0.nc kc2] 26) = ws at *
  obtain ⟨ge, hge⟩ : ∃ g, wr.heap.size = g := ⟨_, rfl⟩
  rw [hge] at XE HGC HGE AP HQR ⊢
  clear hge
  obtain ⟨j, hj, hje⟩ := idx_ofC a1 HC0.out (by have := HNC.out; omega)
  have HJ := Lib.hid hj
  have hum : IntKind.u64.wrap (x0.nc : Int) = (x0.nc : Int) := by have := HNC.out; rw [IntKind.wrap_u64]; omega
  have hne : ¬ x0.nc = 0 := by have := HC0.out; omega
  have d3 := XE.out.at (j := 2) rfl
  clear hj
  go_upto_region 19 with (fail)
  clear d3 hum hne
  rw [hje]
  clear hje
  have HCC : Hid (x0.nc ≤ kc2) := (own_capV OX.out.cc).2.1
  have LC : Hid (c0.cs.length = x0.nc) := RC.out.cc.1
  replace OX := Lib.hid (OX.out.to ((Below.refl _ _).drew))
  replace XE := Lib.hid (XE.out.to ((Below.refl _ _).drew))
  replace BC := Lib.hid (BC.out.drew)
  obtain ⟨wt, hwt⟩ : ∃ x, ws.drew = x := ⟨_, rfl⟩
  replace HGE : Hid (ge < ws.drew.heap.size) := HGE.out
  rw [hwt] at OX XE BC HGE
  have shl : ∀ W : World, (Instr.slice 24 (.slice (some ⟨gc, 0, none⟩) x0.nc kc2) none (some (.int .i64 (j : Int))) none).run Try.prog W = .ok (.slice (some ⟨gc, 0, none⟩) j kc2) W := fun W => sliceV_h vtC _ (Nat.le_of_lt HJ.out) HCC.out _ W
  obtain ⟨A4, c4, sl4, hr4⟩ := own_tailV vtC (l := j + 1) OX.out.cc HJ.out
  have sll : ∀ W : World, (Instr.slice 24 (.slice (some ⟨gc, 0, none⟩) x0.nc kc2) (some (.int .i64 ((j : Int) + 1))) none none).run Try.prog W = .ok (.slice A4 (x0.nc - (j + 1)) c4) W := fun W => by
    have := sl4 .i64 W
    rw [show ((j + 1 : Nat) : Int) = (j : Int) + 1 from by push_cast; rfl] at this
    exact this
  have hwj : IntKind.i64.wrap ((j : Int) + 1) = (j : Int) + 1 := by have := HJ.out; have := HNC.out; rw [IntKind.wrap_i64]; omega
  have HR4 := Lib.hid hr4
  have OF := Lib.hid (own_frontV OX.out.cc (Nat.le_of_lt HJ.out))
  clear sl4 hr4
  have HLD : Hid (((chsV c0.cs).drop ((j + 1) * 5)).length = (x0.nc - (j + 1)) * 5) := by (show _ = _); rw [List.length_drop, OX.out.cc.1, Nat.sub_mul]
  have HNK : Hid (¬ (Value.slice (some ⟨gc, 0, none⟩) j kc2).ownBlock = some ge) := by
    (show ¬ _)
    intro h
    have h2 := Option.some.inj (show some gc = some ge from h)
    have := HGC.out
    omega
  refine AnyE.start (m := 11) (S := (fun w' => Bx w' ge 26 [.slice aw2 nw2 kw2, .slice ap2 np2 kp2, .slice (some ⟨gc, 0, none⟩) x0.nc kc2])) (by kernel_rfl) ((by rw [hwt]; exact XE.out)) (fun hHeld => ?_)
  rw [hwt] at hHeld ⊢
  clear hwt
  refine AnyE.takeD (i := 0) (d := 103) (v := ?_) rfl rfl (by kernel_rfl) (by kernel_rfl) (by kernel_rfl) (by kernel_rfl) (fun _ _ _ h => h) (Or.inl ⟨by rfl, ?_⟩) (by assumption) ?_
  rotate_left 1
  · intro w hSw; (try dsimp only at hSw); go_simp; (try with_reducible rfl)
  simp only [List.setIfInBounds_toArray, List.set_cons_zero, List.set_cons_succ]
  refine AnyE.takeD (i := 1) (d := 104) (v := ?_) rfl rfl (by kernel_rfl) (by kernel_rfl) (by kernel_rfl) (by kernel_rfl) (fun _ _ _ h => h) (Or.inl ⟨by rfl, ?_⟩) (by assumption) ?_
  rotate_left 1
  · intro w hSw; (try dsimp only at hSw); have t1 := hSw.at (j := 2) rfl; go_simp; (try with_reducible rfl)
  simp only [List.setIfInBounds_toArray, List.set_cons_zero, List.set_cons_succ]
  refine AnyE.takeD (i := 2) (d := 105) (v := ?_) rfl rfl (by kernel_rfl) (by kernel_rfl) (by kernel_rfl) (by kernel_rfl) (fun _ _ _ h => h) (Or.inl ⟨by rfl, ?_⟩) (by assumption) ?_
  rotate_left 1
  · intro w hSw; (try dsimp only at hSw); go_simp; (try with_reducible rfl)
  simp only [List.setIfInBounds_toArray, List.set_cons_zero, List.set_cons_succ]
  refine AnyE.takeD (i := 3) (d := 106) (v := ?_) rfl rfl (by kernel_rfl) (by kernel_rfl) (by kernel_rfl) (by kernel_rfl) (fun _ _ _ h => h) (Or.inl ⟨by rfl, ?_⟩) (by assumption) ?_
  rotate_left 1
  · intro w hSw; (try dsimp only at hSw); go_simp; (try with_reducible rfl)
  simp only [List.setIfInBounds_toArray, List.set_cons_zero, List.set_cons_succ]
  refine AnyE.takeD (i := 4) (d := 107) (v := ?_) rfl rfl (by kernel_rfl) (by kernel_rfl) (by kernel_rfl) (by kernel_rfl) (fun _ _ _ h => h) (Or.inl ⟨by rfl, ?_⟩) (by assumption) ?_
  rotate_left 1
  · intro w hSw; (try dsimp only at hSw); go_simp; (try with_reducible rfl)
  simp only [List.setIfInBounds_toArray, List.set_cons_zero, List.set_cons_succ]
  refine AnyE.takeD (i := 5) (d := 108) (v := ?_) rfl rfl (by kernel_rfl) (by kernel_rfl) (by kernel_rfl) (by kernel_rfl) (fun _ _ _ h => h) (Or.inl ⟨by rfl, ?_⟩) (by assumption) ?_
  rotate_left 1
  · intro w hSw; (try dsimp only at hSw); have t1 := hSw.at (j := 2) rfl; go_simp; (try with_reducible rfl)
  simp only [List.setIfInBounds_toArray, List.set_cons_zero, List.set_cons_succ]
  refine AnyE.takeD (i := 6) (d := 109) (v := ?_) rfl rfl (by kernel_rfl) (by kernel_rfl) (by kernel_rfl) (by kernel_rfl) (fun _ _ _ h => h) (Or.inl ⟨by rfl, ?_⟩) (by assumption) ?_
  rotate_left 1
  · intro w hSw; (try dsimp only at hSw); go_simp; (try with_reducible rfl)
  simp only [List.setIfInBounds_toArray, List.set_cons_zero, List.set_cons_succ]
  refine AnyE.takeD (i := 7) (d := 110) (v := ?_) rfl rfl (by kernel_rfl) (by kernel_rfl) (by kernel_rfl) (by kernel_rfl) (fun _ _ _ h => h) (Or.inl ⟨by rfl, ?_⟩) (by assumption) ?_
  rotate_left 1
  · intro w hSw; (try dsimp only at hSw); go_simp; (try with_reducible rfl)
  simp only [List.setIfInBounds_toArray, List.set_cons_zero, List.set_cons_succ]
  refine AnyE.takeD (i := 8) (d := 111) (v := ?_) rfl rfl (by kernel_rfl) (by kernel_rfl) (by kernel_rfl) (by kernel_rfl) (fun _ _ _ h => h) (Or.inl ⟨by rfl, ?_⟩) (by assumption) ?_
  rotate_left 1
  · intro w hSw; (try dsimp only at hSw); go_simp; (try with_reducible rfl)
  simp only [List.setIfInBounds_toArray, List.set_cons_zero, List.set_cons_succ]
  refine AnyE.ready (rs := [9]) (by kernel_rfl) (by simp) ?_
  refine ReadyE.cons rfl (fun K hK => ?_) ReadyE.nil
  refine step_pushV vtC rfl (.tmp 106) (.tmp 111) rfl rfl rfl OF.out (m := x0.nc - (j + 1)) (news := (chsV c0.cs).drop ((j + 1) * 5)) HLD.out HR4.out (fun u hu => chsV_one _ u (List.mem_of_mem_drop hu)) BC.out.size (by have := HJ.out; have := HNC.out; omega) ?_
  intro v9 w9 hown9 hk9 hv9
  obtain ⟨A9, k9, rfl⟩ := own_slV hown9
  have O9 := Lib.hid hown9
  have K9 := Lib.hid hk9
  have HV9 := Lib.hid hv9
  have XE9 := Lib.hid (XE.out.kept hk9 HNK.out)
  clear hown9 hk9 hv9
  refine hK.out _ _ (XE9.out) (fun hHeld => ?_)
  clear hK K
  simp only [Act.put, List.getElem_toArray, List.getElem_cons_zero, List.getElem_cons_succ, List.setIfInBounds_toArray, List.set_cons_zero, List.set_cons_succ]
  clear shl sll hwj
  refine AnyE.takeD (i := 10) (d := 113) (v := ?_) rfl rfl (by kernel_rfl) (by kernel_rfl) (by kernel_rfl) (by kernel_rfl) (fun _ _ _ h => h) (Or.inl ⟨by rfl, ?_⟩) (by assumption) ?_
  rotate_left 1
  · intro w hSw; (try dsimp only at hSw); go_simp; (try with_reducible rfl)
  simp only [List.setIfInBounds_toArray, List.set_cons_zero, List.set_cons_succ]
  have c2 := XE9.out.at (j := 2) rfl
  have f2 := XE9.out.fz 2
  refine AnyE.ready (rs := [11]) (by kernel_rfl) (by simp) ?_
  refine ReadyE.last rfl (by kernel_rfl) (fun K hK => ?_)
  go_simp
  refine hK.out _ _ trivial (fun _ => ?_)
  clear hK K
  refine AnyE.done (by kernel_rfl) ?_ _
  clear c2 f2 hHeld
  have KX := (Keep.refl (· = ge) w9).setCell ⟨ge, 2, none⟩ (.slice A9 (j + (x0.nc - (j + 1))) k9) rfl
  have XE10 := Lib.hid (XE9.out.set 2 (.slice A9 (j + (x0.nc - (j + 1))) k9))
  have R10 := Lib.hid (OX.out.lessC rfl HJ.out O9.out K9.out HV9.out KX HGE.out AP.out)
  have BC10 := Lib.hid ((K9.out.below BC.out BC.out.size (fun b hb => by
    have h2 := Option.some.inj (show some gc = some b from hb)
    have := HGC.out
    omega)).setCell (p := ⟨ge, 2, none⟩) HQR.out (.slice A9 (j + (x0.nc - (j + 1))) k9))
  clear KX O9 K9 HV9 XE9 OX OF XE BC HR4 HLD HNK
  obtain ⟨n9, hn9⟩ : ∃ n, j + (x0.nc - (j + 1)) = n := ⟨_, rfl⟩
  have HN9 : Hid (n9 ≤ 1000) := by (show _ ≤ _); have := HJ.out; have := HNC.out; omega
  dsimp only at R10
  rw [hn9] at XE10 R10 BC10 ⊢
  clear hn9
  generalize w9.setCell ⟨ge, 2, none⟩ (.slice A9 n9 k9) = wu at *
  have d1 := XE10.out.at (j := 0) rfl
  have d2 := XE10.out.at (j := 1) rfl
  have d3 := XE10.out.at (j := 2) rfl
  have HF4 : Hid (fitsV ⟨c0.ws, c0.ps, c0.cs.eraseIdx j⟩ = true) := VA.out.lessF (by rw [LC.out]; exact HJ.out)
  go_wp2_with fail
  refine (wFitsV ⟨aw2, nw2, kw2, ap2, np2, kp2, A9, n9, k9⟩ _ wu R10.out N2.out.1 N2.out.2 HN9.out).mono ?_
  rw [HF4.out]
  rintro e wv ⟨rfl, hb⟩
  replace BC10 := Lib.hid (BC10.out.trans (hb.mono BC10.out.size))
  replace B := Lib.hid (B.out.trans (BC10.out.mono B.out.size))
  clear hb d1 d2 d3
  go_wp2_with fail
  refine (lAwakeV _).mono ?_
  rintro e wz ⟨rfl, hb⟩
  have BZ := Lib.hid (B.out.trans (hb.mono B.out.size))
  clear hb
  go_wp2_with fail
  go_ret
  exact ⟨rfl, BZ.out⟩

set_option maxRecDepth 100000 in
theorem lifted (os : Os) (started : os.Started) (H : Type) (enc : TypeId × Value → H) :
    ReturnsInHanded {} Try.checked os 5 .any (Rows.validLessSpec.pre6 enc Try.prog Try.f5 Rows.validLessRow.domain false) (Rows.validLessSpec.post enc Try.prog Try.f5 false true false false) := by
  refine returnsInHanded_of_change_sized (C := Try.checked) own started (by kernel_rfl) Try.func5
    (ChangeSpec.witness6 (enc := enc) (C := Try.checked) false ⟨#[], #[.agg #[.slice none 0 0, .slice none 0 0, .slice none 0 0], .int .i64 0, .int .i64 0], []⟩ 8 (by kernel_rfl) (by kernel_rfl) (by kernel_rfl) (by kernel_rfl)) ?_
  intro W base args ds gs before hval0 hW hcnd hsz0 _
  have hval : ∀ (j : Nat) t v, Try.f5.params[j]? = some t → args[j]? = some v → Value.okWide Try.prog W .any base t v := hval0
  have hsz : (DataW.weightsEach Try.prog (Try.f5.params.toList ++ Rows.validLessSpec.plain.varTypes Try.prog) (ds ++ gs)).all (· ≤ reachBytes) = true := hsz0
  have hW' := hW
  obtain ⟨p, q, hA0, hV, rfl, hfz, hnd⟩ := hW
  have hA : DataW.TrodAll enc Try.prog W 0 (fun _ => true) true Try.f5.params.toList args.toList ds p := hA0
  rw [Try.params5] at hA hval hsz
  obtain ⟨v0, vs0, d0, ds0, p0, q0, hargs, rfl, rfl, h0, r0⟩ := trodAll_cons hA
  obtain ⟨v1, vs1, d1, ds1, p1, q1, rfl, rfl, rfl, h1, r1⟩ := trodAll_cons r0
  obtain ⟨v2, vs2, d2, ds2, p2, q2, rfl, rfl, rfl, h2, r2⟩ := trodAll_cons r1
  obtain ⟨rfl, rfl, rfl⟩ := trodAll_nil r2
  obtain rfl : args = #[v0, v1, v2] := by cases args; simp_all
  obtain ⟨rfl, rfl⟩ := trodVars_none hV
  have sz0 : ∀ x ∈ d0.weights Try.prog 26, x ≤ reachBytes := fun x hx => by simpa using List.all_eq_true.1 hsz _ (DataW.weights_mem_each (j := 0) rfl rfl x hx)
  have k0 := h0
  have lt0 : ∀ x ∈ p0, x.block < W.heap.size := by obtain ⟨m, hm⟩ := k0; exact DataW.trod_lt m _ _ _ hm
  obtain ⟨x0, c0, rfl, w0⟩ := open_config (hval 0 26 v0 rfl rfl) h0 sz0
  obtain ⟨a1, rfl, rfl, rfl, w1⟩ := open_int Try.underlying3 (hval 1 3 v1 rfl rfl) h1
  obtain ⟨a2, rfl, rfl, rfl, w2⟩ := open_int Try.underlying3 (hval 2 3 v2 rfl rfl) h2
  clear hA0 hval0
  refine (walk x0 c0 a1 a2 W w0 w1 w2).mono fun e W' ⟨he, bel⟩ => ?_
  subst he
  exact ⟨_, rfl, _, _, _, [], _, [], hW', trodAll_mk1 (shut_bool Try.underlying4 _), (trodAll_cons_mk (Below.trod laidOut (by kernel_rfl) (of_decide_eq_true (by kernel_rfl)) k0 bel lt0) (trodAll_cons_mk (shut_int Try.underlying3 w1) (trodAll_cons_mk (shut_int Try.underlying3 w2) trodAll_mk0))), rfl, bel.frame _, fun h => by cases h⟩

theorem over : Rows.validLessRow.holds Try.pinned (OpenSpec.ofChange Rows.validLessSpec) :=
  OpenClaim.holds_of_wide 5 Try.f5 rfl rfl rfl rfl rfl rfl rfl ⟨rfl, rfl, rfl, rfl, rfl⟩ rfl rfl rfl rfl rfl (by kernel_rfl) Try.func5 (by kernel_rfl)
    (of_decide_eq_true (by kernel_rfl)) (by unfold Func.isWrapper; first | (rw [if_pos (by decide +kernel)]; kernel_rfl) | (rw [if_neg (by decide +kernel)]; exact ⟨rfl, rfl⟩))
    (fun os started H enc _ => lifted os started H enc)

theorem proved : Rows.ValidLessSaid := over
end Go.Proofs.Ytnaegbnijbdgbaa.validLess
