/- For any two configurations and any number the law CompatChecks of citadellaw13 returns true: whether one may follow the other, and who survives, is as the chapter says; both stay as they were (compat.Check, Survives, Parts). -/
import Derived.Test.YtecedmjhhaabgaaRows
import Derived.Test.YtecedmjhhaabgaaCpW
import Derived.Test.YtecedmjhhaabgaaCpL
import Derived.Test.YtecedmjhhaabgaaCpPq
import Derived.Test.YtecedmjhhaabgaaCpS
import Derived.Test.YtecedmjhhaabgaaCfLq
import Derived.Test.YtecedmjhhaabgaaHeldQ
import Derived.Test.YtecedmjhhaabgaaInvR
import Derived.Test.YtecedmjhhaabgaaCfAp
import Derived.Test.YtecedmjhhaabgaaCfLc
import Derived.Test.YtecedmjhhaabgaaCfT
import Derived.Deep.DeepCutAuto
import Derived.SizedLaws
import Derived.WalkKit
import Derived.ProofKit
import Derived.OpenShut
import Derived.ShutString
import Derived.ChangeOld
import Derived.Below
namespace Go.Proofs.Ytecedmjhhaabgaa.compatChecks
open Go.ChangeShapes Go.WideShapes Go.ChangeAt Go.RowKit
open Go.ChangeMaps (open_string shut_string)
set_option linter.unusedVariables false
set_option linter.unusedSimpArgs false

theorem own : ownKnob Try.prog.godebug = none := by kernel_rfl
theorem laidOut : laidOutB Try.prog = true := by kernel_rfl

/-- What each operation of 'a, b := Copied(from), Copied(to)' leaves. -/
def spK (B : Nat) (x0 x1 : CV) (c0 c1 : Cf) : Nat → Value → World → Prop
  | 0, v, _ => v = x0.val
  | 1, v, w => ∃ y : CV, v = y.val ∧ RdCf w w.heap.size y c0
  | 2, v, _ => v = x1.val
  | 3, v, w => ∃ y : CV, v = y.val ∧ RdCf w w.heap.size y c1
  | 4, v, w => ∃ g, v = .pointer (some ⟨g, 0, none⟩) ∧ B ≤ g ∧ Bx w g 26 [.slice none 0 0, .slice none 0 0, .slice none 0 0]
  | 5, v, w => ∃ g, v = .pointer (some ⟨g, 0, none⟩) ∧ B ≤ g ∧ Bx w g 26 [.slice none 0 0, .slice none 0 0, .slice none 0 0]
  | _, _, _ => True
def relK (i : Nat) (u : Value) (j : Nat) (v : Value) : Prop := (i = 4 ∧ j = 5 ∨ i = 5 ∧ j = 4) → u ≠ v
theorem spK_to (B : Nat) (x0 x1 : CV) (c0 c1 : Cf) (i : Nat) (v : Value) (w w1 : World) (hi : i < 6) (h : spK B x0 x1 c0 c1 i v w) (hb : Below w.heap.size w w1) : spK B x0 x1 c0 c1 i v w1 := by
  match i, hi with
  | 0, _ => exact h
  | 1, _ => obtain ⟨y, e, h⟩ := h; exact ⟨y, e, h.to hb⟩
  | 2, _ => exact h
  | 3, _ => obtain ⟨y, e, h⟩ := h; exact ⟨y, e, h.to hb⟩
  | 4, _ => obtain ⟨g, e, h1, h2⟩ := h; exact ⟨g, e, h1, h2.to hb⟩
  | 5, _ => obtain ⟨g, e, h1, h2⟩ := h; exact ⟨g, e, h1, h2.to hb⟩
theorem ptr_ne {w : World} {g : Nat} {T : TypeId} {cs : List Value} (h : Bx w g T cs) : (Value.pointer (some ⟨g, 0, none⟩)) ≠ .pointer (some ⟨w.heap.size, 0, none⟩) := fun e => by
  injection e with e; injection e with e; injection e with e _
  have := h.lt
  omega
set_option maxRecDepth 1000000 in
set_option maxHeartbeats 4000000 in
theorem walk (x0 : CV) (c0 : Cf) (x1 : CV) (c1 : Cf) (a2 : Int) (w : World) (w0 : RdCf w w.heap.size x0 c0 ∧ x0.kw ≤ 9223372036854775807 ∧ x0.kp ≤ 9223372036854775807 ∧ x0.kc ≤ 9223372036854775807 ∧ CfWf c0) (w1 : RdCf w w.heap.size x1 c1 ∧ x1.kw ≤ 9223372036854775807 ∧ x1.kp ≤ 9223372036854775807 ∧ x1.kc ≤ 9223372036854775807 ∧ CfWf c1) (w2 : (Lit.int .i64 a2).wf = true) :
    Calls Try.prog 3 #[.agg #[.slice x0.aw x0.nw x0.kw, .slice x0.ap x0.np x0.kp, .slice x0.ac x0.nc x0.kc], .agg #[.slice x1.aw x1.nw x1.kw, .slice x1.ap x1.np x1.kp, .slice x1.ac x1.nc x1.kc], .int .i64 a2] w fun e w' => e = .returned (.bool true) ∧ Below w.heap.size w w' := by
  obtain ⟨r0, -, -, -, -⟩ := w0
  obtain ⟨r1, -, -, -, -⟩ := w1
  obtain ⟨wa, hwa, hb2, hx, hy, hr, hs⟩ := two_boxC w r0 r1
  have HWA := Lib.hid hwa
  have XA := Lib.hid hx
  have XB := Lib.hid hy
  have RA := Lib.hid hr
  have RB := Lib.hid hs
  have B := Lib.hid hb2
  clear r0 r1 hwa hb2 hx hy hr hs
  go_enter Try.func3, Try.ntmps3
  go_upto_region 1 with (fail)
  rw [HWA.out]
  clear HWA
  obtain ⟨p0, p1, p2⟩ := cf_cells XA.out
  obtain ⟨q0, q1, q2⟩ := cf_cells XB.out
  go_wp2_with fail
  refine (lGreat x0 c0 wa RA.out).mono ?_
  rintro e wb ⟨rfl, hb⟩
  replace RA := Lib.hid (RA.out.to hb)
  replace RB := Lib.hid (RB.out.to hb)
  replace XA := Lib.hid (XA.out.to hb)
  replace XB := Lib.hid (XB.out.to hb)
  replace B := Lib.hid (B.out.trans (hb.mono B.out.size))
  clear hb p0 p1 p2 q0 q1 q2
  cases hg : greatC c0
  rotate_left 1
  · skip
    go_wp2_with fail
    go_ret
    exact ⟨rfl, B.out⟩
  obtain ⟨hnw, hnp, hnc, hia⟩ := bounds_of RA.out hg
  have HIA := Lib.hid hia
  have DA : Hid (Bd x0) := ⟨hnw, hnp, hnc⟩
  clear hg hnw hnp hnc hia
  obtain ⟨p0, p1, p2⟩ := cf_cells XA.out
  obtain ⟨q0, q1, q2⟩ := cf_cells XB.out
  go_wp2_with fail
  refine (lGreat x1 c1 wb RB.out).mono ?_
  rintro e wc ⟨rfl, hb⟩
  replace RA := Lib.hid (RA.out.to hb)
  replace RB := Lib.hid (RB.out.to hb)
  replace XA := Lib.hid (XA.out.to hb)
  replace XB := Lib.hid (XB.out.to hb)
  replace B := Lib.hid (B.out.trans (hb.mono B.out.size))
  clear hb p0 p1 p2 q0 q1 q2
  cases hg : greatC c1
  rotate_left 1
  · skip
    go_wp2_with fail
    go_ret
    exact ⟨rfl, B.out⟩
  obtain ⟨hnw, hnp, hnc, hib⟩ := bounds_of RB.out hg
  have HIB := Lib.hid hib
  have DB : Hid (Bd x1) := ⟨hnw, hnp, hnc⟩
  clear hg hnw hnp hnc
  go_upto_region 3 with (fail)
  refine region_invR (n := 6) (ds := [15, 16, 17, 18, 7, 8]) (S := fun w' => Below wc.heap.size wc w') (spK wc.heap.size x0 x1 c0 c1) relK #[true, true, true, true, true, true, false, false] [undef, undef, undef, undef, undef, undef] (by kernel_rfl) (Nat.le_of_ble_eq_true (by kernel_rfl)) rfl (by kernel_rfl) (by kernel_rfl) (by kernel_rfl) (by simp only [Xs, List.setIfInBounds_toArray, List.set_cons_zero, List.set_cons_succ]) rfl (Below.refl _ _).drew (fun i v u u1 hi h hb => spK_to _ _ _ _ _ i v u u1 hi h hb) ?_ ?_
  · refine lt_cases (lt_cases (lt_cases (lt_cases (lt_cases (lt_cases lt_none ?_) ?_) ?_) ?_) ?_) ?_
    · refine StepJ.mk rfl (fun xs u1 hl hS hd K hK => ?_)
      obtain ⟨z0, z1, z2, z3, z4, z5, rfl⟩ := len6 hl
      simp only [Xs, List.setIfInBounds_toArray, List.set_cons_zero, List.set_cons_succ]
      obtain ⟨t0, t1, t2⟩ := cf_cells (XA.out.to hS)
      go_simp
      have hK2 := hK.out
      simp only [Xs, List.setIfInBounds_toArray, List.set_cons_zero, List.set_cons_succ] at hK2
      exact hK2 _ u1 hS rfl (fun i u _ _ _ h => by omega) (Below.refl _ _)
    · refine StepJ.mk rfl (fun xs u1 hl hS hd K hK => ?_)
      obtain ⟨z0, z1, z2, z3, z4, z5, rfl⟩ := len6 hl
      obtain rfl : z0 = x0.val := hd ⟨0, .data⟩ (by simp) rfl
      dsimp only [CV.val]
      simp only [Xs, List.setIfInBounds_toArray, List.set_cons_zero, List.set_cons_succ]
      go_simp
      refine (lCopied x0 c0 u1 (RA.out.to hS) DA.out.1 DA.out.2.1 DA.out.2.2 HIA.out).mono ?_
      rintro e u2 ⟨y, rfl, ho, hb⟩
      go_wp2_with fail
      have hK2 := hK.out
      simp only [Xs, List.setIfInBounds_toArray, List.set_cons_zero, List.set_cons_succ] at hK2
      exact hK2 _ u2 (hS.trans (hb.mono hS.size)) ⟨y, rfl, ho.rd⟩ (fun i u _ _ _ h => by omega) hb
    · refine StepJ.mk rfl (fun xs u1 hl hS hd K hK => ?_)
      obtain ⟨z0, z1, z2, z3, z4, z5, rfl⟩ := len6 hl
      simp only [Xs, List.setIfInBounds_toArray, List.set_cons_zero, List.set_cons_succ]
      obtain ⟨t0, t1, t2⟩ := cf_cells (XB.out.to hS)
      go_simp
      have hK2 := hK.out
      simp only [Xs, List.setIfInBounds_toArray, List.set_cons_zero, List.set_cons_succ] at hK2
      exact hK2 _ u1 hS rfl (fun i u _ _ _ h => by omega) (Below.refl _ _)
    · refine StepJ.mk rfl (fun xs u1 hl hS hd K hK => ?_)
      obtain ⟨z0, z1, z2, z3, z4, z5, rfl⟩ := len6 hl
      obtain rfl : z2 = x1.val := hd ⟨2, .data⟩ (by simp) rfl
      dsimp only [CV.val]
      simp only [Xs, List.setIfInBounds_toArray, List.set_cons_zero, List.set_cons_succ]
      go_simp
      refine (lCopied x1 c1 u1 (RB.out.to hS) DB.out.1 DB.out.2.1 DB.out.2.2 HIB.out).mono ?_
      rintro e u2 ⟨y, rfl, ho, hb⟩
      go_wp2_with fail
      have hK2 := hK.out
      simp only [Xs, List.setIfInBounds_toArray, List.set_cons_zero, List.set_cons_succ] at hK2
      exact hK2 _ u2 (hS.trans (hb.mono hS.size)) ⟨y, rfl, ho.rd⟩ (fun i u _ _ _ h => by omega) hb
    · refine StepJ.mk rfl (fun xs u1 hl hS hd K hK => ?_)
      obtain ⟨z0, z1, z2, z3, z4, z5, rfl⟩ := len6 hl
      simp only [Xs, List.setIfInBounds_toArray, List.set_cons_zero, List.set_cons_succ]
      go_simp
      have hal := (Below.refl u1.heap.size u1).alloc (Nat.le_refl _) (.cells #[.slice none 0 0, .slice none 0 0, .slice none 0 0] 26)
      have hx := Bx.new u1 26 [.slice none 0 0, .slice none 0 0, .slice none 0 0]
      have hK2 := hK.out
      simp only [Xs, List.setIfInBounds_toArray, List.set_cons_zero, List.set_cons_succ] at hK2
      exact hK2 _ _ (hS.trans (hal.mono hS.size)) ⟨u1.heap.size, rfl, hS.size, hx⟩ (fun i u hi hne hsp h => by
        obtain rfl : i = 5 := by omega
        obtain ⟨g, rfl, _, hg⟩ := hsp
        exact ptr_ne hg) hal
    · refine StepJ.mk rfl (fun xs u1 hl hS hd K hK => ?_)
      obtain ⟨z0, z1, z2, z3, z4, z5, rfl⟩ := len6 hl
      simp only [Xs, List.setIfInBounds_toArray, List.set_cons_zero, List.set_cons_succ]
      go_simp
      have hal := (Below.refl u1.heap.size u1).alloc (Nat.le_refl _) (.cells #[.slice none 0 0, .slice none 0 0, .slice none 0 0] 26)
      have hx := Bx.new u1 26 [.slice none 0 0, .slice none 0 0, .slice none 0 0]
      have hK2 := hK.out
      simp only [Xs, List.setIfInBounds_toArray, List.set_cons_zero, List.set_cons_succ] at hK2
      exact hK2 _ _ (hS.trans (hal.mono hS.size)) ⟨u1.heap.size, rfl, hS.size, hx⟩ (fun i u hi hne hsp h => by
        obtain rfl : i = 4 := by omega
        obtain ⟨g, rfl, _, hg⟩ := hsp
        exact ptr_ne hg) hal
  · intro xs w1 hl hS hd hrel
    obtain ⟨z0, z1, z2, z3, z4, z5, rfl⟩ := len6 hl
    obtain ⟨y0, hy0, ry0⟩ := (show spK _ _ _ _ _ 1 z1 _ from hd 1 (by decide))
    obtain ⟨y1, hy1, ry1⟩ := (show spK _ _ _ _ _ 3 z3 _ from hd 3 (by decide))
    obtain ⟨g, hg, hg1, hg2⟩ := (show spK _ _ _ _ _ 4 z4 _ from hd 4 (by decide))
    obtain ⟨g', hg', hg3, hg4⟩ := (show spK _ _ _ _ _ 5 z5 _ from hd 5 (by decide))
    have hgg : g ≠ g' := by
      have h := hrel 4 5 (by decide) (by decide) (by decide)
      have h2 : z4 ≠ z5 := by
        rcases h with h | h
        · exact h (.inl ⟨rfl, rfl⟩)
        · exact fun e => h (.inr ⟨rfl, rfl⟩) e.symm
      intro e
      exact h2 (by rw [hg, hg', e])
    subst hy0 hy1 hg hg'
    clear hd hl hrel
    simp only [Xs, List.setIfInBounds_toArray, List.set_cons_zero, List.set_cons_succ]
    change wpAny _ _ _ _ 2 _ _ _
    refine wpAny_of_held (S := fun _ => True) _ _ _ _ ?_
    dsimp only [CV.val]
    have DY0 : Hid (Bd y0) := ⟨by have h1 := ry0.ww.1; have h2 := RA.out.ww.1; have := DA.out.1; omega, by have h1 := ry0.pp.1; have h2 := RA.out.pp.1; have := DA.out.2.1; omega, by have h1 := ry0.cc.1; have h2 := RA.out.cc.1; have := DA.out.2.2; omega⟩
    have DY1 : Hid (Bd y1) := ⟨by have h1 := ry1.ww.1; have h2 := RB.out.ww.1; have := DB.out.1; omega, by have h1 := ry1.pp.1; have h2 := RB.out.pp.1; have := DB.out.2.1; omega, by have h1 := ry1.cc.1; have h2 := RB.out.cc.1; have := DB.out.2.2; omega⟩
    have z0 := hg2.at (j := 0) rfl
    have z1 := hg2.at (j := 1) rfl
    have z2 := hg2.at (j := 2) rfl
    have f0 := hg2.fz 0
    have f1 := hg2.fz 1
    have f2 := hg2.fz 2
    refine wpAnyH_ready (rs := [6]) (by kernel_rfl) (by simp) ?_
    refine AllReadyH.cons rfl (fun K hK => ?_) AllReadyH.nil
    go_simp
    refine hK.out _ _ (trivial) (fun hHeld => ?_)
    clear hK K
    clear z0 z1 z2 f0 f1 f2 hHeld
    change wpAnyH _ _ _ _ _ _ _ _ (setsC w1 g 0 [.slice y0.aw y0.nw y0.kw, .slice y0.ap y0.np y0.kp, .slice y0.ac y0.nc y0.kc])
    have KX := Keep.sets (R := (· = g)) rfl [.slice y0.aw y0.nw y0.kw, .slice y0.ap y0.np y0.kp, .slice y0.ac y0.nc y0.kc] 0 (Keep.refl _ w1)
    have YA := hg2.sets [.slice y0.aw y0.nw y0.kw, .slice y0.ap y0.np y0.kp, .slice y0.ac y0.nc y0.kc] rfl
    have YB := hg4.kept KX (fun e => hgg e.symm)
    have r0 := ry0.apart (sl3 _ _ _ _ _ _ _ _ _) hg2 KX
    have r1 := ry1.apart (sl3 _ _ _ _ _ _ _ _ _) hg2 KX
    have BY := below_sets hg1 [.slice y0.aw y0.nw y0.kw, .slice y0.ap y0.np y0.kp, .slice y0.ac y0.nc y0.kc] 0 hS
    generalize setsC w1 g 0 [.slice y0.aw y0.nw y0.kw, .slice y0.ap y0.np y0.kp, .slice y0.ac y0.nc y0.kc] = w5 at *
    clear hg2 hg4 ry0 ry1 KX hS
    have z0 := YB.at (j := 0) rfl
    have z1 := YB.at (j := 1) rfl
    have z2 := YB.at (j := 2) rfl
    have f0 := YB.fz 0
    have f1 := YB.fz 1
    have f2 := YB.fz 2
    refine wpAnyH_ready (rs := [7]) (by kernel_rfl) (by simp) ?_
    refine AllReadyH.cons rfl (fun K hK => ?_) AllReadyH.nil
    go_simp
    refine hK.out _ _ (trivial) (fun hHeld => ?_)
    clear hK K
    clear z0 z1 z2 f0 f1 f2 hHeld
    change wpAnyH _ _ _ _ _ _ _ _ (setsC w5 g' 0 [.slice y1.aw y1.nw y1.kw, .slice y1.ap y1.np y1.kp, .slice y1.ac y1.nc y1.kc])
    have KX := Keep.sets (R := (· = g')) rfl [.slice y1.aw y1.nw y1.kw, .slice y1.ap y1.np y1.kp, .slice y1.ac y1.nc y1.kc] 0 (Keep.refl _ w5)
    have YC := Lib.hid (show Bx _ _ 26 (cfL y1) from YB.sets [.slice y1.aw y1.nw y1.kw, .slice y1.ap y1.np y1.kp, .slice y1.ac y1.nc y1.kc] rfl)
    have YD := Lib.hid (show Bx _ _ 26 (cfL y0) from YA.kept KX hgg)
    have R0 := Lib.hid (r0.apart (sl3 _ _ _ _ _ _ _ _ _) YB KX)
    have R1 := Lib.hid (r1.apart (sl3 _ _ _ _ _ _ _ _ _) YB KX)
    have BZ := Lib.hid (below_sets hg3 [.slice y1.aw y1.nw y1.kw, .slice y1.ap y1.np y1.kp, .slice y1.ac y1.nc y1.kc] 0 BY)
    generalize setsC w5 g' 0 [.slice y1.aw y1.nw y1.kw, .slice y1.ap y1.np y1.kp, .slice y1.ac y1.nc y1.kc] = w6 at *
    clear YA YB r0 r1 KX BY hgg hg1 hg3
    refine wpAnyH_done (by kernel_rfl) ?_ _
    replace RA := Lib.hid (RA.out.to BZ.out)
    replace RB := Lib.hid (RB.out.to BZ.out)
    replace XA := Lib.hid (XA.out.to BZ.out)
    replace XB := Lib.hid (XB.out.to BZ.out)
    replace B := Lib.hid (B.out.trans (BZ.out.mono B.out.size))
    clear BZ HIA HIB
    obtain ⟨zc, hzc⟩ : ∃ z, checkC c0 c1 = z := ⟨_, rfl⟩
    obtain ⟨lp, hlp⟩ : ∃ l, partsC c0 c1 false = l := ⟨_, rfl⟩
    obtain ⟨sv, hsv⟩ : ∃ l, survB c0 c1 a2 = l := ⟨_, rfl⟩
    have ZC := Lib.hid hzc
    have PL := Lib.hid hlp
    have SV := Lib.hid hsv
    have NL : Hid (lp.length ≤ 6) := by (show _ ≤ _); rw [← hlp]; exact listTo_len _ _
    clear hzc hlp hsv
    go_upto_region 4 with (fail)
    obtain ⟨wd, hwd⟩ : ∃ x, w6.drew = x := ⟨_, rfl⟩
    replace RA := Lib.hid (RA.out.to (Below.refl _ _).drew)
    replace RB := Lib.hid (RB.out.to (Below.refl _ _).drew)
    replace XA := Lib.hid (XA.out.to (Below.refl _ _).drew)
    replace XB := Lib.hid (XB.out.to (Below.refl _ _).drew)
    replace YC := Lib.hid (YC.out.to (Below.refl _ _).drew)
    replace YD := Lib.hid (YD.out.to (Below.refl _ _).drew)
    replace R0 := Lib.hid (R0.out.to (Below.refl _ _).drew)
    replace R1 := Lib.hid (R1.out.to (Below.refl _ _).drew)
    replace B := Lib.hid B.out.drew
    rw [hwd] at RA RB XA XB YC YD R0 R1 B
    refine wp_region_held_drew (S := (fun w' => Below wd.heap.size wd w')) (by kernel_rfl) ((by rw [hwd]; exact Below.refl _ _)) (fun hHeld => ?_)
    rw [hwd] at hHeld ⊢
    clear hwd
    refine wpAnyH_takeD (i := 0) (d := 19) (v := ?_) rfl rfl (by kernel_rfl) (by kernel_rfl) (by kernel_rfl) (fun _ _ _ h => h) (Or.inl ⟨by rfl, ?_⟩) (by assumption) ?_
    rotate_left 1
    · intro w hSw; (try dsimp only at hSw); have t := cf_cells (YD.out.to hSw); obtain ⟨t0, t1, t2⟩ := t; go_simp; (try with_reducible rfl)
    simp only [List.setIfInBounds_toArray, List.set_cons_zero, List.set_cons_succ]
    refine wpAnyH_takeD (i := 1) (d := 20) (v := ?_) rfl rfl (by kernel_rfl) (by kernel_rfl) (by kernel_rfl) (fun _ _ _ h => h) (Or.inl ⟨by rfl, ?_⟩) (by assumption) ?_
    rotate_left 1
    · intro w hSw; (try dsimp only at hSw); have t := cf_cells (YC.out.to hSw); obtain ⟨t0, t1, t2⟩ := t; go_simp; (try with_reducible rfl)
    simp only [List.setIfInBounds_toArray, List.set_cons_zero, List.set_cons_succ]
    refine wpAnyH_takeD (i := 3) (d := 22) (v := ?_) rfl rfl (by kernel_rfl) (by kernel_rfl) (by kernel_rfl) (fun _ _ _ h => h) (Or.inl ⟨by rfl, ?_⟩) (by assumption) ?_
    rotate_left 1
    · intro w hSw; (try dsimp only at hSw); have t := cf_cells (XA.out.to hSw); obtain ⟨t0, t1, t2⟩ := t; go_simp; (try with_reducible rfl)
    simp only [List.setIfInBounds_toArray, List.set_cons_zero, List.set_cons_succ]
    refine wpAnyH_takeD (i := 4) (d := 23) (v := ?_) rfl rfl (by kernel_rfl) (by kernel_rfl) (by kernel_rfl) (fun _ _ _ h => h) (Or.inl ⟨by rfl, ?_⟩) (by assumption) ?_
    rotate_left 1
    · intro w hSw; (try dsimp only at hSw); have t := cf_cells (XB.out.to hSw); obtain ⟨t0, t1, t2⟩ := t; go_simp; (try with_reducible rfl)
    simp only [List.setIfInBounds_toArray, List.set_cons_zero, List.set_cons_succ]
    refine wpAnyH_ready (rs := [2]) (by kernel_rfl) (by simp) ?_
    refine AllReadyH.cons rfl (fun K hK => ?_) AllReadyH.nil
    go_simp
    refine (wCheckZ y0 y1 c0 c1 ZC.out _ (R0.out.to hHeld) (R1.out.to hHeld) DY0.out DY1.out).mono ?_
    rintro e wx ⟨rfl, hb⟩
    have hH2 := hHeld.trans (hb.mono hHeld.size)
    clear hHeld hb
    have hHeld := hH2
    clear hH2
    go_wp2_with fail
    refine hK.out _ _ (hHeld) (fun hHeld => ?_)
    clear hK K
    refine wpAnyH_ready (rs := [5]) (by kernel_rfl) (by simp) ?_
    refine AllReadyH.cons rfl (fun K hK => ?_) AllReadyH.nil
    go_simp
    refine (rCheckC x0 x1 c0 c1 _ (RA.out.to hHeld) (RB.out.to hHeld) DA.out DB.out).mono ?_
    rintro e wx ⟨rfl, hb⟩
    have hH2 := hHeld.trans (hb.mono hHeld.size)
    clear hHeld hb
    have hHeld := hH2
    clear hH2
    go_wp2_with fail
    refine hK.out _ _ (hHeld) (fun hHeld => ?_)
    clear hK K
    rw [ZC.out]
    refine wpAnyH_takeD (i := 6) (d := 25) (v := ?_) rfl rfl (by kernel_rfl) (by kernel_rfl) (by kernel_rfl) (fun _ _ _ h => h) (Or.inl ⟨by rfl, ?_⟩) (by assumption) ?_
    rotate_left 1
    · intro w hSw; (try dsimp only at hSw); go_simp; (try with_reducible rfl)
    simp only [List.setIfInBounds_toArray, List.set_cons_zero, List.set_cons_succ]
    refine wpAnyH_takeD (i := 7) (d := 26) (v := ?_) rfl rfl (by kernel_rfl) (by kernel_rfl) (by kernel_rfl) (fun _ _ _ h => h) (Or.inl ⟨by rfl, ?_⟩) (by assumption) ?_
    rotate_left 1
    · intro w hSw; (try dsimp only at hSw); go_simp; (try with_reducible rfl)
    simp only [List.setIfInBounds_toArray, List.set_cons_zero, List.set_cons_succ]
    refine wpAnyH_takeD (i := 8) (d := 27) (v := ?_) rfl rfl (by kernel_rfl) (by kernel_rfl) (by kernel_rfl) (fun _ _ _ h => h) (Or.inl ⟨by rfl, ?_⟩) (by assumption) ?_
    rotate_left 1
    · intro w hSw; (try dsimp only at hSw); have t := cf_cells (YD.out.to hSw); obtain ⟨t0, t1, t2⟩ := t; go_simp; (try with_reducible rfl)
    simp only [List.setIfInBounds_toArray, List.set_cons_zero, List.set_cons_succ]
    refine wpAnyH_takeD (i := 9) (d := 28) (v := ?_) rfl rfl (by kernel_rfl) (by kernel_rfl) (by kernel_rfl) (fun _ _ _ h => h) (Or.inl ⟨by rfl, ?_⟩) (by assumption) ?_
    rotate_left 1
    · intro w hSw; (try dsimp only at hSw); have t := cf_cells (YC.out.to hSw); obtain ⟨t0, t1, t2⟩ := t; go_simp; (try with_reducible rfl)
    simp only [List.setIfInBounds_toArray, List.set_cons_zero, List.set_cons_succ]
    refine wpAnyH_takeD (i := 10) (d := 29) (v := ?_) rfl rfl (by kernel_rfl) (by kernel_rfl) (by kernel_rfl) (fun _ _ _ h => h) (Or.inl ⟨by rfl, ?_⟩) (by assumption) ?_
    rotate_left 1
    · intro w hSw; (try dsimp only at hSw); go_simp; (try with_reducible rfl)
    simp only [List.setIfInBounds_toArray, List.set_cons_zero, List.set_cons_succ]
    refine wpAnyH_takeD (i := 12) (d := 31) (v := ?_) rfl rfl (by kernel_rfl) (by kernel_rfl) (by kernel_rfl) (fun _ _ _ h => h) (Or.inl ⟨by rfl, ?_⟩) (by assumption) ?_
    rotate_left 1
    · intro w hSw; (try dsimp only at hSw); have t := cf_cells (XA.out.to hSw); obtain ⟨t0, t1, t2⟩ := t; go_simp; (try with_reducible rfl)
    simp only [List.setIfInBounds_toArray, List.set_cons_zero, List.set_cons_succ]
    refine wpAnyH_takeD (i := 13) (d := 32) (v := ?_) rfl rfl (by kernel_rfl) (by kernel_rfl) (by kernel_rfl) (fun _ _ _ h => h) (Or.inl ⟨by rfl, ?_⟩) (by assumption) ?_
    rotate_left 1
    · intro w hSw; (try dsimp only at hSw); have t := cf_cells (XB.out.to hSw); obtain ⟨t0, t1, t2⟩ := t; go_simp; (try with_reducible rfl)
    simp only [List.setIfInBounds_toArray, List.set_cons_zero, List.set_cons_succ]
    refine wpAnyH_takeD (i := 14) (d := 33) (v := ?_) rfl rfl (by kernel_rfl) (by kernel_rfl) (by kernel_rfl) (fun _ _ _ h => h) (Or.inl ⟨by rfl, ?_⟩) (by assumption) ?_
    rotate_left 1
    · intro w hSw; (try dsimp only at hSw); go_simp; (try with_reducible rfl)
    simp only [List.setIfInBounds_toArray, List.set_cons_zero, List.set_cons_succ]
    refine wpAnyH_ready (rs := [11]) (by kernel_rfl) (by simp) ?_
    refine AllReadyH.cons rfl (fun K hK => ?_) AllReadyH.nil
    go_simp
    refine (wSurvZ y0 y1 c0 c1 a2 SV.out _ (R0.out.to hHeld) (R1.out.to hHeld) DY0.out DY1.out).mono ?_
    rintro e wx ⟨rfl, hb⟩
    have hH2 := hHeld.trans (hb.mono hHeld.size)
    clear hHeld hb
    have hHeld := hH2
    clear hH2
    go_wp2_with fail
    refine hK.out _ _ (hHeld) (fun hHeld => ?_)
    clear hK K
    refine wpAnyH_ready (rs := [15]) (by kernel_rfl) (by simp) ?_
    refine AllReadyH.cons rfl (fun K hK => ?_) AllReadyH.nil
    go_simp
    refine (rSurvC x0 x1 c0 c1 a2 _ (RA.out.to hHeld) (RB.out.to hHeld) DA.out DB.out).mono ?_
    rintro e wx ⟨rfl, hb⟩
    have hH2 := hHeld.trans (hb.mono hHeld.size)
    clear hHeld hb
    have hHeld := hH2
    clear hH2
    go_wp2_with fail
    refine hK.out _ _ (hHeld) (fun hHeld => ?_)
    clear hK K
    rw [SV.out]
    refine wpAnyH_takeD (i := 16) (d := 35) (v := ?_) rfl rfl (by kernel_rfl) (by kernel_rfl) (by kernel_rfl) (fun _ _ _ h => h) (Or.inl ⟨by rfl, ?_⟩) (by assumption) ?_
    rotate_left 1
    · intro w hSw; (try dsimp only at hSw); go_simp; (try with_reducible rfl)
    simp only [List.setIfInBounds_toArray, List.set_cons_zero, List.set_cons_succ]
    refine wpAnyH_takeD (i := 17) (d := 36) (v := ?_) rfl rfl (by kernel_rfl) (by kernel_rfl) (by kernel_rfl) (fun _ _ _ h => h) (Or.inl ⟨by rfl, ?_⟩) (by assumption) ?_
    rotate_left 1
    · intro w hSw; (try dsimp only at hSw); go_simp; (try with_reducible rfl)
    simp only [List.setIfInBounds_toArray, List.set_cons_zero, List.set_cons_succ]
    refine wpAnyH_done (by kernel_rfl) ?_ _
    have BF := Lib.hid hHeld
    clear hHeld ZC SV
    go_upto_region 6 with (fail)
    obtain ⟨we, hwe⟩ : ∃ x, wx.drew = x := ⟨_, rfl⟩
    replace BF := Lib.hid BF.out.drew
    rw [hwe] at BF
    refine wp_region_held_drew (S := (fun w' => Below wd.heap.size wd w')) (by kernel_rfl) ((by rw [hwe]; exact BF.out)) (fun hHeld => ?_)
    rw [hwe] at hHeld ⊢
    clear hwe BF
    refine wpAnyH_takeD (i := 0) (d := 37) (v := ?_) rfl rfl (by kernel_rfl) (by kernel_rfl) (by kernel_rfl) (fun _ _ _ h => h) (Or.inl ⟨by rfl, ?_⟩) (by assumption) ?_
    rotate_left 1
    · intro w hSw; (try dsimp only at hSw); have t := cf_cells (YD.out.to hSw); obtain ⟨t0, t1, t2⟩ := t; go_simp; (try with_reducible rfl)
    simp only [List.setIfInBounds_toArray, List.set_cons_zero, List.set_cons_succ]
    refine wpAnyH_takeD (i := 1) (d := 38) (v := ?_) rfl rfl (by kernel_rfl) (by kernel_rfl) (by kernel_rfl) (fun _ _ _ h => h) (Or.inl ⟨by rfl, ?_⟩) (by assumption) ?_
    rotate_left 1
    · intro w hSw; (try dsimp only at hSw); have t := cf_cells (YC.out.to hSw); obtain ⟨t0, t1, t2⟩ := t; go_simp; (try with_reducible rfl)
    simp only [List.setIfInBounds_toArray, List.set_cons_zero, List.set_cons_succ]
    refine wpAnyH_takeD (i := 3) (d := 40) (v := ?_) rfl rfl (by kernel_rfl) (by kernel_rfl) (by kernel_rfl) (fun _ _ _ h => h) (Or.inl ⟨by rfl, ?_⟩) (by assumption) ?_
    rotate_left 1
    · intro w hSw; (try dsimp only at hSw); have t := cf_cells (XA.out.to hSw); obtain ⟨t0, t1, t2⟩ := t; go_simp; (try with_reducible rfl)
    simp only [List.setIfInBounds_toArray, List.set_cons_zero, List.set_cons_succ]
    refine wpAnyH_takeD (i := 4) (d := 41) (v := ?_) rfl rfl (by kernel_rfl) (by kernel_rfl) (by kernel_rfl) (fun _ _ _ h => h) (Or.inl ⟨by rfl, ?_⟩) (by assumption) ?_
    rotate_left 1
    · intro w hSw; (try dsimp only at hSw); have t := cf_cells (XB.out.to hSw); obtain ⟨t0, t1, t2⟩ := t; go_simp; (try with_reducible rfl)
    simp only [List.setIfInBounds_toArray, List.set_cons_zero, List.set_cons_succ]
    refine wpAnyH_ready (rs := [2]) (by kernel_rfl) (by simp) ?_
    refine AllReadyH.cons rfl (fun K hK => ?_) AllReadyH.nil
    go_simp
    refine (wPartsZ y0 y1 c0 c1 PL.out _ (R0.out.to hHeld) (R1.out.to hHeld) DY0.out DY1.out).mono ?_
    rintro e wx ⟨u, rfl, ⟨A1, n1, k1, rfl, hr1⟩, hb⟩
    have hH2 := hHeld.trans (hb.mono hHeld.size)
    have HR1 := Lib.hid hr1
    clear hHeld hb hr1
    have hHeld := hH2
    clear hH2
    go_wp2_with fail
    refine hK.out _ _ (hHeld) (fun hHeld => ?_)
    clear hK K
    refine wpAnyH_ready (rs := [5]) (by kernel_rfl) (by simp) ?_
    refine AllReadyH.cons rfl (fun K hK => ?_) AllReadyH.nil
    go_simp
    refine (rPartsC x0 x1 c0 c1 false _ (RA.out.to hHeld) (RB.out.to hHeld) DA.out DB.out).mono ?_
    rintro e wx ⟨A2, n2, k2, rfl, ho2, hb⟩
    have hH2 := hHeld.trans (hb.mono hHeld.size)
    have HR2 := Lib.hid (RdZ.of_own ho2)
    replace HR1 := Lib.hid (HR1.out.to hb)
    rw [PL.out] at HR2
    clear hHeld hb ho2
    have hHeld := hH2
    clear hH2
    go_wp2_with fail
    refine hK.out _ _ (hHeld) (fun hHeld => ?_)
    clear hK K
    have HN1 : Hid (n1 ≤ 1000) := by (show _ ≤ _); have h1 := HR1.out.1; have h2 := NL.out; omega
    refine wpAnyH_ready (rs := [6]) (by kernel_rfl) (by simp) ?_
    refine AllReadyH.cons rfl (fun K hK => ?_) AllReadyH.nil
    go_simp
    refine (lSame13 A1 A2 n1 n2 k1 k2 lp lp _ HR1.out HR2.out HN1.out).mono ?_
    rintro e wx ⟨rfl, hb⟩
    have hH2 := hHeld.trans (hb.mono hHeld.size)
    clear hHeld hb
    have hHeld := hH2
    clear hH2
    go_wp2_with fail
    refine hK.out _ _ (hHeld) (fun hHeld => ?_)
    clear hK K
    clear HR1 HR2 HN1
    refine wpAnyH_takeD (i := 7) (d := 44) (v := ?_) rfl rfl (by kernel_rfl) (by kernel_rfl) (by kernel_rfl) (fun _ _ _ h => h) (Or.inl ⟨by rfl, ?_⟩) (by assumption) ?_
    rotate_left 1
    · intro w hSw; (try dsimp only at hSw); go_simp; (try with_reducible rfl)
    simp only [List.setIfInBounds_toArray, List.set_cons_zero, List.set_cons_succ]
    refine wpAnyH_takeD (i := 8) (d := 45) (v := ?_) rfl rfl (by kernel_rfl) (by kernel_rfl) (by kernel_rfl) (fun _ _ _ h => h) (Or.inl ⟨by rfl, ?_⟩) (by assumption) ?_
    rotate_left 1
    · intro w hSw; (try dsimp only at hSw); have t := cf_cells (YD.out.to hSw); obtain ⟨t0, t1, t2⟩ := t; go_simp; (try with_reducible rfl)
    simp only [List.setIfInBounds_toArray, List.set_cons_zero, List.set_cons_succ]
    refine wpAnyH_takeD (i := 9) (d := 46) (v := ?_) rfl rfl (by kernel_rfl) (by kernel_rfl) (by kernel_rfl) (fun _ _ _ h => h) (Or.inl ⟨by rfl, ?_⟩) (by assumption) ?_
    rotate_left 1
    · intro w hSw; (try dsimp only at hSw); have t := cf_cells (XA.out.to hSw); obtain ⟨t0, t1, t2⟩ := t; go_simp; (try with_reducible rfl)
    simp only [List.setIfInBounds_toArray, List.set_cons_zero, List.set_cons_succ]
    have hs0 : sameCf c0 c0 = true := decide_eq_true rfl
    have hs1 : sameCf c1 c1 = true := decide_eq_true rfl
    have HS0 := Lib.hid hs0
    have HS1 := Lib.hid hs1
    clear hs0 hs1
    refine wpAnyH_ready (rs := [10]) (by kernel_rfl) (by simp) ?_
    refine AllReadyH.cons rfl (fun K hK => ?_) AllReadyH.nil
    go_simp
    refine (rSameCf y0 x0 c0 c0 _ (R0.out.to hHeld) (RA.out.to hHeld) DY0.out.1 DY0.out.2.1 DY0.out.2.2).mono ?_
    rintro e wx ⟨rfl, hb⟩
    have hH2 := hHeld.trans (hb.mono hHeld.size)
    clear hHeld hb
    have hHeld := hH2
    clear hH2
    go_wp2_with fail
    refine hK.out _ _ (hHeld) (fun hHeld => ?_)
    clear hK K
    rw [HS0.out]
    refine wpAnyH_takeD (i := 11) (d := 48) (v := ?_) rfl rfl (by kernel_rfl) (by kernel_rfl) (by kernel_rfl) (fun _ _ _ h => h) (Or.inl ⟨by rfl, ?_⟩) (by assumption) ?_
    rotate_left 1
    · intro w hSw; (try dsimp only at hSw); go_simp; (try with_reducible rfl)
    simp only [List.setIfInBounds_toArray, List.set_cons_zero, List.set_cons_succ]
    refine wpAnyH_takeD (i := 12) (d := 49) (v := ?_) rfl rfl (by kernel_rfl) (by kernel_rfl) (by kernel_rfl) (fun _ _ _ h => h) (Or.inl ⟨by rfl, ?_⟩) (by assumption) ?_
    rotate_left 1
    · intro w hSw; (try dsimp only at hSw); go_simp; (try with_reducible rfl)
    simp only [List.setIfInBounds_toArray, List.set_cons_zero, List.set_cons_succ]
    refine wpAnyH_takeD (i := 13) (d := 50) (v := ?_) rfl rfl (by kernel_rfl) (by kernel_rfl) (by kernel_rfl) (fun _ _ _ h => h) (Or.inl ⟨by rfl, ?_⟩) (by assumption) ?_
    rotate_left 1
    · intro w hSw; (try dsimp only at hSw); have t := cf_cells (YC.out.to hSw); obtain ⟨t0, t1, t2⟩ := t; go_simp; (try with_reducible rfl)
    simp only [List.setIfInBounds_toArray, List.set_cons_zero, List.set_cons_succ]
    refine wpAnyH_takeD (i := 14) (d := 51) (v := ?_) rfl rfl (by kernel_rfl) (by kernel_rfl) (by kernel_rfl) (fun _ _ _ h => h) (Or.inl ⟨by rfl, ?_⟩) (by assumption) ?_
    rotate_left 1
    · intro w hSw; (try dsimp only at hSw); have t := cf_cells (XB.out.to hSw); obtain ⟨t0, t1, t2⟩ := t; go_simp; (try with_reducible rfl)
    simp only [List.setIfInBounds_toArray, List.set_cons_zero, List.set_cons_succ]
    refine wpAnyH_ready (rs := [15]) (by kernel_rfl) (by simp) ?_
    refine AllReadyH.cons rfl (fun K hK => ?_) AllReadyH.nil
    go_simp
    refine (rSameCf y1 x1 c1 c1 _ (R1.out.to hHeld) (RB.out.to hHeld) DY1.out.1 DY1.out.2.1 DY1.out.2.2).mono ?_
    rintro e wx ⟨rfl, hb⟩
    have hH2 := hHeld.trans (hb.mono hHeld.size)
    clear hHeld hb
    have hHeld := hH2
    clear hH2
    go_wp2_with fail
    refine hK.out _ _ (hHeld) (fun hHeld => ?_)
    clear hK K
    rw [HS1.out]
    refine wpAnyH_takeD (i := 16) (d := 53) (v := ?_) rfl rfl (by kernel_rfl) (by kernel_rfl) (by kernel_rfl) (fun _ _ _ h => h) (Or.inl ⟨by rfl, ?_⟩) (by assumption) ?_
    rotate_left 1
    · intro w hSw; (try dsimp only at hSw); go_simp; (try with_reducible rfl)
    simp only [List.setIfInBounds_toArray, List.set_cons_zero, List.set_cons_succ]
    refine wpAnyH_takeD (i := 17) (d := 54) (v := ?_) rfl rfl (by kernel_rfl) (by kernel_rfl) (by kernel_rfl) (fun _ _ _ h => h) (Or.inl ⟨by rfl, ?_⟩) (by assumption) ?_
    rotate_left 1
    · intro w hSw; (try dsimp only at hSw); go_simp; (try with_reducible rfl)
    simp only [List.setIfInBounds_toArray, List.set_cons_zero, List.set_cons_succ]
    refine wpAnyH_ready (rs := [18]) (by kernel_rfl) (by simp) ?_
    refine AllReadyH.cons rfl (fun K hK => ?_) AllReadyH.nil
    go_simp
    refine (lAwake13 _).mono ?_
    rintro e wx ⟨rfl, hb⟩
    have hH2 := hHeld.trans (hb.mono hHeld.size)
    clear hHeld hb
    have hHeld := hH2
    clear hH2
    go_wp2_with fail
    refine hK.out _ _ (hHeld) (fun hHeld => ?_)
    clear hK K
    refine wpAnyH_takeD (i := 19) (d := 56) (v := ?_) rfl rfl (by kernel_rfl) (by kernel_rfl) (by kernel_rfl) (fun _ _ _ h => h) (Or.inl ⟨by rfl, ?_⟩) (by assumption) ?_
    rotate_left 1
    · intro w hSw; (try dsimp only at hSw); go_simp; (try with_reducible rfl)
    simp only [List.setIfInBounds_toArray, List.set_cons_zero, List.set_cons_succ]
    refine wpAnyH_takeD (i := 20) (d := 6) (v := ?_) rfl rfl (by kernel_rfl) (by kernel_rfl) (by kernel_rfl) (fun _ _ _ h => h) (Or.inl ⟨by rfl, ?_⟩) (by assumption) ?_
    rotate_left 1
    · intro w hSw; (try dsimp only at hSw); go_simp; (try with_reducible rfl)
    simp only [List.setIfInBounds_toArray, List.set_cons_zero, List.set_cons_succ]
    refine wpAnyH_done (by kernel_rfl) ?_ _
    have BF := Lib.hid (B.out.trans (hHeld.mono B.out.size))
    clear hHeld
    go_wp2_with fail
    go_ret
    exact ⟨rfl, BF.out⟩

set_option maxRecDepth 100000 in
theorem lifted (os : Os) (started : os.Started) (H : Type) (enc : TypeId × Value → H) :
    ReturnsInHanded {} Try.checked os 3 .any (Rows.compatChecksSpec.pre6 enc Try.prog Try.f3 Rows.compatChecksRow.domain false) (Rows.compatChecksSpec.post enc Try.prog Try.f3 false true false false) := by
  refine returnsInHanded_of_change_sized (C := Try.checked) own started (by kernel_rfl) Try.func3
    (ChangeSpec.witness6 (enc := enc) (C := Try.checked) false ⟨#[], #[.agg #[.slice none 0 0, .slice none 0 0, .slice none 0 0], .agg #[.slice none 0 0, .slice none 0 0, .slice none 0 0], .int .i64 0], []⟩ 8 (by kernel_rfl) (by kernel_rfl) (by kernel_rfl) (by kernel_rfl)) ?_
  intro W base args ds gs before hval0 hW hcnd hsz0 _
  have hval : ∀ (j : Nat) t v, Try.f3.params[j]? = some t → args[j]? = some v → Value.okWide Try.prog W .any base t v := hval0
  have hsz : (DataW.weightsEach Try.prog (Try.f3.params.toList ++ Rows.compatChecksSpec.plain.varTypes Try.prog) (ds ++ gs)).all (· ≤ reachBytes) = true := hsz0
  have hW' := hW
  obtain ⟨p, q, hA0, hV, rfl, hfz, hnd⟩ := hW
  have hA : DataW.TrodAll enc Try.prog W 0 (fun _ => true) true Try.f3.params.toList args.toList ds p := hA0
  rw [Try.params3] at hA hval hsz
  obtain ⟨v0, vs0, d0, ds0, p0, q0, hargs, rfl, rfl, h0, r0⟩ := trodAll_cons hA
  obtain ⟨v1, vs1, d1, ds1, p1, q1, rfl, rfl, rfl, h1, r1⟩ := trodAll_cons r0
  obtain ⟨v2, vs2, d2, ds2, p2, q2, rfl, rfl, rfl, h2, r2⟩ := trodAll_cons r1
  obtain ⟨rfl, rfl, rfl⟩ := trodAll_nil r2
  obtain rfl : args = #[v0, v1, v2] := by cases args; simp_all
  obtain ⟨rfl, rfl⟩ := trodVars_none hV
  have sz0 : ∀ x ∈ d0.weights Try.prog 26, x ≤ reachBytes := fun x hx => by simpa using List.all_eq_true.1 hsz _ (DataW.weights_mem_each (j := 0) rfl rfl x hx)
  have sz1 : ∀ x ∈ d1.weights Try.prog 26, x ≤ reachBytes := fun x hx => by simpa using List.all_eq_true.1 hsz _ (DataW.weights_mem_each (j := 1) rfl rfl x hx)
  have k0 := h0
  have lt0 : ∀ x ∈ p0, x.block < W.heap.size := by obtain ⟨m, hm⟩ := k0; exact DataW.trod_lt m _ _ _ hm
  obtain ⟨x0, c0, rfl, w0⟩ := open_config (hval 0 26 v0 rfl rfl) h0 sz0
  have k1 := h1
  have lt1 : ∀ x ∈ p1, x.block < W.heap.size := by obtain ⟨m, hm⟩ := k1; exact DataW.trod_lt m _ _ _ hm
  obtain ⟨x1, c1, rfl, w1⟩ := open_config (hval 1 26 v1 rfl rfl) h1 sz1
  obtain ⟨a2, rfl, rfl, rfl, w2⟩ := open_int Try.underlying3 (hval 2 3 v2 rfl rfl) h2
  clear hA0 hval0
  refine (walk x0 c0 x1 c1 a2 W w0 w1 w2).mono fun e W' ⟨he, bel⟩ => ?_
  subst he
  exact ⟨_, rfl, _, _, _, [], _, [], hW', trodAll_mk1 (shut_bool Try.underlying4 _), (trodAll_cons_mk (Below.trod laidOut (by kernel_rfl) (of_decide_eq_true (by kernel_rfl)) k0 bel lt0) (trodAll_cons_mk (Below.trod laidOut (by kernel_rfl) (of_decide_eq_true (by kernel_rfl)) k1 bel lt1) (trodAll_cons_mk (shut_int Try.underlying3 w2) trodAll_mk0))), rfl, bel.frame _, fun h => by cases h⟩

theorem over : Rows.compatChecksRow.holds Try.pinned (OpenSpec.ofChange Rows.compatChecksSpec) :=
  OpenClaim.holds_of_wide 3 Try.f3 rfl rfl rfl rfl rfl rfl rfl ⟨rfl, rfl, rfl, rfl, rfl⟩ rfl rfl rfl rfl rfl (by kernel_rfl) Try.func3 (by kernel_rfl)
    (of_decide_eq_true (by kernel_rfl)) (by unfold Func.isWrapper; first | (rw [if_pos (by decide +kernel)]; kernel_rfl) | (rw [if_neg (by decide +kernel)]; exact ⟨rfl, rfl⟩))
    (fun os started H enc _ => lifted os started H enc)

theorem proved : Rows.CompatChecksSaid := over
end Go.Proofs.Ytecedmjhhaabgaa.compatChecks
