/- For any two configurations the law ConfigForms of citadellaw11 returns true: two that can be written have one form just if they are the same (config.Print, Same). -/
import Derived.Test.YtljgliagciblbaaRows
import Derived.Test.YtljgliagciblbaaCfLf
import Derived.SizedLaws
import Derived.WalkKit
import Derived.ProofKit
import Derived.OpenShut
import Derived.ShutString
import Derived.ChangeOld
import Derived.Below
namespace Go.Proofs.Ytljgliagciblbaa.configForms
open Go.ChangeShapes Go.WideShapes Go.ChangeAt Go.RowKit
open Go.ChangeMaps (open_string shut_string)
set_option linter.unusedVariables false
set_option linter.unusedSimpArgs false

theorem own : ownKnob Try.prog.godebug = none := by kernel_rfl
theorem laidOut : laidOutB Try.prog = true := by kernel_rfl


set_option maxRecDepth 1000000 in
set_option maxHeartbeats 4000000 in
theorem walk (x0 : CV) (c0 : Cf) (x1 : CV) (c1 : Cf) (w : World) (w0 : RdCf w w.heap.size x0 c0 ∧ x0.kw ≤ 9223372036854775807 ∧ x0.kp ≤ 9223372036854775807 ∧ x0.kc ≤ 9223372036854775807 ∧ CfWf c0) (w1 : RdCf w w.heap.size x1 c1 ∧ x1.kw ≤ 9223372036854775807 ∧ x1.kp ≤ 9223372036854775807 ∧ x1.kc ≤ 9223372036854775807 ∧ CfWf c1) :
    Calls Try.prog 7 #[.agg #[.slice x0.aw x0.nw x0.kw, .slice x0.ap x0.np x0.kp, .slice x0.ac x0.nc x0.kc], .agg #[.slice x1.aw x1.nw x1.kw, .slice x1.ap x1.np x1.kp, .slice x1.ac x1.nc x1.kc]] w fun e w' => e = .returned (.bool true) ∧ Below w.heap.size w w' := by
  obtain ⟨r0, -, -, -, wf0⟩ := w0
  obtain ⟨r1, -, -, -, wf1⟩ := w1
  have WF := Lib.hid (inC_wf wf0)
  have WF' := Lib.hid (inC_wf wf1)
  obtain ⟨wa, hwa, hb1, hx, hy, hr, hr'⟩ := two_boxC w r0 r1
  have HWA := Lib.hid hwa
  have B := Lib.hid hb1
  have X := Lib.hid hx
  have Y := Lib.hid hy
  have R := Lib.hid hr
  have R' := Lib.hid hr'
  clear r0 wf0 r1 wf1 hwa hb1 hx hy hr hr'
  go_enter Try.func7, Try.ntmps7
  go_upto_region 1 with (fail)
  rw [HWA.out]
  clear HWA
  have p1 := X.out.at (j := 0) rfl
  have p2 := X.out.at (j := 1) rfl
  have p3 := X.out.at (j := 2) rfl
  have q1 := Y.out.at (j := 0) rfl
  have q2 := Y.out.at (j := 1) rfl
  have q3 := Y.out.at (j := 2) rfl
  go_wp2_with fail
  refine (lGreat x0 c0 wa R.out).mono ?_
  rintro e wb ⟨rfl, hb⟩
  replace X := Lib.hid (X.out.to hb)
  replace Y := Lib.hid (Y.out.to hb)
  replace R := Lib.hid (R.out.to hb)
  replace R' := Lib.hid (R'.out.to hb)
  replace B := Lib.hid (B.out.trans (hb.mono B.out.size))
  clear hb p1 p2 p3 q1 q2 q3
  cases hg : greatC c0
  rotate_left 1
  · skip
    go_wp2_with fail
    refine (lAwake _).mono ?_
    rintro e wz ⟨rfl, hb⟩
    have BZ := Lib.hid (B.out.trans (hb.mono B.out.size))
    clear hb
    go_wp2_with fail
    go_ret
    exact ⟨rfl, BZ.out⟩
  obtain ⟨hnw, hnp, hnc, -⟩ := bounds_of R.out hg
  have HNW := Lib.hid hnw
  have HNP := Lib.hid hnp
  have HNC := Lib.hid hnc
  clear hg hnw hnp hnc
  have p1 := X.out.at (j := 0) rfl
  have p2 := X.out.at (j := 1) rfl
  have p3 := X.out.at (j := 2) rfl
  have q1 := Y.out.at (j := 0) rfl
  have q2 := Y.out.at (j := 1) rfl
  have q3 := Y.out.at (j := 2) rfl
  go_wp2_with fail
  refine (lGreat x1 c1 wb R'.out).mono ?_
  rintro e wc ⟨rfl, hb⟩
  replace X := Lib.hid (X.out.to hb)
  replace Y := Lib.hid (Y.out.to hb)
  replace R := Lib.hid (R.out.to hb)
  replace R' := Lib.hid (R'.out.to hb)
  replace B := Lib.hid (B.out.trans (hb.mono B.out.size))
  clear hb p1 p2 p3 q1 q2 q3
  cases hg : greatC c1
  rotate_left 1
  · skip
    go_wp2_with fail
    refine (lAwake _).mono ?_
    rintro e wz ⟨rfl, hb⟩
    have BZ := Lib.hid (B.out.trans (hb.mono B.out.size))
    clear hb
    go_wp2_with fail
    go_ret
    exact ⟨rfl, BZ.out⟩
  obtain ⟨-, hnp, -, -⟩ := bounds_of R'.out hg
  have HNP' := Lib.hid hnp
  clear hg hnp
  have p1 := X.out.at (j := 0) rfl
  have p2 := X.out.at (j := 1) rfl
  have p3 := X.out.at (j := 2) rfl
  have q1 := Y.out.at (j := 0) rfl
  have q2 := Y.out.at (j := 1) rfl
  have q3 := Y.out.at (j := 2) rfl
  go_wp2_with fail
  refine (pCanOf x0 c0 wc R.out HNP.out).mono ?_
  rintro e wd ⟨rfl, hb⟩
  replace X := Lib.hid (X.out.to hb)
  replace Y := Lib.hid (Y.out.to hb)
  replace R := Lib.hid (R.out.to hb)
  replace R' := Lib.hid (R'.out.to hb)
  replace B := Lib.hid (B.out.trans (hb.mono B.out.size))
  clear hb p1 p2 p3 q1 q2 q3
  cases hc : canC c0
  · skip
    go_wp2_with fail
    refine (lAwake _).mono ?_
    rintro e wz ⟨rfl, hb⟩
    have BZ := Lib.hid (B.out.trans (hb.mono B.out.size))
    clear hb
    go_wp2_with fail
    go_ret
    exact ⟨rfl, BZ.out⟩
  have HC := Lib.hid hc
  clear hc
  have p1 := X.out.at (j := 0) rfl
  have p2 := X.out.at (j := 1) rfl
  have p3 := X.out.at (j := 2) rfl
  have q1 := Y.out.at (j := 0) rfl
  have q2 := Y.out.at (j := 1) rfl
  have q3 := Y.out.at (j := 2) rfl
  go_wp2_with fail
  refine (pCanOf x1 c1 wd R'.out HNP'.out).mono ?_
  rintro e we ⟨rfl, hb⟩
  replace X := Lib.hid (X.out.to hb)
  replace Y := Lib.hid (Y.out.to hb)
  replace R := Lib.hid (R.out.to hb)
  replace R' := Lib.hid (R'.out.to hb)
  replace B := Lib.hid (B.out.trans (hb.mono B.out.size))
  clear hb p1 p2 p3 q1 q2 q3
  cases hc : canC c1
  · skip
    go_wp2_with fail
    refine (lAwake _).mono ?_
    rintro e wz ⟨rfl, hb⟩
    have BZ := Lib.hid (B.out.trans (hb.mono B.out.size))
    clear hb
    go_wp2_with fail
    go_ret
    exact ⟨rfl, BZ.out⟩
  have HC' := Lib.hid hc
  clear hc
  have p1 := X.out.at (j := 0) rfl
  have p2 := X.out.at (j := 1) rfl
  have p3 := X.out.at (j := 2) rfl
  have q1 := Y.out.at (j := 0) rfl
  have q2 := Y.out.at (j := 1) rfl
  have q3 := Y.out.at (j := 2) rfl
  go_wp2_with fail
  refine (wPrint x0 c0 we R.out HNP.out).mono ?_
  rintro e wf ⟨A, n, k, rfl, ho, -, -, hb⟩
  rw [(pr_yes HC.out).2]
  rw [(pr_yes HC.out).1] at ho
  have RF := Lib.hid ho.1
  clear ho
  replace X := Lib.hid (X.out.to hb)
  replace Y := Lib.hid (Y.out.to hb)
  replace R := Lib.hid (R.out.to hb)
  replace R' := Lib.hid (R'.out.to hb)
  replace B := Lib.hid (B.out.trans (hb.mono B.out.size))
  clear hb p1 p2 p3 q1 q2 q3
  have p1 := X.out.at (j := 0) rfl
  have p2 := X.out.at (j := 1) rfl
  have p3 := X.out.at (j := 2) rfl
  have q1 := Y.out.at (j := 0) rfl
  have q2 := Y.out.at (j := 1) rfl
  have q3 := Y.out.at (j := 2) rfl
  go_wp2_with fail
  refine (wPrint x1 c1 wf R'.out HNP'.out).mono ?_
  rintro e wg ⟨A', n', k', rfl, ho, -, -, hb⟩
  rw [(pr_yes HC'.out).2]
  rw [(pr_yes HC'.out).1] at ho
  have RF' := Lib.hid ho.1
  replace RF := Lib.hid (RF.out.to hb)
  clear ho
  replace X := Lib.hid (X.out.to hb)
  replace Y := Lib.hid (Y.out.to hb)
  replace R := Lib.hid (R.out.to hb)
  replace R' := Lib.hid (R'.out.to hb)
  replace B := Lib.hid (B.out.trans (hb.mono B.out.size))
  clear hb p1 p2 p3 q1 q2 q3
  go_wp2_with fail
  obtain ⟨wh, hwd⟩ : ∃ wh, wg.drew = wh := ⟨_, rfl⟩
  have HD : Hid (Below wg.heap.size wg wh) := by (show Below _ _ _); rw [← hwd]; exact (Below.refl _ wg).drew
  have hb := HD.out
  have p1 : True := trivial
  have p2 : True := trivial
  have p3 : True := trivial
  have q1 : True := trivial
  have q2 : True := trivial
  have q3 : True := trivial
  replace RF := Lib.hid (RF.out.to hb)
  replace RF' := Lib.hid (RF'.out.to hb)
  replace X := Lib.hid (X.out.to hb)
  replace Y := Lib.hid (Y.out.to hb)
  replace R := Lib.hid (R.out.to hb)
  replace R' := Lib.hid (R'.out.to hb)
  replace B := Lib.hid (B.out.trans (hb.mono B.out.size))
  clear hb p1 p2 p3 q1 q2 q3
  have SK : Hid (∀ w', Below wh.heap.size wh w' → ((w'.cell? ⟨w.heap.size, 0, none⟩ = some (.slice x0.aw x0.nw x0.kw) ∧ w'.cell? ⟨w.heap.size, 1, none⟩ = some (.slice x0.ap x0.np x0.kp) ∧ w'.cell? ⟨w.heap.size, 2, none⟩ = some (.slice x0.ac x0.nc x0.kc)) ∧ (w'.cell? ⟨w.heap.size + 1, 0, none⟩ = some (.slice x1.aw x1.nw x1.kw) ∧ w'.cell? ⟨w.heap.size + 1, 1, none⟩ = some (.slice x1.ap x1.np x1.kp) ∧ w'.cell? ⟨w.heap.size + 1, 2, none⟩ = some (.slice x1.ac x1.nc x1.kc))) ∧ Rd w' wh.heap.size A n (formC c0) ∧ Rd w' wh.heap.size A' n' (formC c1)) := fun W hW => ⟨⟨⟨(X.out.to hW).at (j := 0) rfl, (X.out.to hW).at (j := 1) rfl, (X.out.to hW).at (j := 2) rfl⟩, (Y.out.to hW).at (j := 0) rfl, (Y.out.to hW).at (j := 1) rfl, (Y.out.to hW).at (j := 2) rfl⟩, RF.out.below hW, RF'.out.below hW⟩
  obtain ⟨s1, hs1, hs1'⟩ := str_is (formC c0)
  obtain ⟨s2, hs2, hs2'⟩ := str_is (formC c1)
  have HS1 := Lib.hid hs1
  have HS2 := Lib.hid hs2
  obtain ⟨z, hz⟩ : ∃ z, sameCf c0 c1 = z := ⟨_, rfl⟩
  have HZ := Lib.hid hz
  have heq : (s1.toList == s2.toList) = z := by rw [str_eq hs1' hs2', same_forms HC.out WF.out HC'.out WF'.out, hz]
  clear hs1 hs1' hs2 hs2' hz HD
  have BD : Hid (Below wh.heap.size wh wh) := Below.refl _ _
  refine wp_region_held_drew (S := (fun w' => ((w'.cell? ⟨w.heap.size, 0, none⟩ = some (.slice x0.aw x0.nw x0.kw) ∧ w'.cell? ⟨w.heap.size, 1, none⟩ = some (.slice x0.ap x0.np x0.kp) ∧ w'.cell? ⟨w.heap.size, 2, none⟩ = some (.slice x0.ac x0.nc x0.kc)) ∧ (w'.cell? ⟨w.heap.size + 1, 0, none⟩ = some (.slice x1.aw x1.nw x1.kw) ∧ w'.cell? ⟨w.heap.size + 1, 1, none⟩ = some (.slice x1.ap x1.np x1.kp) ∧ w'.cell? ⟨w.heap.size + 1, 2, none⟩ = some (.slice x1.ac x1.nc x1.kc))) ∧ Rd w' wh.heap.size A n (formC c0) ∧ Rd w' wh.heap.size A' n' (formC c1))) (by kernel_rfl) ((by rw [hwd]; exact SK.out _ (Below.refl _ _))) (fun hHeld => ?_)
  rw [hwd] at hHeld ⊢
  clear hwd
  refine wpAnyH_take (i := 0) (v := ?_) rfl (by kernel_rfl) (by kernel_rfl) (by kernel_rfl) (fun _ _ _ h => h) (Or.inl ⟨by rfl, ?_⟩) (by assumption) ?_
  rotate_left 1
  · intro w hSw; (try dsimp only at hSw); go_simp; (try with_reducible rfl)
  simp only [Act.put, List.getElem_toArray, List.getElem_cons_zero, List.getElem_cons_succ, List.setIfInBounds_toArray, List.set_cons_zero, List.set_cons_succ]
  refine wpAnyH_take (i := 1) (v := ?_) rfl (by kernel_rfl) (by kernel_rfl) (by kernel_rfl) (fun _ _ _ h => h) (Or.inl ⟨by rfl, ?_⟩) (by assumption) ?_
  rotate_left 1
  · intro w hSw; (try dsimp only at hSw); go_simp; (try with_reducible rfl)
  simp only [Act.put, List.getElem_toArray, List.getElem_cons_zero, List.getElem_cons_succ, List.setIfInBounds_toArray, List.set_cons_zero, List.set_cons_succ]
  refine wpAnyH_take (i := 2) (v := ?_) rfl (by kernel_rfl) (by kernel_rfl) (by kernel_rfl) (fun _ _ _ h => h) (Or.inl ⟨by rfl, ?_⟩) (by assumption) ?_
  rotate_left 1
  · intro w hSw; (try dsimp only at hSw); go_simp; (try with_reducible rfl)
  simp only [Act.put, List.getElem_toArray, List.getElem_cons_zero, List.getElem_cons_succ, List.setIfInBounds_toArray, List.set_cons_zero, List.set_cons_succ]
  refine wpAnyH_take (i := 3) (v := ?_) rfl (by kernel_rfl) (by kernel_rfl) (by kernel_rfl) (fun _ _ _ h => h) (Or.inl ⟨by rfl, ?_⟩) (by assumption) ?_
  rotate_left 1
  · intro w hSw; (try dsimp only at hSw); go_simp; (try with_reducible rfl)
  simp only [Act.put, List.getElem_toArray, List.getElem_cons_zero, List.getElem_cons_succ, List.setIfInBounds_toArray, List.set_cons_zero, List.set_cons_succ]
  refine wpAnyH_take (i := 4) (v := ?_) rfl (by kernel_rfl) (by kernel_rfl) (by kernel_rfl) (fun _ _ _ h => h) (Or.inl ⟨by rfl, ?_⟩) (by assumption) ?_
  rotate_left 1
  · intro w hSw; (try dsimp only at hSw); go_simp; (try with_reducible rfl)
  simp only [Act.put, List.getElem_toArray, List.getElem_cons_zero, List.getElem_cons_succ, List.setIfInBounds_toArray, List.set_cons_zero, List.set_cons_succ]
  refine wpAnyH_take (i := 5) (v := ?_) rfl (by kernel_rfl) (by kernel_rfl) (by kernel_rfl) (fun _ _ _ h => h) (Or.inl ⟨by rfl, ?_⟩) (by assumption) ?_
  rotate_left 1
  · intro w hSw; (try dsimp only at hSw); go_simp; (try with_reducible rfl)
  simp only [Act.put, List.getElem_toArray, List.getElem_cons_zero, List.getElem_cons_succ, List.setIfInBounds_toArray, List.set_cons_zero, List.set_cons_succ]
  refine wpAnyH_take (i := 6) (v := ?_) rfl (by kernel_rfl) (by kernel_rfl) (by kernel_rfl) (fun _ _ _ h => h) (Or.inl ⟨by rfl, ?_⟩) (by assumption) ?_
  rotate_left 1
  · intro w hSw; (try dsimp only at hSw); go_simp; (try with_reducible rfl)
  simp only [Act.put, List.getElem_toArray, List.getElem_cons_zero, List.getElem_cons_succ, List.setIfInBounds_toArray, List.set_cons_zero, List.set_cons_succ]
  refine wpAnyH_take (i := 7) (v := ?_) rfl (by kernel_rfl) (by kernel_rfl) (by kernel_rfl) (fun _ _ _ h => h) (Or.inl ⟨by rfl, ?_⟩) (by assumption) ?_
  rotate_left 1
  · intro w hSw; (try dsimp only at hSw); go_simp; (try with_reducible rfl)
  simp only [Act.put, List.getElem_toArray, List.getElem_cons_zero, List.getElem_cons_succ, List.setIfInBounds_toArray, List.set_cons_zero, List.set_cons_succ]
  refine wpAnyH_take (i := 8) (v := ?_) rfl (by kernel_rfl) (by kernel_rfl) (by kernel_rfl) (fun _ _ _ h => h) (Or.inl ⟨by rfl, ?_⟩) (by assumption) ?_
  rotate_left 1
  · intro w hSw; (try dsimp only at hSw); have hcv := hSw.2.1.strC (c := k) HS1.out; go_simp; (try with_reducible rfl)
  simp only [Act.put, List.getElem_toArray, List.getElem_cons_zero, List.getElem_cons_succ, List.setIfInBounds_toArray, List.set_cons_zero, List.set_cons_succ]
  refine wpAnyH_take (i := 9) (v := ?_) rfl (by kernel_rfl) (by kernel_rfl) (by kernel_rfl) (fun _ _ _ h => h) (Or.inl ⟨by rfl, ?_⟩) (by assumption) ?_
  rotate_left 1
  · intro w hSw; (try dsimp only at hSw); go_simp; (try with_reducible rfl)
  simp only [Act.put, List.getElem_toArray, List.getElem_cons_zero, List.getElem_cons_succ, List.setIfInBounds_toArray, List.set_cons_zero, List.set_cons_succ]
  refine wpAnyH_take (i := 10) (v := ?_) rfl (by kernel_rfl) (by kernel_rfl) (by kernel_rfl) (fun _ _ _ h => h) (Or.inl ⟨by rfl, ?_⟩) (by assumption) ?_
  rotate_left 1
  · intro w hSw; (try dsimp only at hSw); have hcv := hSw.2.2.strC (c := k') HS2.out; go_simp; (try with_reducible rfl)
  simp only [Act.put, List.getElem_toArray, List.getElem_cons_zero, List.getElem_cons_succ, List.setIfInBounds_toArray, List.set_cons_zero, List.set_cons_succ]
  refine wpAnyH_take (i := 11) (v := ?_) rfl (by kernel_rfl) (by kernel_rfl) (by kernel_rfl) (fun _ _ _ h => h) (Or.inl ⟨by rfl, ?_⟩) (by assumption) ?_
  rotate_left 1
  · intro w hSw; (try dsimp only at hSw); go_simp; (try with_reducible rfl)
  simp only [Act.put, List.getElem_toArray, List.getElem_cons_zero, List.getElem_cons_succ, List.setIfInBounds_toArray, List.set_cons_zero, List.set_cons_succ]
  refine wpAnyH_take (i := 12) (v := ?_) rfl (by kernel_rfl) (by kernel_rfl) (by kernel_rfl) (fun _ _ _ h => h) (Or.inl ⟨by rfl, ?_⟩) (by assumption) ?_
  rotate_left 1
  · intro w hSw; (try dsimp only at hSw); go_simp; (try with_reducible rfl)
  simp only [Act.put, List.getElem_toArray, List.getElem_cons_zero, List.getElem_cons_succ, List.setIfInBounds_toArray, List.set_cons_zero, List.set_cons_succ]
  refine wpAnyH_take (i := 13) (v := ?_) rfl (by kernel_rfl) (by kernel_rfl) (by kernel_rfl) (fun _ _ _ h => h) (Or.inl ⟨by rfl, ?_⟩) (by assumption) ?_
  rotate_left 1
  · intro w hSw; (try dsimp only at hSw); go_simp; (try with_reducible rfl)
  simp only [Act.put, List.getElem_toArray, List.getElem_cons_zero, List.getElem_cons_succ, List.setIfInBounds_toArray, List.set_cons_zero, List.set_cons_succ]
  refine wpAnyH_ready (rs := [14]) (by kernel_rfl) (by simp) ?_
  refine AllReadyH.cons rfl (fun K hK => ?_) AllReadyH.nil
  go_simp
  refine (wSameCf x0 x1 c0 c1 wh R.out R'.out HNW.out HNP.out HNC.out).mono ?_
  rintro e wi ⟨rfl, hb⟩
  rw [HZ.out]
  replace BD := Lib.hid hb
  clear hb hHeld
  go_wp2_with fail
  refine hK.out _ _ (SK.out _ BD.out) (fun hHeld => ?_)
  clear hK K
  have hzz : (z == z) = true := by cases z <;> rfl
  refine wpAnyH_take (i := 15) (v := ?_) rfl (by kernel_rfl) (by kernel_rfl) (by kernel_rfl) (fun _ _ _ h => h) (Or.inl ⟨by rfl, ?_⟩) (by assumption) ?_
  rotate_left 1
  · intro w hSw; (try dsimp only at hSw); go_simp; (try with_reducible rfl)
  simp only [Act.put, List.getElem_toArray, List.getElem_cons_zero, List.getElem_cons_succ, List.setIfInBounds_toArray, List.set_cons_zero, List.set_cons_succ]
  refine wpAnyH_take (i := 16) (v := ?_) rfl (by kernel_rfl) (by kernel_rfl) (by kernel_rfl) (fun _ _ _ h => h) (Or.inl ⟨by rfl, ?_⟩) (by assumption) ?_
  rotate_left 1
  · intro w hSw; (try dsimp only at hSw); go_simp; (try with_reducible rfl)
  simp only [Act.put, List.getElem_toArray, List.getElem_cons_zero, List.getElem_cons_succ, List.setIfInBounds_toArray, List.set_cons_zero, List.set_cons_succ]
  refine wpAnyH_take (i := 17) (v := ?_) rfl (by kernel_rfl) (by kernel_rfl) (by kernel_rfl) (fun _ _ _ h => h) (Or.inl ⟨by rfl, ?_⟩) (by assumption) ?_
  rotate_left 1
  · intro w hSw; (try dsimp only at hSw); go_simp; (try with_reducible rfl)
  simp only [Act.put, List.getElem_toArray, List.getElem_cons_zero, List.getElem_cons_succ, List.setIfInBounds_toArray, List.set_cons_zero, List.set_cons_succ]
  refine wpAnyH_ready (rs := [18]) (by kernel_rfl) (by simp) ?_
  refine AllReadyH.cons rfl (fun K hK => ?_) AllReadyH.nil
  go_simp
  refine (lAwake wi).mono ?_
  rintro e wj ⟨rfl, hb⟩
  replace BD := Lib.hid (BD.out.trans (hb.mono BD.out.size))
  clear hb hHeld
  go_wp2_with fail
  refine hK.out _ _ (SK.out _ BD.out) (fun hHeld => ?_)
  clear hK K
  refine wpAnyH_take (i := 19) (v := ?_) rfl (by kernel_rfl) (by kernel_rfl) (by kernel_rfl) (fun _ _ _ h => h) (Or.inl ⟨by rfl, ?_⟩) (by assumption) ?_
  rotate_left 1
  · intro w hSw; (try dsimp only at hSw); go_simp; (try with_reducible rfl)
  simp only [Act.put, List.getElem_toArray, List.getElem_cons_zero, List.getElem_cons_succ, List.setIfInBounds_toArray, List.set_cons_zero, List.set_cons_succ]
  refine wpAnyH_take (i := 20) (v := ?_) rfl (by kernel_rfl) (by kernel_rfl) (by kernel_rfl) (fun _ _ _ h => h) (Or.inl ⟨by rfl, ?_⟩) (by assumption) ?_
  rotate_left 1
  · intro w hSw; (try dsimp only at hSw); go_simp; (try with_reducible rfl)
  simp only [Act.put, List.getElem_toArray, List.getElem_cons_zero, List.getElem_cons_succ, List.setIfInBounds_toArray, List.set_cons_zero, List.set_cons_succ]
  refine wpAnyH_done (by kernel_rfl) ?_ _
  clear hHeld
  go_wp2_with fail
  go_ret
  exact ⟨rfl, B.out.trans (BD.out.mono B.out.size)⟩

set_option maxRecDepth 100000 in
theorem lifted (os : Os) (started : os.Started) (H : Type) (enc : TypeId × Value → H) :
    ReturnsInHanded {} Try.checked os 7 .any (Rows.configFormsSpec.pre6 enc Try.prog Try.f7 Rows.configFormsRow.domain false) (Rows.configFormsSpec.post enc Try.prog Try.f7 false true false false) := by
  refine returnsInHanded_of_change_sized (C := Try.checked) own started (by kernel_rfl) Try.func7
    (ChangeSpec.witness6 (enc := enc) (C := Try.checked) false ⟨#[], #[.agg #[.slice none 0 0, .slice none 0 0, .slice none 0 0], .agg #[.slice none 0 0, .slice none 0 0, .slice none 0 0]], []⟩ 8 (by kernel_rfl) (by kernel_rfl) (by kernel_rfl) (by kernel_rfl)) ?_
  intro W base args ds gs before hval0 hW hcnd hsz0 _
  have hval : ∀ (j : Nat) t v, Try.f7.params[j]? = some t → args[j]? = some v → Value.okWide Try.prog W .any base t v := hval0
  have hsz : (DataW.weightsEach Try.prog (Try.f7.params.toList ++ Rows.configFormsSpec.plain.varTypes Try.prog) (ds ++ gs)).all (· ≤ reachBytes) = true := hsz0
  have hW' := hW
  obtain ⟨p, q, hA0, hV, rfl, hfz, hnd⟩ := hW
  have hA : DataW.TrodAll enc Try.prog W 0 (fun _ => true) true Try.f7.params.toList args.toList ds p := hA0
  rw [Try.params7] at hA hval hsz
  obtain ⟨v0, vs0, d0, ds0, p0, q0, hargs, rfl, rfl, h0, r0⟩ := trodAll_cons hA
  obtain ⟨v1, vs1, d1, ds1, p1, q1, rfl, rfl, rfl, h1, r1⟩ := trodAll_cons r0
  obtain ⟨rfl, rfl, rfl⟩ := trodAll_nil r1
  obtain rfl : args = #[v0, v1] := by cases args; simp_all
  obtain ⟨rfl, rfl⟩ := trodVars_none hV
  have sz0 : ∀ x ∈ d0.weights Try.prog 26, x ≤ reachBytes := fun x hx => by simpa using List.all_eq_true.1 hsz _ (DataW.weights_mem_each (j := 0) rfl rfl x hx)
  have sz1 : ∀ x ∈ d1.weights Try.prog 26, x ≤ reachBytes := fun x hx => by simpa using List.all_eq_true.1 hsz _ (DataW.weights_mem_each (j := 1) rfl rfl x hx)
  have k0 := h0
  have lt0 : ∀ x ∈ p0, x.block < W.heap.size := by obtain ⟨m, hm⟩ := k0; exact DataW.trod_lt m _ _ _ hm
  obtain ⟨x0, c0, rfl, w0⟩ := open_config (hval 0 26 v0 rfl rfl) h0 sz0
  have k1 := h1
  have lt1 : ∀ x ∈ p1, x.block < W.heap.size := by obtain ⟨m, hm⟩ := k1; exact DataW.trod_lt m _ _ _ hm
  obtain ⟨x1, c1, rfl, w1⟩ := open_config (hval 1 26 v1 rfl rfl) h1 sz1
  clear hA0 hval0
  refine (walk x0 c0 x1 c1 W w0 w1).mono fun e W' ⟨he, bel⟩ => ?_
  subst he
  exact ⟨_, rfl, _, _, _, [], _, [], hW', trodAll_mk1 (shut_bool Try.underlying4 _), (trodAll_cons_mk (Below.trod laidOut (by kernel_rfl) (of_decide_eq_true (by kernel_rfl)) k0 bel lt0) (trodAll_cons_mk (Below.trod laidOut (by kernel_rfl) (of_decide_eq_true (by kernel_rfl)) k1 bel lt1) trodAll_mk0)), rfl, bel.frame _, fun h => by cases h⟩

theorem over : Rows.configFormsRow.holds Try.pinned (OpenSpec.ofChange Rows.configFormsSpec) :=
  OpenClaim.holds_of_wide 7 Try.f7 rfl rfl rfl rfl rfl rfl rfl ⟨rfl, rfl, rfl, rfl, rfl⟩ rfl rfl rfl rfl rfl (by kernel_rfl) Try.func7 (by kernel_rfl)
    (of_decide_eq_true (by kernel_rfl)) (by unfold Func.isWrapper; first | (rw [if_pos (by decide +kernel)]; kernel_rfl) | (rw [if_neg (by decide +kernel)]; exact ⟨rfl, rfl⟩))
    (fun os started H enc _ => lifted os started H enc)

theorem proved : Rows.ConfigFormsSaid := over
end Go.Proofs.Ytljgliagciblbaa.configForms
