/- For any configuration the law ConfigPrints of citadellaw11 returns true: whether it can be written, and its form, is as the chapter says; it stays as it was (config.Can, Print). -/
import Derived.Test.YtljgliagciblbaaRows
import Derived.Test.YtljgliagciblbaaCfLf
import Derived.Test.YtljgliagciblbaaCfLc
import Derived.Test.YtljgliagciblbaaCfV
import Derived.Test.YtljgliagciblbaaCfT
import Derived.SizedLaws
import Derived.WalkKit
import Derived.ProofKit
import Derived.OpenShut
import Derived.ShutString
import Derived.ChangeOld
import Derived.Below
namespace Go.Proofs.Ytljgliagciblbaa.configPrints
open Go.ChangeShapes Go.WideShapes Go.ChangeAt Go.RowKit
open Go.ChangeMaps (open_string shut_string)
set_option linter.unusedVariables false
set_option linter.unusedSimpArgs false

theorem own : ownKnob Try.prog.godebug = none := by kernel_rfl
theorem laidOut : laidOutB Try.prog = true := by kernel_rfl

theorem same_self (c : Cf) : sameCf c c = true := decide_eq_true rfl
theorem pr_len {c : Cf} (h : canC c = false) : (prB c).length = 0 := by rw [(pr_no h).1]; rfl
set_option maxRecDepth 1000000 in
set_option maxHeartbeats 4000000 in
theorem walk (x0 : CV) (c0 : Cf) (w : World) (w0 : RdCf w w.heap.size x0 c0 ∧ x0.kw ≤ 9223372036854775807 ∧ x0.kp ≤ 9223372036854775807 ∧ x0.kc ≤ 9223372036854775807 ∧ CfWf c0) :
    Calls Try.prog 3 #[.agg #[.slice x0.aw x0.nw x0.kw, .slice x0.ap x0.np x0.kp, .slice x0.ac x0.nc x0.kc]] w fun e w' => e = .returned (.bool true) ∧ Below w.heap.size w w' := by
  obtain ⟨r0, -, -, -, -⟩ := w0
  obtain ⟨wa, hwa, hb1, hx, hr⟩ := one_box w r0
  have HWA := Lib.hid hwa
  have B := Lib.hid hb1
  have X := Lib.hid hx
  have R := Lib.hid hr
  clear r0 hwa hb1 hx hr
  go_enter Try.func3, Try.ntmps3
  go_upto_region 1 with (fail)
  rw [HWA.out]
  clear HWA
  have p1 := X.out.at (j := 0) rfl
  have p2 := X.out.at (j := 1) rfl
  have p3 := X.out.at (j := 2) rfl
  go_wp2_with fail
  refine (lGreat x0 c0 wa R.out).mono ?_
  rintro e wb ⟨rfl, hb⟩
  replace X := Lib.hid (X.out.to hb)
  replace R := Lib.hid (R.out.to hb)
  replace B := Lib.hid (B.out.trans (hb.mono B.out.size))
  clear hb p1 p2 p3
  cases hg : greatC c0
  rotate_left 1
  · skip
    go_wp2_with fail
    go_ret
    exact ⟨rfl, B.out⟩
  obtain ⟨hnw, hnp, hnc, hni⟩ := bounds_of R.out hg
  have HNW := Lib.hid hnw
  have HNP := Lib.hid hnp
  have HNC := Lib.hid hnc
  have HNI := Lib.hid hni
  clear hg hnw hnp hnc hni
  have p1 := X.out.at (j := 0) rfl
  have p2 := X.out.at (j := 1) rfl
  have p3 := X.out.at (j := 2) rfl
  go_wp2_with fail
  refine (lCopied x0 c0 wb R.out HNW.out HNP.out HNC.out HNI.out).mono ?_
  rintro e wc ⟨v1, rfl, ho, hb⟩
  clear p1 p2 p3
  have R1 := Lib.hid ho.rd
  replace X := Lib.hid (X.out.to hb)
  replace R := Lib.hid (R.out.to hb)
  replace B := Lib.hid (B.out.trans (hb.mono B.out.size))
  clear ho hb
  obtain ⟨aw4, nw4, kw4, ap4, np4, kp4, ac4, nc4, kc4⟩ := v1
  dsimp only [CV.val]
  have hb := (Below.refl wc.heap.size wc).alloc (Nat.le_refl _) (.cells #[.slice aw4 nw4 kw4, .slice ap4 np4 kp4, .slice ac4 nc4 kc4] 26)
  have Y : Hid (Bx (wc.alloc (.cells #[.slice aw4 nw4 kw4, .slice ap4 np4 kp4, .slice ac4 nc4 kc4] 26)) wc.heap.size 26 [.slice aw4 nw4 kw4, .slice ap4 np4 kp4, .slice ac4 nc4 kc4]) := Bx.new wc _ [.slice aw4 nw4 kw4, .slice ap4 np4 kp4, .slice ac4 nc4 kc4]
  replace R1 := Lib.hid (R1.out.to hb)
  replace X := Lib.hid (X.out.to hb)
  replace R := Lib.hid (R.out.to hb)
  replace B := Lib.hid (B.out.trans (hb.mono B.out.size))
  clear hb
  go_upto_region 4 with (fail)
  generalize hgx : wc.heap.size = gx at *
  replace hgx := Lib.hid hgx
  generalize wc.alloc (.cells #[.slice aw4 nw4 kw4, .slice ap4 np4 kp4, .slice ac4 nc4 kc4] 26) = wd at *
  obtain ⟨hnw, hnp, hnc, -⟩ : np4 ≤ 1000 ∧ np4 ≤ 1000 ∧ np4 ≤ 1000 ∧ True := by
    have h1 : c0.ps.length = np4 := R1.out.pp.1
    have h2 : c0.ps.length = x0.np := R.out.pp.1
    have := HNP.out
    exact ⟨by omega, by omega, by omega, trivial⟩
  have HP4 := Lib.hid hnp
  clear hnw hnp hnc
  have q1 := Y.out.at (j := 0) rfl
  have q2 := Y.out.at (j := 1) rfl
  have q3 := Y.out.at (j := 2) rfl
  go_wp2_with fail
  refine (wPrint ⟨aw4, nw4, kw4, ap4, np4, kp4, ac4, nc4, kc4⟩ c0 wd R1.out HP4.out).mono ?_
  rintro e we ⟨A, n, k, rfl, ho, hk1, hk2, hb⟩
  have HO := Lib.hid ho
  replace X := Lib.hid (X.out.to hb)
  replace R := Lib.hid (R.out.to hb)
  replace B := Lib.hid (B.out.trans (hb.mono B.out.size))
  replace Y := Lib.hid (Y.out.to hb)
  replace R1 := Lib.hid (R1.out.to hb)
  clear ho hk1 hk2 hb q1 q2 q3
  cases hc : canC c0
  · have HC := Lib.hid hc
    rw [(pr_no hc).2]
    obtain rfl : n = 0 := by have := HO.out.1.1; rw [pr_len hc] at this; exact this.symm
    clear hc HO
    have p1 := X.out.at (j := 0) rfl
    have p2 := X.out.at (j := 1) rfl
    have p3 := X.out.at (j := 2) rfl
    go_wp2_with fail
    refine (rCan x0 c0 we R.out HNP.out).mono ?_
    rintro e wf ⟨rfl, hb⟩
    rw [HC.out]
    replace X := Lib.hid (X.out.to hb)
    replace R := Lib.hid (R.out.to hb)
    replace B := Lib.hid (B.out.trans (hb.mono B.out.size))
    replace Y := Lib.hid (Y.out.to hb)
    replace R1 := Lib.hid (R1.out.to hb)
    clear hb p1 p2 p3
    have q1 := Y.out.at (j := 0) rfl
    have q2 := Y.out.at (j := 1) rfl
    have q3 := Y.out.at (j := 2) rfl
    go_wp2_with fail
    refine (pCanOf ⟨aw4, nw4, kw4, ap4, np4, kp4, ac4, nc4, kc4⟩ c0 wf R1.out HP4.out).mono ?_
    rintro e wg ⟨rfl, hb⟩
    rw [HC.out]
    replace X := Lib.hid (X.out.to hb)
    replace R := Lib.hid (R.out.to hb)
    replace B := Lib.hid (B.out.trans (hb.mono B.out.size))
    replace Y := Lib.hid (Y.out.to hb)
    replace R1 := Lib.hid (R1.out.to hb)
    clear hb q1 q2 q3
    have p1 := X.out.at (j := 0) rfl
    have p2 := X.out.at (j := 1) rfl
    have p3 := X.out.at (j := 2) rfl
    have q1 := Y.out.at (j := 0) rfl
    have q2 := Y.out.at (j := 1) rfl
    have q3 := Y.out.at (j := 2) rfl
    go_wp2_with fail
    refine (rSameCf ⟨aw4, nw4, kw4, ap4, np4, kp4, ac4, nc4, kc4⟩ x0 c0 c0 wg R1.out R.out (by have h1 : c0.ws.length = nw4 := R1.out.ww.1; have h2 : c0.ws.length = x0.nw := R.out.ww.1; have := HNW.out; show nw4 ≤ 1000; omega) HP4.out (by have h1 : c0.cs.length = nc4 := R1.out.cc.1; have h2 : c0.cs.length = x0.nc := R.out.cc.1; have := HNC.out; show nc4 ≤ 1000; omega)).mono ?_
    rintro e wh ⟨rfl, hb⟩
    rw [same_self]
    replace X := Lib.hid (X.out.to hb)
    replace R := Lib.hid (R.out.to hb)
    replace B := Lib.hid (B.out.trans (hb.mono B.out.size))
    replace Y := Lib.hid (Y.out.to hb)
    replace R1 := Lib.hid (R1.out.to hb)
    clear hb p1 p2 p3 q1 q2 q3
    go_wp2_with fail
    refine (lAwake _).mono ?_
    rintro e wz ⟨rfl, hb⟩
    have BZ := Lib.hid (B.out.trans (hb.mono B.out.size))
    clear hb
    go_wp2_with fail
    go_ret
    exact ⟨rfl, BZ.out⟩
  · have HC := Lib.hid hc
    rw [(pr_yes hc).2]
    rw [(pr_yes hc).1] at HO
    have RF := Lib.hid HO.out.1
    clear hc HO
    have p1 := X.out.at (j := 0) rfl
    have p2 := X.out.at (j := 1) rfl
    have p3 := X.out.at (j := 2) rfl
    go_wp2_with fail
    refine (rCan x0 c0 we R.out HNP.out).mono ?_
    rintro e wf ⟨rfl, hb⟩
    rw [HC.out]
    replace X := Lib.hid (X.out.to hb)
    replace R := Lib.hid (R.out.to hb)
    replace B := Lib.hid (B.out.trans (hb.mono B.out.size))
    replace Y := Lib.hid (Y.out.to hb)
    replace R1 := Lib.hid (R1.out.to hb)
    replace RF := Lib.hid (RF.out.to hb)
    clear hb p1 p2 p3
    have q1 := Y.out.at (j := 0) rfl
    have q2 := Y.out.at (j := 1) rfl
    have q3 := Y.out.at (j := 2) rfl
    go_wp2_with fail
    refine (pCanOf ⟨aw4, nw4, kw4, ap4, np4, kp4, ac4, nc4, kc4⟩ c0 wf R1.out HP4.out).mono ?_
    rintro e wg ⟨rfl, hb⟩
    rw [HC.out]
    replace X := Lib.hid (X.out.to hb)
    replace R := Lib.hid (R.out.to hb)
    replace B := Lib.hid (B.out.trans (hb.mono B.out.size))
    replace Y := Lib.hid (Y.out.to hb)
    replace R1 := Lib.hid (R1.out.to hb)
    replace RF := Lib.hid (RF.out.to hb)
    clear hb q1 q2 q3
    have p1 := X.out.at (j := 0) rfl
    have p2 := X.out.at (j := 1) rfl
    have p3 := X.out.at (j := 2) rfl
    have q1 := Y.out.at (j := 0) rfl
    have q2 := Y.out.at (j := 1) rfl
    have q3 := Y.out.at (j := 2) rfl
    go_wp2_with fail
    refine (rSameCf ⟨aw4, nw4, kw4, ap4, np4, kp4, ac4, nc4, kc4⟩ x0 c0 c0 wg R1.out R.out (by have h1 : c0.ws.length = nw4 := R1.out.ww.1; have h2 : c0.ws.length = x0.nw := R.out.ww.1; have := HNW.out; show nw4 ≤ 1000; omega) HP4.out (by have h1 : c0.cs.length = nc4 := R1.out.cc.1; have h2 : c0.cs.length = x0.nc := R.out.cc.1; have := HNC.out; show nc4 ≤ 1000; omega)).mono ?_
    rintro e wh ⟨rfl, hb⟩
    rw [same_self]
    replace X := Lib.hid (X.out.to hb)
    replace R := Lib.hid (R.out.to hb)
    replace B := Lib.hid (B.out.trans (hb.mono B.out.size))
    replace Y := Lib.hid (Y.out.to hb)
    replace R1 := Lib.hid (R1.out.to hb)
    replace RF := Lib.hid (RF.out.to hb)
    clear hb p1 p2 p3 q1 q2 q3 Y R1
    go_wp2_with fail
    obtain ⟨wi, hwd⟩ : ∃ wi, wh.drew = wi := ⟨_, rfl⟩
    have HD : Hid (Below wh.heap.size wh wi) := by (show Below _ _ _); rw [← hwd]; exact (Below.refl _ wh).drew
    have hb := HD.out
    replace RF := Lib.hid (RF.out.to hb)
    replace X := Lib.hid (X.out.to hb)
    replace R := Lib.hid (R.out.to hb)
    replace B := Lib.hid (B.out.trans (hb.mono B.out.size))
    clear hb HD
    have SK : Hid (∀ w', Below wi.heap.size wi w' → ((w'.cell? ⟨w.heap.size, 0, none⟩ = some (.slice x0.aw x0.nw x0.kw) ∧ w'.cell? ⟨w.heap.size, 1, none⟩ = some (.slice x0.ap x0.np x0.kp) ∧ w'.cell? ⟨w.heap.size, 2, none⟩ = some (.slice x0.ac x0.nc x0.kc)) ∧ Rd w' wi.heap.size A n (formC c0))) := fun W hW => ⟨⟨(X.out.to hW).at (j := 0) rfl, (X.out.to hW).at (j := 1) rfl, (X.out.to hW).at (j := 2) rfl⟩, RF.out.below hW⟩
    obtain ⟨s1, hs1, hs1'⟩ := str_is (formC c0)
    have HS1 := Lib.hid hs1
    have heq : (s1.toList == s1.toList) = true := by simp
    clear hs1 hs1'
    have BD : Hid (Below wi.heap.size wi wi) := Below.refl _ _
    refine wp_region_held_drew (S := (fun w' => ((w'.cell? ⟨w.heap.size, 0, none⟩ = some (.slice x0.aw x0.nw x0.kw) ∧ w'.cell? ⟨w.heap.size, 1, none⟩ = some (.slice x0.ap x0.np x0.kp) ∧ w'.cell? ⟨w.heap.size, 2, none⟩ = some (.slice x0.ac x0.nc x0.kc)) ∧ Rd w' wi.heap.size A n (formC c0)))) (by kernel_rfl) ((by rw [hwd]; exact SK.out _ (Below.refl _ _))) (fun hHeld => ?_)
    rw [hwd] at hHeld ⊢
    clear hwd
    refine wpAnyH_take (i := 0) (v := ?_) rfl (by kernel_rfl) (by kernel_rfl) (by kernel_rfl) (fun _ _ _ h => h) (Or.inl ⟨by rfl, ?_⟩) (by assumption) ?_
    rotate_left 1
    · intro w hSw; (try dsimp only at hSw); go_simp; (try with_reducible rfl)
    simp only [Act.put, List.getElem_toArray, List.getElem_cons_zero, List.getElem_cons_succ, List.setIfInBounds_toArray, List.set_cons_zero, List.set_cons_succ]
    refine wpAnyH_take (i := 1) (v := ?_) rfl (by kernel_rfl) (by kernel_rfl) (by kernel_rfl) (fun _ _ _ h => h) (Or.inl ⟨by rfl, ?_⟩) (by assumption) ?_
    rotate_left 1
    · intro w hSw; (try dsimp only at hSw); have hcv := hSw.2.strC (c := k) HS1.out; go_simp; (try with_reducible rfl)
    simp only [Act.put, List.getElem_toArray, List.getElem_cons_zero, List.getElem_cons_succ, List.setIfInBounds_toArray, List.set_cons_zero, List.set_cons_succ]
    refine wpAnyH_take (i := 2) (v := ?_) rfl (by kernel_rfl) (by kernel_rfl) (by kernel_rfl) (fun _ _ _ h => h) (Or.inl ⟨by rfl, ?_⟩) (by assumption) ?_
    rotate_left 1
    · intro w hSw; (try dsimp only at hSw); go_simp; (try with_reducible rfl)
    simp only [Act.put, List.getElem_toArray, List.getElem_cons_zero, List.getElem_cons_succ, List.setIfInBounds_toArray, List.set_cons_zero, List.set_cons_succ]
    refine wpAnyH_ready (rs := [3]) (by kernel_rfl) (by simp) ?_
    refine AllReadyH.cons rfl (fun K hK => ?_) AllReadyH.nil
    go_simp
    refine (rForm x0 c0 wi R.out HC.out).mono ?_
    rintro e wj ⟨A5, n5, c5, rfl, hown5, hb⟩
    have R5 := Lib.hid (Rd.of_own hown5)
    replace BD := Lib.hid hb
    clear hown5 hb hHeld
    go_wp2_with fail
    refine hK.out _ _ (SK.out _ BD.out) (fun hHeld => ?_)
    clear hK K
    have hcv := R5.out.strC (c := c5) HS1.out
    refine wpAnyH_ready (rs := [4]) (by kernel_rfl) (by simp) ?_
    refine AllReadyH.cons rfl (fun K hK => ?_) AllReadyH.nil
    go_simp
    refine hK.out _ _ (SK.out _ BD.out) (fun hHeld => ?_)
    clear hK K
    clear hcv
    refine wpAnyH_take (i := 5) (v := ?_) rfl (by kernel_rfl) (by kernel_rfl) (by kernel_rfl) (fun _ _ _ h => h) (Or.inl ⟨by rfl, ?_⟩) (by assumption) ?_
    rotate_left 1
    · intro w hSw; (try dsimp only at hSw); go_simp; (try with_reducible rfl)
    simp only [Act.put, List.getElem_toArray, List.getElem_cons_zero, List.getElem_cons_succ, List.setIfInBounds_toArray, List.set_cons_zero, List.set_cons_succ]
    refine wpAnyH_take (i := 6) (v := ?_) rfl (by kernel_rfl) (by kernel_rfl) (by kernel_rfl) (fun _ _ _ h => h) (Or.inl ⟨by rfl, ?_⟩) (by assumption) ?_
    rotate_left 1
    · intro w hSw; (try dsimp only at hSw); go_simp; (try with_reducible rfl)
    simp only [Act.put, List.getElem_toArray, List.getElem_cons_zero, List.getElem_cons_succ, List.setIfInBounds_toArray, List.set_cons_zero, List.set_cons_succ]
    refine wpAnyH_take (i := 7) (v := ?_) rfl (by kernel_rfl) (by kernel_rfl) (by kernel_rfl) (fun _ _ _ h => h) (Or.inl ⟨by rfl, ?_⟩) (by assumption) ?_
    rotate_left 1
    · intro w hSw; (try dsimp only at hSw); go_simp; (try with_reducible rfl)
    simp only [Act.put, List.getElem_toArray, List.getElem_cons_zero, List.getElem_cons_succ, List.setIfInBounds_toArray, List.set_cons_zero, List.set_cons_succ]
    refine wpAnyH_take (i := 8) (v := ?_) rfl (by kernel_rfl) (by kernel_rfl) (by kernel_rfl) (fun _ _ _ h => h) (Or.inl ⟨by rfl, ?_⟩) (by assumption) ?_
    rotate_left 1
    · intro w hSw; (try dsimp only at hSw); go_simp; (try with_reducible rfl)
    simp only [Act.put, List.getElem_toArray, List.getElem_cons_zero, List.getElem_cons_succ, List.setIfInBounds_toArray, List.set_cons_zero, List.set_cons_succ]
    refine wpAnyH_take (i := 9) (v := ?_) rfl (by kernel_rfl) (by kernel_rfl) (by kernel_rfl) (fun _ _ _ h => h) (Or.inl ⟨by rfl, ?_⟩) (by assumption) ?_
    rotate_left 1
    · intro w hSw; (try dsimp only at hSw); go_simp; (try with_reducible rfl)
    simp only [Act.put, List.getElem_toArray, List.getElem_cons_zero, List.getElem_cons_succ, List.setIfInBounds_toArray, List.set_cons_zero, List.set_cons_succ]
    refine wpAnyH_take (i := 10) (v := ?_) rfl (by kernel_rfl) (by kernel_rfl) (by kernel_rfl) (fun _ _ _ h => h) (Or.inl ⟨by rfl, ?_⟩) (by assumption) ?_
    rotate_left 1
    · intro w hSw; (try dsimp only at hSw); go_simp; (try with_reducible rfl)
    simp only [Act.put, List.getElem_toArray, List.getElem_cons_zero, List.getElem_cons_succ, List.setIfInBounds_toArray, List.set_cons_zero, List.set_cons_succ]
    refine wpAnyH_ready (rs := [11]) (by kernel_rfl) (by simp) ?_
    refine AllReadyH.cons rfl (fun K hK => ?_) AllReadyH.nil
    go_simp
    refine (lAwake wj).mono ?_
    rintro e wk ⟨rfl, hb⟩
    replace BD := Lib.hid (BD.out.trans (hb.mono BD.out.size))
    clear hb hHeld
    go_wp2_with fail
    refine hK.out _ _ (SK.out _ BD.out) (fun hHeld => ?_)
    clear hK K
    refine wpAnyH_take (i := 12) (v := ?_) rfl (by kernel_rfl) (by kernel_rfl) (by kernel_rfl) (fun _ _ _ h => h) (Or.inl ⟨by rfl, ?_⟩) (by assumption) ?_
    rotate_left 1
    · intro w hSw; (try dsimp only at hSw); go_simp; (try with_reducible rfl)
    simp only [Act.put, List.getElem_toArray, List.getElem_cons_zero, List.getElem_cons_succ, List.setIfInBounds_toArray, List.set_cons_zero, List.set_cons_succ]
    refine wpAnyH_take (i := 13) (v := ?_) rfl (by kernel_rfl) (by kernel_rfl) (by kernel_rfl) (fun _ _ _ h => h) (Or.inl ⟨by rfl, ?_⟩) (by assumption) ?_
    rotate_left 1
    · intro w hSw; (try dsimp only at hSw); go_simp; (try with_reducible rfl)
    simp only [Act.put, List.getElem_toArray, List.getElem_cons_zero, List.getElem_cons_succ, List.setIfInBounds_toArray, List.set_cons_zero, List.set_cons_succ]
    refine wpAnyH_done (by kernel_rfl) ?_ _
    clear hHeld
    go_wp2_with fail
    go_ret
    exact ⟨rfl, B.out.trans (BD.out.mono B.out.size)⟩

set_option maxRecDepth 100000 in
theorem lifted (os : Os) (started : os.Started) (H : Type) (enc : TypeId × Value → H) :
    ReturnsInHanded {} Try.checked os 3 .any (Rows.configPrintsSpec.pre6 enc Try.prog Try.f3 Rows.configPrintsRow.domain false) (Rows.configPrintsSpec.post enc Try.prog Try.f3 false true false false) := by
  refine returnsInHanded_of_change_sized (C := Try.checked) own started (by kernel_rfl) Try.func3
    (ChangeSpec.witness6 (enc := enc) (C := Try.checked) false ⟨#[], #[.agg #[.slice none 0 0, .slice none 0 0, .slice none 0 0]], []⟩ 8 (by kernel_rfl) (by kernel_rfl) (by kernel_rfl) (by kernel_rfl)) ?_
  intro W base args ds gs before hval0 hW hcnd hsz0 _
  have hval : ∀ (j : Nat) t v, Try.f3.params[j]? = some t → args[j]? = some v → Value.okWide Try.prog W .any base t v := hval0
  have hsz : (DataW.weightsEach Try.prog (Try.f3.params.toList ++ Rows.configPrintsSpec.plain.varTypes Try.prog) (ds ++ gs)).all (· ≤ reachBytes) = true := hsz0
  have hW' := hW
  obtain ⟨p, q, hA0, hV, rfl, hfz, hnd⟩ := hW
  have hA : DataW.TrodAll enc Try.prog W 0 (fun _ => true) true Try.f3.params.toList args.toList ds p := hA0
  rw [Try.params3] at hA hval hsz
  obtain ⟨v0, vs0, d0, ds0, p0, q0, hargs, rfl, rfl, h0, r0⟩ := trodAll_cons hA
  obtain ⟨rfl, rfl, rfl⟩ := trodAll_nil r0
  obtain rfl : args = #[v0] := by cases args; simp_all
  obtain ⟨rfl, rfl⟩ := trodVars_none hV
  have sz0 : ∀ x ∈ d0.weights Try.prog 26, x ≤ reachBytes := fun x hx => by simpa using List.all_eq_true.1 hsz _ (DataW.weights_mem_each (j := 0) rfl rfl x hx)
  have k0 := h0
  have lt0 : ∀ x ∈ p0, x.block < W.heap.size := by obtain ⟨m, hm⟩ := k0; exact DataW.trod_lt m _ _ _ hm
  obtain ⟨x0, c0, rfl, w0⟩ := open_config (hval 0 26 v0 rfl rfl) h0 sz0
  clear hA0 hval0
  refine (walk x0 c0 W w0).mono fun e W' ⟨he, bel⟩ => ?_
  subst he
  exact ⟨_, rfl, _, _, _, [], _, [], hW', trodAll_mk1 (shut_bool Try.underlying4 _), (trodAll_cons_mk (Below.trod laidOut (by kernel_rfl) (of_decide_eq_true (by kernel_rfl)) k0 bel lt0) trodAll_mk0), rfl, bel.frame _, fun h => by cases h⟩

theorem over : Rows.configPrintsRow.holds Try.pinned (OpenSpec.ofChange Rows.configPrintsSpec) :=
  OpenClaim.holds_of_wide 3 Try.f3 rfl rfl rfl rfl rfl rfl rfl ⟨rfl, rfl, rfl, rfl, rfl⟩ rfl rfl rfl rfl rfl (by kernel_rfl) Try.func3 (by kernel_rfl)
    (of_decide_eq_true (by kernel_rfl)) (by unfold Func.isWrapper; first | (rw [if_pos (by decide +kernel)]; kernel_rfl) | (rw [if_neg (by decide +kernel)]; exact ⟨rfl, rfl⟩))
    (fun os started H enc _ => lifted os started H enc)

theorem proved : Rows.ConfigPrintsSaid := over
end Go.Proofs.Ytljgliagciblbaa.configPrints
