/- For any configuration the law ValidChecks of citadellaw12 returns true: what is wrong with it is as the chapter says; it stays as it was (valid.All, Check, Fits). -/
import Derived.Test.YtnaegbnijbdgbaaRows
import Derived.Test.YtnaegbnijbdgbaaVaXq
import Derived.Test.YtnaegbnijbdgbaaCfLq
import Derived.Test.YtnaegbnijbdgbaaCfLc
import Derived.Deep.DeepCutAuto
import Derived.SizedLaws
import Derived.WalkKit
import Derived.ProofKit
import Derived.OpenShut
import Derived.ShutString
import Derived.ChangeOld
import Derived.Below
namespace Go.Proofs.Ytnaegbnijbdgbaa.validChecks
open Go.ChangeShapes Go.WideShapes Go.ChangeAt Go.RowKit
open Go.ChangeMaps (open_string shut_string)
set_option linter.unusedVariables false
set_option linter.unusedSimpArgs false

theorem own : ownKnob Try.prog.godebug = none := by kernel_rfl
theorem laidOut : laidOutB Try.prog = true := by kernel_rfl

theorem same_self (c : Cf) : sameCf c c = true := decide_eq_true rfl
theorem fits_len (c : Cf) {n : Nat} (h : (allV c).length = n) : ((n : Int) == 0) = fitsV c := by
  unfold fitsV
  rw [h]
  by_cases h0 : n = 0
  · subst h0; rfl
  · rw [decide_eq_false h0, beq_eq_false_iff_ne]; omega
set_option maxRecDepth 1000000 in
set_option maxHeartbeats 4000000 in
theorem walk (x0 : CV) (c0 : Cf) (w : World) (w0 : RdCf w w.heap.size x0 c0 ∧ x0.kw ≤ 9223372036854775807 ∧ x0.kp ≤ 9223372036854775807 ∧ x0.kc ≤ 9223372036854775807 ∧ CfWf c0) :
    Calls Try.prog 3 #[.agg #[.slice x0.aw x0.nw x0.kw, .slice x0.ap x0.np x0.kp, .slice x0.ac x0.nc x0.kc]] w fun e w' => e = .returned (.bool true) ∧ Below w.heap.size w w' := by
  obtain ⟨r0, -, -, -, -⟩ := w0
  obtain ⟨wa, hwa, hb1, hx, hr⟩ := one_box w r0
  have HWA := Lib.hid hwa
  have B := Lib.hid hb1
  have X := Lib.hid hx
  have R := Lib.hid hr
  clear r0 hwa hb1 hx hr
  go_enter Try.func3, Try.ntmps3
  go_upto_region 1 with (fail)
  rw [HWA.out]
  clear HWA
  have p1 := X.out.at (j := 0) rfl
  have p2 := X.out.at (j := 1) rfl
  have p3 := X.out.at (j := 2) rfl
  go_wp2_with fail
  refine (lGreat x0 c0 wa R.out).mono ?_
  rintro e wb ⟨rfl, hb⟩
  replace X := Lib.hid (X.out.to hb)
  replace R := Lib.hid (R.out.to hb)
  replace B := Lib.hid (B.out.trans (hb.mono B.out.size))
  clear hb p1 p2 p3
  cases hg : greatC c0
  rotate_left 1
  · skip
    go_wp2_with fail
    go_ret
    exact ⟨rfl, B.out⟩
  obtain ⟨hnw, hnp, hnc, hni⟩ := bounds_of R.out hg
  have HNW := Lib.hid hnw
  have HNP := Lib.hid hnp
  have HNC := Lib.hid hnc
  have HNI := Lib.hid hni
  clear hg hnw hnp hnc hni
  have p1 := X.out.at (j := 0) rfl
  have p2 := X.out.at (j := 1) rfl
  have p3 := X.out.at (j := 2) rfl
  go_wp2_with fail
  refine (lCopied x0 c0 wb R.out HNW.out HNP.out HNC.out HNI.out).mono ?_
  rintro e wc ⟨v1, rfl, ho, hb⟩
  have R1 := Lib.hid ho.rd
  replace X := Lib.hid (X.out.to hb)
  replace R := Lib.hid (R.out.to hb)
  replace B := Lib.hid (B.out.trans (hb.mono B.out.size))
  clear ho hb p1 p2 p3
  obtain ⟨aw4, nw4, kw4, ap4, np4, kp4, ac4, nc4, kc4⟩ := v1
  dsimp only [CV.val]
  have hb := (Below.refl wc.heap.size wc).alloc (Nat.le_refl _) (.cells #[.slice aw4 nw4 kw4, .slice ap4 np4 kp4, .slice ac4 nc4 kc4] 26)
  have Y : Hid (Bx (wc.alloc (.cells #[.slice aw4 nw4 kw4, .slice ap4 np4 kp4, .slice ac4 nc4 kc4] 26)) wc.heap.size 26 [.slice aw4 nw4 kw4, .slice ap4 np4 kp4, .slice ac4 nc4 kc4]) := Bx.new wc _ [.slice aw4 nw4 kw4, .slice ap4 np4 kp4, .slice ac4 nc4 kc4]
  replace R1 := Lib.hid (R1.out.to hb)
  replace X := Lib.hid (X.out.to hb)
  replace R := Lib.hid (R.out.to hb)
  replace B := Lib.hid (B.out.trans (hb.mono B.out.size))
  clear hb
  go_upto_region 4 with (fail)
  generalize hgx : wc.heap.size = gx at *
  replace hgx := Lib.hid hgx
  generalize wc.alloc (.cells #[.slice aw4 nw4 kw4, .slice ap4 np4 kp4, .slice ac4 nc4 kc4] 26) = wd at *
  have HW4 : Hid (nw4 ≤ 1000) := by (show _ ≤ _); have h1 : c0.ws.length = nw4 := R1.out.ww.1; have h2 : c0.ws.length = x0.nw := R.out.ww.1; have := HNW.out; omega
  have HP4 : Hid (np4 ≤ 1000) := by (show _ ≤ _); have h1 : c0.ps.length = np4 := R1.out.pp.1; have h2 : c0.ps.length = x0.np := R.out.pp.1; have := HNP.out; omega
  have HC4 : Hid (nc4 ≤ 1000) := by (show _ ≤ _); have h1 : c0.cs.length = nc4 := R1.out.cc.1; have h2 : c0.cs.length = x0.nc := R.out.cc.1; have := HNC.out; omega
  obtain ⟨l, hl⟩ : ∃ l, allV c0 = l := ⟨_, rfl⟩
  obtain ⟨n, hn⟩ : ∃ n, l.length = n := ⟨_, rfl⟩
  have HL := Lib.hid hl
  have HN := Lib.hid hn
  have HN5 : Hid (n ≤ 5) := by (show _ ≤ _); rw [← hn, ← hl]; exact allV_len c0
  clear hl hn
  go_cut [4, 5] (fun s4 s5 wx => ∃ A k A' k', s4 = .slice A n k ∧ s5 = .slice A' n k' ∧ RdZ wx wx.heap.size A n l ∧ RdZ wx wx.heap.size A' n l ∧ Below wd.heap.size wd wx)
  case first =>
    obtain ⟨we, hwd⟩ : ∃ we, wd.drew = we := ⟨_, rfl⟩
    refine wp_region_held_drew (S := (fun w' => Below wd.heap.size wd w')) (by kernel_rfl) (((Below.refl _ wd).drew)) (fun hHeld => ?_)
    rw [hwd] at hHeld ⊢
    clear hwd
    refine wpAnyH_take (i := 0) (v := ?_) rfl (by kernel_rfl) (by kernel_rfl) (by kernel_rfl) (fun _ _ _ h => h) (Or.inl ⟨by rfl, ?_⟩) (by assumption) ?_
    rotate_left 1
    · intro w hSw; (try dsimp only at hSw); have t1 := (Y.out.to hSw).at (j := 0) rfl; have t2 := (Y.out.to hSw).at (j := 1) rfl; have t3 := (Y.out.to hSw).at (j := 2) rfl; go_simp; (try with_reducible rfl)
    simp only [Act.put, List.getElem_toArray, List.getElem_cons_zero, List.getElem_cons_succ, List.setIfInBounds_toArray, List.set_cons_zero, List.set_cons_succ]
    refine wpAnyH_take (i := 2) (v := ?_) rfl (by kernel_rfl) (by kernel_rfl) (by kernel_rfl) (fun _ _ _ h => h) (Or.inl ⟨by rfl, ?_⟩) (by assumption) ?_
    rotate_left 1
    · intro w hSw; (try dsimp only at hSw); have t1 := (X.out.to hSw).at (j := 0) rfl; have t2 := (X.out.to hSw).at (j := 1) rfl; have t3 := (X.out.to hSw).at (j := 2) rfl; go_simp; (try with_reducible rfl)
    simp only [Act.put, List.getElem_toArray, List.getElem_cons_zero, List.getElem_cons_succ, List.setIfInBounds_toArray, List.set_cons_zero, List.set_cons_succ]
    refine wpAnyH_ready (rs := [1]) (by kernel_rfl) (by simp) ?_
    refine AllReadyH.cons rfl (fun K hK => ?_) AllReadyH.nil
    go_simp
    refine (wAllV ⟨aw4, nw4, kw4, ap4, np4, kp4, ac4, nc4, kc4⟩ c0 we (R1.out.to hHeld) HW4.out HP4.out HC4.out).mono ?_
    rw [HL.out]
    rintro e wf ⟨A5, n5, k5, rfl, ho, hb⟩
    obtain rfl : n5 = n := by rw [← ho.1, HN.out]
    have Z5 := Lib.hid ho
    have BI := Lib.hid (hHeld.trans (hb.mono hHeld.size))
    clear ho hb hHeld
    go_wp2_with fail
    refine hK.out _ _ (BI.out) (fun hHeld => ?_)
    clear hK K
    refine wpAnyH_ready (rs := [3]) (by kernel_rfl) (by simp) ?_
    refine AllReadyH.cons rfl (fun K hK => ?_) AllReadyH.nil
    go_simp
    refine (rAllV x0 c0 wf (R.out.to BI.out) HNW.out HNP.out HNC.out).mono ?_
    rw [HL.out]
    rintro e wg ⟨A6, n6, k6, rfl, ho, hb⟩
    obtain rfl : n6 = n5 := by rw [← (RdZ.of_own ho).1, HN.out]
    have Z6 := Lib.hid (RdZ.of_own ho)
    replace Z5 := Lib.hid (Z5.out.to hb)
    replace BI := Lib.hid (BI.out.trans (hb.mono BI.out.size))
    clear ho hb hHeld
    go_wp2_with fail
    refine hK.out _ _ (BI.out) (fun hHeld => ?_)
    clear hK K
    refine wpAnyH_take (i := 4) (v := ?_) rfl (by kernel_rfl) (by kernel_rfl) (by kernel_rfl) (fun _ _ _ h => h) (Or.inl ⟨by rfl, ?_⟩) (by assumption) ?_
    rotate_left 1
    · intro w hSw; (try dsimp only at hSw); go_simp; (try with_reducible rfl)
    simp only [Act.put, List.getElem_toArray, List.getElem_cons_zero, List.getElem_cons_succ, List.setIfInBounds_toArray, List.set_cons_zero, List.set_cons_succ]
    refine wpAnyH_take (i := 5) (v := ?_) rfl (by kernel_rfl) (by kernel_rfl) (by kernel_rfl) (fun _ _ _ h => h) (Or.inl ⟨by rfl, ?_⟩) (by assumption) ?_
    rotate_left 1
    · intro w hSw; (try dsimp only at hSw); go_simp; (try with_reducible rfl)
    simp only [Act.put, List.getElem_toArray, List.getElem_cons_zero, List.getElem_cons_succ, List.setIfInBounds_toArray, List.set_cons_zero, List.set_cons_succ]
    refine wpAnyH_done (by kernel_rfl) ?_ _
    go_wp2_with fail
    go_meet
    exact ⟨_, _, _, _, rfl, rfl, Z5.out, Z6.out, BI.out⟩
  case rest =>
  obtain ⟨A5, k5, A6, k6, rfl, rfl, hz5, hz6, hb⟩ := hcut
  have Z5 := Lib.hid hz5
  have Z6 := Lib.hid hz6
  have BD := Lib.hid hb
  clear hz5 hz6 hb
  obtain ⟨we, hwe⟩ : ∃ x, x = wc := ⟨_, rfl⟩
  subst hwe
  go_upto_region 5 with (fail)
  go_cut [34] (fun s34 wx => s34 = .bool false ∧ Below we.heap.size we wx)
  case first =>
    obtain ⟨ck, hck⟩ : ∃ x, checkV c0 = x := ⟨_, rfl⟩
    obtain ⟨ft, hft⟩ : ∃ x, fitsV c0 = x := ⟨_, rfl⟩
    have HCK := Lib.hid hck
    have HFT := Lib.hid hft
    have h1 : ((n : Int) != (n : Int)) = false := by simp
    have h2 : (ck != ck) = false := by simp
    have h3 : ((n : Int) == 0) = ft := by rw [← hft]; exact fits_len c0 (by rw [HL.out]; exact HN.out)
    have h4 : (ft != ft) = false := by simp
    clear hck hft
    obtain ⟨wf, hwd⟩ : ∃ wf, we.drew = wf := ⟨_, rfl⟩
    refine wp_region_held_drew (S := (fun w' => Below we.heap.size we w')) (by kernel_rfl) (((Below.refl _ we).drew)) (fun hHeld => ?_)
    rw [hwd] at hHeld ⊢
    clear hwd
    refine wpAnyH_take (i := 0) (v := ?_) rfl (by kernel_rfl) (by kernel_rfl) (by kernel_rfl) (fun _ _ _ h => h) (Or.inl ⟨by rfl, ?_⟩) (by assumption) ?_
    rotate_left 1
    · intro w hSw; (try dsimp only at hSw); go_simp; (try with_reducible rfl)
    simp only [Act.put, List.getElem_toArray, List.getElem_cons_zero, List.getElem_cons_succ, List.setIfInBounds_toArray, List.set_cons_zero, List.set_cons_succ]
    refine wpAnyH_take (i := 1) (v := ?_) rfl (by kernel_rfl) (by kernel_rfl) (by kernel_rfl) (fun _ _ _ h => h) (Or.inl ⟨by rfl, ?_⟩) (by assumption) ?_
    rotate_left 1
    · intro w hSw; (try dsimp only at hSw); go_simp; (try with_reducible rfl)
    simp only [Act.put, List.getElem_toArray, List.getElem_cons_zero, List.getElem_cons_succ, List.setIfInBounds_toArray, List.set_cons_zero, List.set_cons_succ]
    refine wpAnyH_take (i := 2) (v := ?_) rfl (by kernel_rfl) (by kernel_rfl) (by kernel_rfl) (fun _ _ _ h => h) (Or.inl ⟨by rfl, ?_⟩) (by assumption) ?_
    rotate_left 1
    · intro w hSw; (try dsimp only at hSw); go_simp; (try with_reducible rfl)
    simp only [Act.put, List.getElem_toArray, List.getElem_cons_zero, List.getElem_cons_succ, List.setIfInBounds_toArray, List.set_cons_zero, List.set_cons_succ]
    refine wpAnyH_take (i := 3) (v := ?_) rfl (by kernel_rfl) (by kernel_rfl) (by kernel_rfl) (fun _ _ _ h => h) (Or.inl ⟨by rfl, ?_⟩) (by assumption) ?_
    rotate_left 1
    · intro w hSw; (try dsimp only at hSw); go_simp; (try with_reducible rfl)
    simp only [Act.put, List.getElem_toArray, List.getElem_cons_zero, List.getElem_cons_succ, List.setIfInBounds_toArray, List.set_cons_zero, List.set_cons_succ]
    refine wpAnyH_take (i := 4) (v := ?_) rfl (by kernel_rfl) (by kernel_rfl) (by kernel_rfl) (fun _ _ _ h => h) (Or.inl ⟨by rfl, ?_⟩) (by assumption) ?_
    rotate_left 1
    · intro w hSw; (try dsimp only at hSw); go_simp; (try with_reducible rfl)
    simp only [Act.put, List.getElem_toArray, List.getElem_cons_zero, List.getElem_cons_succ, List.setIfInBounds_toArray, List.set_cons_zero, List.set_cons_succ]
    refine wpAnyH_take (i := 5) (v := ?_) rfl (by kernel_rfl) (by kernel_rfl) (by kernel_rfl) (fun _ _ _ h => h) (Or.inl ⟨by rfl, ?_⟩) (by assumption) ?_
    rotate_left 1
    · intro w hSw; (try dsimp only at hSw); go_simp; (try with_reducible rfl)
    simp only [Act.put, List.getElem_toArray, List.getElem_cons_zero, List.getElem_cons_succ, List.setIfInBounds_toArray, List.set_cons_zero, List.set_cons_succ]
    refine wpAnyH_take (i := 6) (v := ?_) rfl (by kernel_rfl) (by kernel_rfl) (by kernel_rfl) (fun _ _ _ h => h) (Or.inl ⟨by rfl, ?_⟩) (by assumption) ?_
    rotate_left 1
    · intro w hSw; (try dsimp only at hSw); have t1 := ((Y.out.to BD.out).to hSw).at (j := 0) rfl; have t2 := ((Y.out.to BD.out).to hSw).at (j := 1) rfl; have t3 := ((Y.out.to BD.out).to hSw).at (j := 2) rfl; go_simp; (try with_reducible rfl)
    simp only [Act.put, List.getElem_toArray, List.getElem_cons_zero, List.getElem_cons_succ, List.setIfInBounds_toArray, List.set_cons_zero, List.set_cons_succ]
    refine wpAnyH_take (i := 8) (v := ?_) rfl (by kernel_rfl) (by kernel_rfl) (by kernel_rfl) (fun _ _ _ h => h) (Or.inl ⟨by rfl, ?_⟩) (by assumption) ?_
    rotate_left 1
    · intro w hSw; (try dsimp only at hSw); have t1 := ((X.out.to BD.out).to hSw).at (j := 0) rfl; have t2 := ((X.out.to BD.out).to hSw).at (j := 1) rfl; have t3 := ((X.out.to BD.out).to hSw).at (j := 2) rfl; go_simp; (try with_reducible rfl)
    simp only [Act.put, List.getElem_toArray, List.getElem_cons_zero, List.getElem_cons_succ, List.setIfInBounds_toArray, List.set_cons_zero, List.set_cons_succ]
    refine wpAnyH_ready (rs := [7]) (by kernel_rfl) (by simp) ?_
    refine AllReadyH.cons rfl (fun K hK => ?_) AllReadyH.nil
    go_simp
    refine (wCheckV ⟨aw4, nw4, kw4, ap4, np4, kp4, ac4, nc4, kc4⟩ c0 wf ((R1.out.to BD.out).to hHeld) HW4.out HP4.out HC4.out).mono ?_
    rw [HCK.out]
    rintro e wg ⟨rfl, hb⟩
    have BI := Lib.hid (hHeld.trans (hb.mono hHeld.size))
    clear hb hHeld
    go_wp2_with fail
    refine hK.out _ _ (BI.out) (fun hHeld => ?_)
    clear hK K
    refine wpAnyH_ready (rs := [9]) (by kernel_rfl) (by simp) ?_
    refine AllReadyH.cons rfl (fun K hK => ?_) AllReadyH.nil
    go_simp
    refine (rCheckV x0 c0 wg ((R.out.to BD.out).to BI.out) HNW.out HNP.out HNC.out).mono ?_
    rw [HCK.out]
    rintro e wh ⟨rfl, hb⟩
    replace BI := Lib.hid (BI.out.trans (hb.mono BI.out.size))
    clear hb hHeld
    go_wp2_with fail
    refine hK.out _ _ (BI.out) (fun hHeld => ?_)
    clear hK K
    refine wpAnyH_take (i := 10) (v := ?_) rfl (by kernel_rfl) (by kernel_rfl) (by kernel_rfl) (fun _ _ _ h => h) (Or.inl ⟨by rfl, ?_⟩) (by assumption) ?_
    rotate_left 1
    · intro w hSw; (try dsimp only at hSw); go_simp; (try with_reducible rfl)
    simp only [Act.put, List.getElem_toArray, List.getElem_cons_zero, List.getElem_cons_succ, List.setIfInBounds_toArray, List.set_cons_zero, List.set_cons_succ]
    refine wpAnyH_take (i := 11) (v := ?_) rfl (by kernel_rfl) (by kernel_rfl) (by kernel_rfl) (fun _ _ _ h => h) (Or.inl ⟨by rfl, ?_⟩) (by assumption) ?_
    rotate_left 1
    · intro w hSw; (try dsimp only at hSw); go_simp; (try with_reducible rfl)
    simp only [Act.put, List.getElem_toArray, List.getElem_cons_zero, List.getElem_cons_succ, List.setIfInBounds_toArray, List.set_cons_zero, List.set_cons_succ]
    refine wpAnyH_take (i := 12) (v := ?_) rfl (by kernel_rfl) (by kernel_rfl) (by kernel_rfl) (fun _ _ _ h => h) (Or.inl ⟨by rfl, ?_⟩) (by assumption) ?_
    rotate_left 1
    · intro w hSw; (try dsimp only at hSw); go_simp; (try with_reducible rfl)
    simp only [Act.put, List.getElem_toArray, List.getElem_cons_zero, List.getElem_cons_succ, List.setIfInBounds_toArray, List.set_cons_zero, List.set_cons_succ]
    refine wpAnyH_take (i := 13) (v := ?_) rfl (by kernel_rfl) (by kernel_rfl) (by kernel_rfl) (fun _ _ _ h => h) (Or.inl ⟨by rfl, ?_⟩) (by assumption) ?_
    rotate_left 1
    · intro w hSw; (try dsimp only at hSw); have t1 := ((Y.out.to BD.out).to hSw).at (j := 0) rfl; have t2 := ((Y.out.to BD.out).to hSw).at (j := 1) rfl; have t3 := ((Y.out.to BD.out).to hSw).at (j := 2) rfl; go_simp; (try with_reducible rfl)
    simp only [Act.put, List.getElem_toArray, List.getElem_cons_zero, List.getElem_cons_succ, List.setIfInBounds_toArray, List.set_cons_zero, List.set_cons_succ]
    refine wpAnyH_take (i := 15) (v := ?_) rfl (by kernel_rfl) (by kernel_rfl) (by kernel_rfl) (fun _ _ _ h => h) (Or.inl ⟨by rfl, ?_⟩) (by assumption) ?_
    rotate_left 1
    · intro w hSw; (try dsimp only at hSw); go_simp; (try with_reducible rfl)
    simp only [Act.put, List.getElem_toArray, List.getElem_cons_zero, List.getElem_cons_succ, List.setIfInBounds_toArray, List.set_cons_zero, List.set_cons_succ]
    refine wpAnyH_take (i := 16) (v := ?_) rfl (by kernel_rfl) (by kernel_rfl) (by kernel_rfl) (fun _ _ _ h => h) (Or.inl ⟨by rfl, ?_⟩) (by assumption) ?_
    rotate_left 1
    · intro w hSw; (try dsimp only at hSw); go_simp; (try with_reducible rfl)
    simp only [Act.put, List.getElem_toArray, List.getElem_cons_zero, List.getElem_cons_succ, List.setIfInBounds_toArray, List.set_cons_zero, List.set_cons_succ]
    refine wpAnyH_take (i := 17) (v := ?_) rfl (by kernel_rfl) (by kernel_rfl) (by kernel_rfl) (fun _ _ _ h => h) (Or.inl ⟨by rfl, ?_⟩) (by assumption) ?_
    rotate_left 1
    · intro w hSw; (try dsimp only at hSw); go_simp; (try with_reducible rfl)
    simp only [Act.put, List.getElem_toArray, List.getElem_cons_zero, List.getElem_cons_succ, List.setIfInBounds_toArray, List.set_cons_zero, List.set_cons_succ]
    refine wpAnyH_ready (rs := [14]) (by kernel_rfl) (by simp) ?_
    refine AllReadyH.cons rfl (fun K hK => ?_) AllReadyH.nil
    go_simp
    refine (wFitsV ⟨aw4, nw4, kw4, ap4, np4, kp4, ac4, nc4, kc4⟩ c0 wh ((R1.out.to BD.out).to BI.out) HW4.out HP4.out HC4.out).mono ?_
    rw [HFT.out]
    rintro e wi ⟨rfl, hb⟩
    replace BI := Lib.hid (BI.out.trans (hb.mono BI.out.size))
    clear hb hHeld
    go_wp2_with fail
    refine hK.out _ _ (BI.out) (fun hHeld => ?_)
    clear hK K
    refine wpAnyH_take (i := 18) (v := ?_) rfl (by kernel_rfl) (by kernel_rfl) (by kernel_rfl) (fun _ _ _ h => h) (Or.inl ⟨by rfl, ?_⟩) (by assumption) ?_
    rotate_left 1
    · intro w hSw; (try dsimp only at hSw); go_simp; (try with_reducible rfl)
    simp only [Act.put, List.getElem_toArray, List.getElem_cons_zero, List.getElem_cons_succ, List.setIfInBounds_toArray, List.set_cons_zero, List.set_cons_succ]
    refine wpAnyH_take (i := 19) (v := ?_) rfl (by kernel_rfl) (by kernel_rfl) (by kernel_rfl) (fun _ _ _ h => h) (Or.inl ⟨by rfl, ?_⟩) (by assumption) ?_
    rotate_left 1
    · intro w hSw; (try dsimp only at hSw); go_simp; (try with_reducible rfl)
    simp only [Act.put, List.getElem_toArray, List.getElem_cons_zero, List.getElem_cons_succ, List.setIfInBounds_toArray, List.set_cons_zero, List.set_cons_succ]
    refine wpAnyH_done (by kernel_rfl) ?_ _
    go_wp2_with fail
    go_meet
    exact ⟨rfl, BI.out⟩
  case rest =>
  obtain ⟨rfl, hb⟩ := hcut
  replace Z5 := Lib.hid (Z5.out.to hb)
  replace Z6 := Lib.hid (Z6.out.to hb)
  replace BD := Lib.hid (BD.out.trans (hb.mono BD.out.size))
  clear hb
  obtain ⟨wf, hwf⟩ : ∃ x, x = wc := ⟨_, rfl⟩
  subst hwf
  go_wp2_with fail
  go_loopw [6] (fun i wr => ∃ j : Nat, j ≤ n ∧ i = .int .i64 (j : Int) ∧ Below wf.heap.size wf wr) (fun i _ => n - (intOf i).toNat)
  case atStart => exact ⟨0, Nat.zero_le _, rfl, Below.refl _ _⟩
  case round =>
    obtain ⟨j, hj, rfl, hbel⟩ := hrel
    have BE := Lib.hid hbel
    have HJ := Lib.hid hj
    clear hj hbel
    by_cases hlt : j < n
    · have hltI : (j : Int) < (n : Int) := by omega
      have HLT := Lib.hid hlt
      have hwj : IntKind.i64.wrap ((j : Int) + 1) = (j : Int) + 1 := by have := HN5.out; rw [IntKind.wrap_i64]; omega
      obtain ⟨b1, o1, hA1, hB1, hc1⟩ := Z5.out.2 (by omega)
      obtain ⟨b2, o2, hA2, hB2, hc2⟩ := Z6.out.2 (by omega)
      subst hA1 hA2
      obtain ⟨x, hx⟩ : ∃ x, zat l j = x := ⟨_, rfl⟩
      have HX : Hid (wf.cell? ⟨b1, o1 + j, none⟩ = some (.int .i64 x)) := by (show _ = _); rw [← hx]; exact hc1 j hlt
      have HY : Hid (wf.cell? ⟨b2, o2 + j, none⟩ = some (.int .i64 x)) := by (show _ = _); rw [← hx]; exact hc2 j hlt
      have HB1 := Lib.hid hB1
      have HB2 := Lib.hid hB2
      have hz : (x != x) = false := by simp
      clear hc1 hc2 hB1 hB2 hlt hx
      go_upto_region 10 with (fail)
      obtain ⟨wg, hwd⟩ : ∃ wg, wr.drew = wg := ⟨_, rfl⟩
      refine wp_region_held_drew (S := (fun w' => Below wf.heap.size wf w')) (by kernel_rfl) (BE.out.drew) (fun hHeld => ?_)
      rw [hwd] at hHeld ⊢
      clear hwd
      refine wpAnyH_take (i := 0) (v := ?_) rfl (by kernel_rfl) (by kernel_rfl) (by kernel_rfl) (fun _ _ _ h => h) (Or.inl ⟨by rfl, ?_⟩) (by assumption) ?_
      rotate_left 1
      · intro w hSw; (try dsimp only at hSw); go_simp; (try with_reducible rfl)
      simp only [Act.put, List.getElem_toArray, List.getElem_cons_zero, List.getElem_cons_succ, List.setIfInBounds_toArray, List.set_cons_zero, List.set_cons_succ]
      refine wpAnyH_take (i := 1) (v := ?_) rfl (by kernel_rfl) (by kernel_rfl) (by kernel_rfl) (fun _ _ _ h => h) (Or.inl ⟨by rfl, ?_⟩) (by assumption) ?_
      rotate_left 1
      · intro w hSw; (try dsimp only at hSw); go_simp; (try with_reducible rfl)
      simp only [Act.put, List.getElem_toArray, List.getElem_cons_zero, List.getElem_cons_succ, List.setIfInBounds_toArray, List.set_cons_zero, List.set_cons_succ]
      refine wpAnyH_take (i := 2) (v := ?_) rfl (by kernel_rfl) (by kernel_rfl) (by kernel_rfl) (fun _ _ _ h => h) (Or.inl ⟨by rfl, ?_⟩) (by assumption) ?_
      rotate_left 1
      · intro w hSw; (try dsimp only at hSw); go_simp; (try with_reducible rfl)
      simp only [Act.put, List.getElem_toArray, List.getElem_cons_zero, List.getElem_cons_succ, List.setIfInBounds_toArray, List.set_cons_zero, List.set_cons_succ]
      refine wpAnyH_take (i := 3) (v := ?_) rfl (by kernel_rfl) (by kernel_rfl) (by kernel_rfl) (fun _ _ _ h => h) (Or.inl ⟨by rfl, ?_⟩) (by assumption) ?_
      rotate_left 1
      · intro w hSw; (try dsimp only at hSw); have t1 := (hSw.cell (p := ⟨b1, o1 + j, none⟩) HB1.out).trans HX.out; go_simp; (try with_reducible rfl)
      simp only [Act.put, List.getElem_toArray, List.getElem_cons_zero, List.getElem_cons_succ, List.setIfInBounds_toArray, List.set_cons_zero, List.set_cons_succ]
      refine wpAnyH_take (i := 4) (v := ?_) rfl (by kernel_rfl) (by kernel_rfl) (by kernel_rfl) (fun _ _ _ h => h) (Or.inl ⟨by rfl, ?_⟩) (by assumption) ?_
      rotate_left 1
      · intro w hSw; (try dsimp only at hSw); go_simp; (try with_reducible rfl)
      simp only [Act.put, List.getElem_toArray, List.getElem_cons_zero, List.getElem_cons_succ, List.setIfInBounds_toArray, List.set_cons_zero, List.set_cons_succ]
      refine wpAnyH_take (i := 5) (v := ?_) rfl (by kernel_rfl) (by kernel_rfl) (by kernel_rfl) (fun _ _ _ h => h) (Or.inl ⟨by rfl, ?_⟩) (by assumption) ?_
      rotate_left 1
      · intro w hSw; (try dsimp only at hSw); go_simp; (try with_reducible rfl)
      simp only [Act.put, List.getElem_toArray, List.getElem_cons_zero, List.getElem_cons_succ, List.setIfInBounds_toArray, List.set_cons_zero, List.set_cons_succ]
      refine wpAnyH_take (i := 6) (v := ?_) rfl (by kernel_rfl) (by kernel_rfl) (by kernel_rfl) (fun _ _ _ h => h) (Or.inl ⟨by rfl, ?_⟩) (by assumption) ?_
      rotate_left 1
      · intro w hSw; (try dsimp only at hSw); go_simp; (try with_reducible rfl)
      simp only [Act.put, List.getElem_toArray, List.getElem_cons_zero, List.getElem_cons_succ, List.setIfInBounds_toArray, List.set_cons_zero, List.set_cons_succ]
      refine wpAnyH_take (i := 7) (v := ?_) rfl (by kernel_rfl) (by kernel_rfl) (by kernel_rfl) (fun _ _ _ h => h) (Or.inl ⟨by rfl, ?_⟩) (by assumption) ?_
      rotate_left 1
      · intro w hSw; (try dsimp only at hSw); have t1 := (hSw.cell (p := ⟨b2, o2 + j, none⟩) HB2.out).trans HY.out; go_simp; (try with_reducible rfl)
      simp only [Act.put, List.getElem_toArray, List.getElem_cons_zero, List.getElem_cons_succ, List.setIfInBounds_toArray, List.set_cons_zero, List.set_cons_succ]
      refine wpAnyH_take (i := 8) (v := ?_) rfl (by kernel_rfl) (by kernel_rfl) (by kernel_rfl) (fun _ _ _ h => h) (Or.inl ⟨by rfl, ?_⟩) (by assumption) ?_
      rotate_left 1
      · intro w hSw; (try dsimp only at hSw); go_simp; (try with_reducible rfl)
      simp only [Act.put, List.getElem_toArray, List.getElem_cons_zero, List.getElem_cons_succ, List.setIfInBounds_toArray, List.set_cons_zero, List.set_cons_succ]
      refine wpAnyH_done (by kernel_rfl) ?_ _
      have BF := Lib.hid hHeld
      clear hHeld hz
      go_wp2_with fail
      go_roundw
      case rel => exact ⟨j + 1, HLT.out, by go_num, BF.out⟩
      case measure => simp [intOf]; omega
    · obtain rfl : j = n := by have := HJ.out; omega
      replace BD := Lib.hid (BD.out.trans (BE.out.mono BD.out.size))
      clear hlt
      have p1 := (X.out.to BD.out).at (j := 0) rfl
      have p2 := (X.out.to BD.out).at (j := 1) rfl
      have p3 := (X.out.to BD.out).at (j := 2) rfl
      have q1 := (Y.out.to BD.out).at (j := 0) rfl
      have q2 := (Y.out.to BD.out).at (j := 1) rfl
      have q3 := (Y.out.to BD.out).at (j := 2) rfl
      go_wp2_with fail
      refine (rSameCf ⟨aw4, nw4, kw4, ap4, np4, kp4, ac4, nc4, kc4⟩ x0 c0 c0 wr (R1.out.to BD.out) (R.out.to BD.out) HW4.out HP4.out HC4.out).mono ?_
      rw [same_self]
      rintro e wh ⟨rfl, hb⟩
      replace BD := Lib.hid (BD.out.trans (hb.mono BD.out.size))
      clear hb p1 p2 p3 q1 q2 q3
      go_wp2_with fail
      refine (lAwakeV _).mono ?_
      rintro e wz ⟨rfl, hb⟩
      have BZ := Lib.hid ((B.out.trans (BD.out.mono B.out.size)).trans (hb.mono (B.out.trans (BD.out.mono B.out.size)).size))
      clear hb
      go_wp2_with fail
      go_ret
      exact ⟨rfl, BZ.out⟩

set_option maxRecDepth 100000 in
theorem lifted (os : Os) (started : os.Started) (H : Type) (enc : TypeId × Value → H) :
    ReturnsInHanded {} Try.checked os 3 .any (Rows.validChecksSpec.pre6 enc Try.prog Try.f3 Rows.validChecksRow.domain false) (Rows.validChecksSpec.post enc Try.prog Try.f3 false true false false) := by
  refine returnsInHanded_of_change_sized (C := Try.checked) own started (by kernel_rfl) Try.func3
    (ChangeSpec.witness6 (enc := enc) (C := Try.checked) false ⟨#[], #[.agg #[.slice none 0 0, .slice none 0 0, .slice none 0 0]], []⟩ 8 (by kernel_rfl) (by kernel_rfl) (by kernel_rfl) (by kernel_rfl)) ?_
  intro W base args ds gs before hval0 hW hcnd hsz0 _
  have hval : ∀ (j : Nat) t v, Try.f3.params[j]? = some t → args[j]? = some v → Value.okWide Try.prog W .any base t v := hval0
  have hsz : (DataW.weightsEach Try.prog (Try.f3.params.toList ++ Rows.validChecksSpec.plain.varTypes Try.prog) (ds ++ gs)).all (· ≤ reachBytes) = true := hsz0
  have hW' := hW
  obtain ⟨p, q, hA0, hV, rfl, hfz, hnd⟩ := hW
  have hA : DataW.TrodAll enc Try.prog W 0 (fun _ => true) true Try.f3.params.toList args.toList ds p := hA0
  rw [Try.params3] at hA hval hsz
  obtain ⟨v0, vs0, d0, ds0, p0, q0, hargs, rfl, rfl, h0, r0⟩ := trodAll_cons hA
  obtain ⟨rfl, rfl, rfl⟩ := trodAll_nil r0
  obtain rfl : args = #[v0] := by cases args; simp_all
  obtain ⟨rfl, rfl⟩ := trodVars_none hV
  have sz0 : ∀ x ∈ d0.weights Try.prog 26, x ≤ reachBytes := fun x hx => by simpa using List.all_eq_true.1 hsz _ (DataW.weights_mem_each (j := 0) rfl rfl x hx)
  have k0 := h0
  have lt0 : ∀ x ∈ p0, x.block < W.heap.size := by obtain ⟨m, hm⟩ := k0; exact DataW.trod_lt m _ _ _ hm
  obtain ⟨x0, c0, rfl, w0⟩ := open_config (hval 0 26 v0 rfl rfl) h0 sz0
  clear hA0 hval0
  refine (walk x0 c0 W w0).mono fun e W' ⟨he, bel⟩ => ?_
  subst he
  exact ⟨_, rfl, _, _, _, [], _, [], hW', trodAll_mk1 (shut_bool Try.underlying4 _), (trodAll_cons_mk (Below.trod laidOut (by kernel_rfl) (of_decide_eq_true (by kernel_rfl)) k0 bel lt0) trodAll_mk0), rfl, bel.frame _, fun h => by cases h⟩

theorem over : Rows.validChecksRow.holds Try.pinned (OpenSpec.ofChange Rows.validChecksSpec) :=
  OpenClaim.holds_of_wide 3 Try.f3 rfl rfl rfl rfl rfl rfl rfl ⟨rfl, rfl, rfl, rfl, rfl⟩ rfl rfl rfl rfl rfl (by kernel_rfl) Try.func3 (by kernel_rfl)
    (of_decide_eq_true (by kernel_rfl)) (by unfold Func.isWrapper; first | (rw [if_pos (by decide +kernel)]; kernel_rfl) | (rw [if_neg (by decide +kernel)]; exact ⟨rfl, rfl⟩))
    (fun os started H enc _ => lifted os started H enc)

theorem proved : Rows.ValidChecksSaid := over
end Go.Proofs.Ytnaegbnijbdgbaa.validChecks
