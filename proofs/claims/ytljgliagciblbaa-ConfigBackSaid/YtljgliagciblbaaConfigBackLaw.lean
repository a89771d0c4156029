/- For any configuration and any bytes the law ConfigBack of citadellaw11 returns true: what can be written is read as it was, what is read is written as the same bytes (config.Print, Parse, Can, Same). -/
import Derived.Test.YtljgliagciblbaaRows
import Derived.Test.YtljgliagciblbaaCfLf
import Derived.SizedLaws
import Derived.WalkKit
import Derived.ProofKit
import Derived.OpenShut
import Derived.ShutString
import Derived.ChangeOld
import Derived.Below
namespace Go.Proofs.Ytljgliagciblbaa.configBack
open Go.ChangeShapes Go.WideShapes Go.ChangeAt Go.RowKit
open Go.ChangeMaps (open_string shut_string)
set_option linter.unusedVariables false
set_option linter.unusedSimpArgs false

theorem own : ownKnob Try.prog.godebug = none := by kernel_rfl
theorem laidOut : laidOutB Try.prog = true := by kernel_rfl

theorem same_self (c : Cf) : sameCf c c = true := decide_eq_true rfl
set_option maxRecDepth 1000000 in
set_option maxHeartbeats 4000000 in
theorem walk (x0 : CV) (c0 : Cf) (a1 : Option Addr) (len1 cap1 : Nat) (z1 : List Int) (w : World) (w0 : RdCf w w.heap.size x0 c0 ∧ x0.kw ≤ 9223372036854775807 ∧ x0.kp ≤ 9223372036854775807 ∧ x0.kc ≤ 9223372036854775807 ∧ CfWf c0) (w1 : IsRow .u8 w a1 len1 cap1 z1) :
    Calls Try.prog 6 #[.agg #[.slice x0.aw x0.nw x0.kw, .slice x0.ap x0.np x0.kp, .slice x0.ac x0.nc x0.kc], .slice a1 len1 cap1] w fun e w' => e = .returned (.bool true) ∧ Below w.heap.size w w' := by
  obtain ⟨r0, -, -, -, wf0⟩ := w0
  have WF := Lib.hid (inC_wf wf0)
  obtain ⟨r1, hcap1, hcap1'⟩ := w1.rd
  generalize bytesIn (z1.take len1) = bs at r1
  obtain ⟨wa, hwa, hb1, hx, hr⟩ := one_box w r0
  have HWA := Lib.hid hwa
  have B := Lib.hid hb1
  have X := Lib.hid hx
  have R := Lib.hid hr
  have RB := Lib.hid (r1.to hb1)
  have HCP := Lib.hid hcap1
  have HCP' := Lib.hid hcap1'
  clear r0 wf0 w1 r1 hwa hb1 hx hr hcap1 hcap1'
  go_enter Try.func6, Try.ntmps6
  go_upto_region 1 with (fail)
  rw [HWA.out]
  clear HWA
  have p1 := X.out.at (j := 0) rfl
  have p2 := X.out.at (j := 1) rfl
  have p3 := X.out.at (j := 2) rfl
  go_wp2_with fail
  refine (lGreat x0 c0 wa R.out).mono ?_
  rintro e wb ⟨rfl, hb⟩
  replace X := Lib.hid (X.out.to hb)
  replace R := Lib.hid (R.out.to hb)
  replace RB := Lib.hid (RB.out.to hb)
  replace B := Lib.hid (B.out.trans (hb.mono B.out.size))
  clear hb p1 p2 p3
  cases hg : greatC c0
  rotate_left 1
  · skip
    go_wp2_with fail
    refine (lAwake _).mono ?_
    rintro e wz ⟨rfl, hb⟩
    have BZ := Lib.hid (B.out.trans (hb.mono B.out.size))
    clear hb
    go_wp2_with fail
    go_ret
    exact ⟨rfl, BZ.out⟩
  obtain ⟨hnw, hnp, hnc, -⟩ := bounds_of R.out hg
  have HNW := Lib.hid hnw
  have HNP := Lib.hid hnp
  have HNC := Lib.hid hnc
  clear hg hnw hnp hnc
  by_cases hl : 9000 < len1
  · have hlI : (len1 : Int) > 9000 := by omega
    have hlJ : (9000 : Int) < (len1 : Int) := by omega
    go_wp2_with fail
    refine (lAwake _).mono ?_
    rintro e wz ⟨rfl, hb⟩
    have BZ := Lib.hid (B.out.trans (hb.mono B.out.size))
    clear hb
    go_wp2_with fail
    go_ret
    exact ⟨rfl, BZ.out⟩
  have hlI : ¬ (9000 : Int) < (len1 : Int) := by omega
  have HL := Lib.hid hl
  clear hl
  have p1 := X.out.at (j := 0) rfl
  have p2 := X.out.at (j := 1) rfl
  have p3 := X.out.at (j := 2) rfl
  go_wp2_with fail
  refine (wPrint x0 c0 wb R.out HNP.out).mono ?_
  rintro e wc ⟨A, n, k, rfl, ho, hk1, hk2, hb⟩
  clear hlI
  have HO := Lib.hid ho
  have K1 := Lib.hid hk1
  have K2 := Lib.hid hk2
  clear ho hk1 hk2
  replace X := Lib.hid (X.out.to hb)
  replace R := Lib.hid (R.out.to hb)
  replace RB := Lib.hid (RB.out.to hb)
  replace B := Lib.hid (B.out.trans (hb.mono B.out.size))
  clear hb p1 p2 p3
  cases hc : canC c0
  · have HP := Lib.hid (pr_no hc)
    have HC := Lib.hid hc
    rw [HP.out.2]
    clear hc
    have p1 := X.out.at (j := 0) rfl
    have p2 := X.out.at (j := 1) rfl
    have p3 := X.out.at (j := 2) rfl
    go_wp2_with fail
    refine (pCanOf x0 c0 wc R.out HNP.out).mono ?_
    rintro e wd ⟨rfl, hb⟩
    rw [HC.out]
    replace X := Lib.hid (X.out.to hb)
    replace R := Lib.hid (R.out.to hb)
    replace RB := Lib.hid (RB.out.to hb)
    replace B := Lib.hid (B.out.trans (hb.mono B.out.size))
    clear hb p1 p2 p3
    go_wp2_with fail
    clear X R
    refine (wParse a1 len1 cap1 bs _ RB.out HCP.out HCP'.out (by have := HL.out; omega)).mono ?_
    rintro e we ⟨v1, rfl, ho, hb⟩
    have hb5 := hb
    have R1 := Lib.hid ho.rd
    replace RB := Lib.hid (RB.out.to hb)
    replace B := Lib.hid (B.out.trans (hb.mono B.out.size))
    clear ho hb hb5
    obtain ⟨aw4, nw4, kw4, ap4, np4, kp4, ac4, nc4, kc4⟩ := v1
    dsimp only [CV.val]
    have hal := (Below.refl we.heap.size we).alloc (Nat.le_refl _) (.cells #[.slice aw4 nw4 kw4, .slice ap4 np4 kp4, .slice ac4 nc4 kc4] 26)
    have Y : Hid (Bx (we.alloc (.cells #[.slice aw4 nw4 kw4, .slice ap4 np4 kp4, .slice ac4 nc4 kc4] 26)) we.heap.size 26 [.slice aw4 nw4 kw4, .slice ap4 np4 kp4, .slice ac4 nc4 kc4]) := Bx.new we _ [.slice aw4 nw4 kw4, .slice ap4 np4 kp4, .slice ac4 nc4 kc4]
    replace R1 := Lib.hid (R1.out.to hal)
    replace RB := Lib.hid (RB.out.to hal)
    replace B := Lib.hid (B.out.trans (hal.mono B.out.size))
    clear hal
    cases hok : okC bs
    · have HO := Lib.hid (cfOut_no hok)
      rw [HO.out.1] at R1
      rw [HO.out.2]
      clear hok
      go_upto_region 12 with (fail)
      generalize hgy : we.heap.size = gy at *
      replace hgy := Lib.hid hgy
      generalize we.alloc (.cells #[.slice aw4 nw4 kw4, .slice ap4 np4 kp4, .slice ac4 nc4 kc4] 26) = wf at *
      have p1 := Y.out.at (j := 0) rfl
      have p2 := Y.out.at (j := 1) rfl
      have p3 := Y.out.at (j := 2) rfl
      have HB4 : Hid (nw4 ≤ 1000 ∧ np4 ≤ 1000 ∧ nc4 ≤ 1000) := bounds_can R1.out noC_can
      go_wp2_with fail
      refine (wSameCf ⟨aw4, nw4, kw4, ap4, np4, kp4, ac4, nc4, kc4⟩ noV noC noC wf R1.out (rdCf_nil _ _) HB4.out.1 HB4.out.2.1 HB4.out.2.2).mono ?_
      rintro e wg ⟨rfl, hb⟩
      rw [same_self]
      replace B := Lib.hid (B.out.trans (hb.mono B.out.size))
      clear hb p1 p2 p3
      go_wp2_with fail
      refine (lAwake _).mono ?_
      rintro e wz ⟨rfl, hb⟩
      have BZ := Lib.hid (B.out.trans (hb.mono B.out.size))
      clear hb
      go_wp2_with fail
      go_ret
      exact ⟨rfl, BZ.out⟩
    · have HO := Lib.hid (cfOut_yes hok)
      have HG := Lib.hid (okC_got hok)
      rw [HO.out.1] at R1
      rw [HO.out.2]
      clear hok
      go_upto_region 13 with (fail)
      generalize hgy : we.heap.size = gy at *
      replace hgy := Lib.hid hgy
      generalize we.alloc (.cells #[.slice aw4 nw4 kw4, .slice ap4 np4 kp4, .slice ac4 nc4 kc4] 26) = wf at *
      have p1 := Y.out.at (j := 0) rfl
      have p2 := Y.out.at (j := 1) rfl
      have p3 := Y.out.at (j := 2) rfl
      have HB4 := Lib.hid (bounds_can R1.out HG.out.2.1)
      go_wp2_with fail
      refine (wPrint ⟨aw4, nw4, kw4, ap4, np4, kp4, ac4, nc4, kc4⟩ (gotC bs) wf R1.out HB4.out.2.1).mono ?_
      rintro e wg ⟨A5, n5, k5, rfl, ho, -, -, hb⟩
      rw [(pr_yes HG.out.2.1).2]
      rw [(pr_yes HG.out.2.1).1, ← HG.out.1] at ho
      have RF := Lib.hid ho.1
      replace RB := Lib.hid (RB.out.to hb)
      replace B := Lib.hid (B.out.trans (hb.mono B.out.size))
      clear hb p1 p2 p3 ho
      obtain ⟨s1, hs1, hs1'⟩ := str_is bs
      have cv1 := RF.out.strC (c := k5) hs1
      have cv2 := RB.out.strC (c := cap1) hs1
      have hss : (s1.toList == s1.toList) = true := by simp
      clear hs1 hs1'
      go_wp2_with fail
      refine (lAwake _).mono ?_
      rintro e wz ⟨rfl, hb⟩
      have BZ := Lib.hid (B.out.trans (hb.mono B.out.size))
      clear hb
      go_wp2_with fail
      go_ret
      exact ⟨rfl, BZ.out⟩
  · have HP := Lib.hid (pr_yes hc)
    have HC := Lib.hid hc
    rw [HP.out.2]
    rw [HP.out.1] at HO
    have RF := Lib.hid HO.out.1
    clear hc HO
    have p1 := X.out.at (j := 0) rfl
    have p2 := X.out.at (j := 1) rfl
    have p3 := X.out.at (j := 2) rfl
    go_wp2_with fail
    refine (pCanOf x0 c0 wc R.out HNP.out).mono ?_
    rintro e wd ⟨rfl, hb⟩
    rw [HC.out]
    replace RF := Lib.hid (RF.out.to hb)
    replace X := Lib.hid (X.out.to hb)
    replace R := Lib.hid (R.out.to hb)
    replace RB := Lib.hid (RB.out.to hb)
    replace B := Lib.hid (B.out.trans (hb.mono B.out.size))
    clear hb p1 p2 p3
    go_wp2_with fail
    refine (wParse A n k (formC c0) wd RF.out K1.out K2.out (by have h1 := RF.out.1; have := formC_len HC.out; omega)).mono ?_
    rintro e wx ⟨v9, rfl, ho, hb⟩
    rw [(cfOut_yes (okC_form HC.out WF.out).1).2]
    rw [(cfOut_yes (okC_form HC.out WF.out).1).1, (okC_form HC.out WF.out).2] at ho
    have R9 := Lib.hid ho.rd
    have p1 : True := trivial
    have p2 : True := trivial
    have p3 : True := trivial
    replace X := Lib.hid (X.out.to hb)
    replace R := Lib.hid (R.out.to hb)
    replace RB := Lib.hid (RB.out.to hb)
    replace B := Lib.hid (B.out.trans (hb.mono B.out.size))
    clear hb p1 p2 p3
    clear ho
    obtain ⟨aw9, nw9, kw9, ap9, np9, kp9, ac9, nc9, kc9⟩ := v9
    dsimp only [CV.val]
    have hb := (Below.refl wx.heap.size wx).alloc (Nat.le_refl _) (.cells #[.slice aw9 nw9 kw9, .slice ap9 np9 kp9, .slice ac9 nc9 kc9] 26)
    have Y9 : Hid (Bx (wx.alloc (.cells #[.slice aw9 nw9 kw9, .slice ap9 np9 kp9, .slice ac9 nc9 kc9] 26)) wx.heap.size 26 [.slice aw9 nw9 kw9, .slice ap9 np9 kp9, .slice ac9 nc9 kc9]) := Bx.new wx _ [.slice aw9 nw9 kw9, .slice ap9 np9 kp9, .slice ac9 nc9 kc9]
    replace R9 := Lib.hid (R9.out.to hb)
    have p1 : True := trivial
    have p2 : True := trivial
    have p3 : True := trivial
    replace X := Lib.hid (X.out.to hb)
    replace R := Lib.hid (R.out.to hb)
    replace RB := Lib.hid (RB.out.to hb)
    replace B := Lib.hid (B.out.trans (hb.mono B.out.size))
    clear hb p1 p2 p3
    go_upto_region 8 with (fail)
    generalize hgx : wx.heap.size = gx at *
    replace hgx := Lib.hid hgx
    generalize wx.alloc (.cells #[.slice aw9 nw9 kw9, .slice ap9 np9 kp9, .slice ac9 nc9 kc9] 26) = wy at *
    have q1 := Y9.out.at (j := 0) rfl
    have q2 := Y9.out.at (j := 1) rfl
    have q3 := Y9.out.at (j := 2) rfl
    have p1 := X.out.at (j := 0) rfl
    have p2 := X.out.at (j := 1) rfl
    have p3 := X.out.at (j := 2) rfl
    go_wp2_with fail
    refine (wSameCf x0 ⟨aw9, nw9, kw9, ap9, np9, kp9, ac9, nc9, kc9⟩ c0 c0 wy R.out R9.out HNW.out HNP.out HNC.out).mono ?_
    rintro e wv ⟨rfl, hb⟩
    rw [same_self]
    replace X := Lib.hid (X.out.to hb)
    replace R := Lib.hid (R.out.to hb)
    replace RB := Lib.hid (RB.out.to hb)
    replace B := Lib.hid (B.out.trans (hb.mono B.out.size))
    clear hb p1 p2 p3
    clear q1 q2 q3 Y9
    go_wp2_with fail
    clear X R
    refine (wParse a1 len1 cap1 bs _ RB.out HCP.out HCP'.out (by have := HL.out; omega)).mono ?_
    rintro e we ⟨v1, rfl, ho, hb⟩
    have hb5 := hb
    have R1 := Lib.hid ho.rd
    replace RB := Lib.hid (RB.out.to hb)
    replace B := Lib.hid (B.out.trans (hb.mono B.out.size))
    clear ho hb hb5
    obtain ⟨aw4, nw4, kw4, ap4, np4, kp4, ac4, nc4, kc4⟩ := v1
    dsimp only [CV.val]
    have hal := (Below.refl we.heap.size we).alloc (Nat.le_refl _) (.cells #[.slice aw4 nw4 kw4, .slice ap4 np4 kp4, .slice ac4 nc4 kc4] 26)
    have Y : Hid (Bx (we.alloc (.cells #[.slice aw4 nw4 kw4, .slice ap4 np4 kp4, .slice ac4 nc4 kc4] 26)) we.heap.size 26 [.slice aw4 nw4 kw4, .slice ap4 np4 kp4, .slice ac4 nc4 kc4]) := Bx.new we _ [.slice aw4 nw4 kw4, .slice ap4 np4 kp4, .slice ac4 nc4 kc4]
    replace R1 := Lib.hid (R1.out.to hal)
    replace RB := Lib.hid (RB.out.to hal)
    replace B := Lib.hid (B.out.trans (hal.mono B.out.size))
    clear hal
    cases hok : okC bs
    · have HO := Lib.hid (cfOut_no hok)
      rw [HO.out.1] at R1
      rw [HO.out.2]
      clear hok
      go_upto_region 12 with (fail)
      generalize hgy : we.heap.size = gy at *
      replace hgy := Lib.hid hgy
      generalize we.alloc (.cells #[.slice aw4 nw4 kw4, .slice ap4 np4 kp4, .slice ac4 nc4 kc4] 26) = wf at *
      have p1 := Y.out.at (j := 0) rfl
      have p2 := Y.out.at (j := 1) rfl
      have p3 := Y.out.at (j := 2) rfl
      have HB4 : Hid (nw4 ≤ 1000 ∧ np4 ≤ 1000 ∧ nc4 ≤ 1000) := bounds_can R1.out noC_can
      go_wp2_with fail
      refine (wSameCf ⟨aw4, nw4, kw4, ap4, np4, kp4, ac4, nc4, kc4⟩ noV noC noC wf R1.out (rdCf_nil _ _) HB4.out.1 HB4.out.2.1 HB4.out.2.2).mono ?_
      rintro e wg ⟨rfl, hb⟩
      rw [same_self]
      replace B := Lib.hid (B.out.trans (hb.mono B.out.size))
      clear hb p1 p2 p3
      go_wp2_with fail
      refine (lAwake _).mono ?_
      rintro e wz ⟨rfl, hb⟩
      have BZ := Lib.hid (B.out.trans (hb.mono B.out.size))
      clear hb
      go_wp2_with fail
      go_ret
      exact ⟨rfl, BZ.out⟩
    · have HO := Lib.hid (cfOut_yes hok)
      have HG := Lib.hid (okC_got hok)
      rw [HO.out.1] at R1
      rw [HO.out.2]
      clear hok
      go_upto_region 13 with (fail)
      generalize hgy : we.heap.size = gy at *
      replace hgy := Lib.hid hgy
      generalize we.alloc (.cells #[.slice aw4 nw4 kw4, .slice ap4 np4 kp4, .slice ac4 nc4 kc4] 26) = wf at *
      have p1 := Y.out.at (j := 0) rfl
      have p2 := Y.out.at (j := 1) rfl
      have p3 := Y.out.at (j := 2) rfl
      have HB4 := Lib.hid (bounds_can R1.out HG.out.2.1)
      go_wp2_with fail
      refine (wPrint ⟨aw4, nw4, kw4, ap4, np4, kp4, ac4, nc4, kc4⟩ (gotC bs) wf R1.out HB4.out.2.1).mono ?_
      rintro e wg ⟨A5, n5, k5, rfl, ho, -, -, hb⟩
      rw [(pr_yes HG.out.2.1).2]
      rw [(pr_yes HG.out.2.1).1, ← HG.out.1] at ho
      have RF := Lib.hid ho.1
      replace RB := Lib.hid (RB.out.to hb)
      replace B := Lib.hid (B.out.trans (hb.mono B.out.size))
      clear hb p1 p2 p3 ho
      obtain ⟨s1, hs1, hs1'⟩ := str_is bs
      have cv1 := RF.out.strC (c := k5) hs1
      have cv2 := RB.out.strC (c := cap1) hs1
      have hss : (s1.toList == s1.toList) = true := by simp
      clear hs1 hs1'
      go_wp2_with fail
      refine (lAwake _).mono ?_
      rintro e wz ⟨rfl, hb⟩
      have BZ := Lib.hid (B.out.trans (hb.mono B.out.size))
      clear hb
      go_wp2_with fail
      go_ret
      exact ⟨rfl, BZ.out⟩

set_option maxRecDepth 100000 in
theorem lifted (os : Os) (started : os.Started) (H : Type) (enc : TypeId × Value → H) :
    ReturnsInHanded {} Try.checked os 6 .any (Rows.configBackSpec.pre6 enc Try.prog Try.f6 Rows.configBackRow.domain false) (Rows.configBackSpec.post enc Try.prog Try.f6 false true false false) := by
  refine returnsInHanded_of_change_sized (C := Try.checked) own started (by kernel_rfl) Try.func6
    (ChangeSpec.witness6 (enc := enc) (C := Try.checked) false ⟨#[], #[.agg #[.slice none 0 0, .slice none 0 0, .slice none 0 0], .slice none 0 0], []⟩ 8 (by kernel_rfl) (by kernel_rfl) (by kernel_rfl) (by kernel_rfl)) ?_
  intro W base args ds gs before hval0 hW hcnd hsz0 _
  have hval : ∀ (j : Nat) t v, Try.f6.params[j]? = some t → args[j]? = some v → Value.okWide Try.prog W .any base t v := hval0
  have hsz : (DataW.weightsEach Try.prog (Try.f6.params.toList ++ Rows.configBackSpec.plain.varTypes Try.prog) (ds ++ gs)).all (· ≤ reachBytes) = true := hsz0
  have hW' := hW
  obtain ⟨p, q, hA0, hV, rfl, hfz, hnd⟩ := hW
  have hA : DataW.TrodAll enc Try.prog W 0 (fun _ => true) true Try.f6.params.toList args.toList ds p := hA0
  rw [Try.params6] at hA hval hsz
  obtain ⟨v0, vs0, d0, ds0, p0, q0, hargs, rfl, rfl, h0, r0⟩ := trodAll_cons hA
  obtain ⟨v1, vs1, d1, ds1, p1, q1, rfl, rfl, rfl, h1, r1⟩ := trodAll_cons r0
  obtain ⟨rfl, rfl, rfl⟩ := trodAll_nil r1
  obtain rfl : args = #[v0, v1] := by cases args; simp_all
  obtain ⟨rfl, rfl⟩ := trodVars_none hV
  have sz0 : ∀ x ∈ d0.weights Try.prog 26, x ≤ reachBytes := fun x hx => by simpa using List.all_eq_true.1 hsz _ (DataW.weights_mem_each (j := 0) rfl rfl x hx)
  have k0 := h0
  have lt0 : ∀ x ∈ p0, x.block < W.heap.size := by obtain ⟨m, hm⟩ := k0; exact DataW.trod_lt m _ _ _ hm
  obtain ⟨x0, c0, rfl, w0⟩ := open_config (hval 0 26 v0 rfl rfl) h0 sz0
  obtain ⟨a1, len1, cap1, rfl⟩ := okWide_slice Try.underlying29 (hval 1 29 v1 rfl rfl)
  have k1 := h1
  have lt1 : ∀ x ∈ p1, x.block < W.heap.size := by obtain ⟨m, hm⟩ := k1; exact DataW.trod_lt m _ _ _ hm
  obtain ⟨z1, w1⟩ : ∃ zs, IsRow .u8 W a1 len1 cap1 zs := by
    obtain ⟨fuel, hf⟩ := h1
    rcases open_ints Try.underlying29 Try.underlying5 (by kernel_rfl) hf with ⟨hcs, _⟩ | ⟨x, l, c, zs, hcs, _, hl, hm, hz, _, hcell, hwz⟩
    · simp [Value.cells] at hcs
      obtain ⟨rfl, rfl, rfl⟩ := hcs
      exact ⟨[], .inl ⟨rfl, rfl, rfl, rfl⟩⟩
    · simp [Value.cells] at hcs
      obtain ⟨rfl, rfl, rfl⟩ := hcs
      exact ⟨zs, .inr ⟨_, rfl, hl, hm, by simpa using hz, hcell, hwz⟩⟩
  clear hA0 hval0
  refine (walk x0 c0 a1 len1 cap1 z1 W w0 w1).mono fun e W' ⟨he, bel⟩ => ?_
  subst he
  exact ⟨_, rfl, _, _, _, [], _, [], hW', trodAll_mk1 (shut_bool Try.underlying4 _), (trodAll_cons_mk (Below.trod laidOut (by kernel_rfl) (of_decide_eq_true (by kernel_rfl)) k0 bel lt0) (trodAll_cons_mk (Below.trod laidOut (by kernel_rfl) (of_decide_eq_true (by kernel_rfl)) k1 bel lt1) trodAll_mk0)), rfl, bel.frame _, fun h => by cases h⟩

theorem over : Rows.configBackRow.holds Try.pinned (OpenSpec.ofChange Rows.configBackSpec) :=
  OpenClaim.holds_of_wide 6 Try.f6 rfl rfl rfl rfl rfl rfl rfl ⟨rfl, rfl, rfl, rfl, rfl⟩ rfl rfl rfl rfl rfl (by kernel_rfl) Try.func6 (by kernel_rfl)
    (of_decide_eq_true (by kernel_rfl)) (by unfold Func.isWrapper; first | (rw [if_pos (by decide +kernel)]; kernel_rfl) | (rw [if_neg (by decide +kernel)]; exact ⟨rfl, rfl⟩))
    (fun os started H enc _ => lifted os started H enc)

theorem proved : Rows.ConfigBackSaid := over
end Go.Proofs.Ytljgliagciblbaa.configBack
