/- For any configuration, any place and any byte the law ConfigCut of citadellaw11 returns true: no beginning of a form is one, nor is a form with a byte behind it (config.Print, Parse). -/
import Derived.Test.YtljgliagciblbaaRows
import Derived.Test.YtljgliagciblbaaCfLf
import Derived.SizedLaws
import Derived.WalkKit
import Derived.ProofKit
import Derived.OpenShut
import Derived.ShutString
import Derived.ChangeOld
import Derived.Below
namespace Go.Proofs.Ytljgliagciblbaa.configCut
open Go.ChangeShapes Go.WideShapes Go.ChangeAt Go.RowKit
open Go.ChangeMaps (open_string shut_string)
set_option linter.unusedVariables false
set_option linter.unusedSimpArgs false

theorem own : ownKnob Try.prog.godebug = none := by kernel_rfl
theorem laidOut : laidOutB Try.prog = true := by kernel_rfl


set_option maxRecDepth 1000000 in
set_option maxHeartbeats 4000000 in
theorem walk (x0 : CV) (c0 : Cf) (a1 : Int) (a2 : Int) (w : World) (w0 : RdCf w w.heap.size x0 c0 ∧ x0.kw ≤ 9223372036854775807 ∧ x0.kp ≤ 9223372036854775807 ∧ x0.kc ≤ 9223372036854775807 ∧ CfWf c0) (w1 : (Lit.int .i64 a1).wf = true) (w2 : (Lit.int .u8 a2).wf = true) :
    Calls Try.prog 8 #[.agg #[.slice x0.aw x0.nw x0.kw, .slice x0.ap x0.np x0.kp, .slice x0.ac x0.nc x0.kc], .int .i64 a1, .int .u8 a2] w fun e w' => e = .returned (.bool true) ∧ Below w.heap.size w w' := by
  obtain ⟨r0, -, -, -, wf0⟩ := w0
  have WF := Lib.hid (inC_wf wf0)
  obtain ⟨wa, hwa, hb1, hx, hr⟩ := one_box w r0
  have HWA := Lib.hid hwa
  have B := Lib.hid hb1
  have X := Lib.hid hx
  have R := Lib.hid hr
  obtain ⟨y2, hy2⟩ := u8_of (wf_u8 w2).1 (wf_u8 w2).2
  clear r0 wf0 hwa hb1 hx hr w1 w2
  subst hy2
  go_enter Try.func8, Try.ntmps8
  go_upto_region 1 with (fail)
  rw [HWA.out]
  clear HWA
  have x1 := X.out.at (j := 0) rfl
  have x2 := X.out.at (j := 1) rfl
  have x3 := X.out.at (j := 2) rfl
  go_wp2_with fail
  refine (lGreat x0 c0 wa R.out).mono ?_
  rintro e wb ⟨rfl, hb⟩
  clear x1 x2 x3
  replace X := Lib.hid (X.out.to hb)
  replace R := Lib.hid (R.out.to hb)
  replace B := Lib.hid (B.out.trans (hb.mono B.out.size))
  clear hb
  cases hg : greatC c0
  rotate_left 1
  · skip
    go_wp2_with fail
    refine (lAwake _).mono ?_
    rintro e wz ⟨rfl, hb⟩
    have BZ := Lib.hid (B.out.trans (hb.mono B.out.size))
    clear hb
    go_wp2_with fail
    go_ret
    exact ⟨rfl, BZ.out⟩
  obtain ⟨hnw, hnp, hnc, -⟩ := bounds_of R.out hg
  have HNP := Lib.hid hnp
  clear hg hnw hnp hnc
  have x1 := X.out.at (j := 0) rfl
  have x2 := X.out.at (j := 1) rfl
  have x3 := X.out.at (j := 2) rfl
  go_wp2_with fail
  refine (pCanOf x0 c0 wb R.out HNP.out).mono ?_
  rintro e wc ⟨rfl, hb⟩
  clear x1 x2 x3
  replace X := Lib.hid (X.out.to hb)
  replace R := Lib.hid (R.out.to hb)
  replace B := Lib.hid (B.out.trans (hb.mono B.out.size))
  clear hb
  cases hc : canC c0
  · skip
    go_wp2_with fail
    refine (lAwake _).mono ?_
    rintro e wz ⟨rfl, hb⟩
    have BZ := Lib.hid (B.out.trans (hb.mono B.out.size))
    clear hb
    go_wp2_with fail
    go_ret
    exact ⟨rfl, BZ.out⟩
  have HC := Lib.hid hc
  clear hc
  have x1 := X.out.at (j := 0) rfl
  have x2 := X.out.at (j := 1) rfl
  have x3 := X.out.at (j := 2) rfl
  go_wp2_with fail
  refine (wPrint x0 c0 wc R.out HNP.out).mono ?_
  rintro e wd ⟨A, n, k, rfl, ho, hk1, hk2, hb⟩
  rw [(pr_yes HC.out).2]
  rw [(pr_yes HC.out).1] at ho
  have RF := Lib.hid ho.1
  have K1 := Lib.hid hk1
  have K2 := Lib.hid hk2
  have HN : Hid (n = (formC c0).length) := ho.1.1.symm
  have HN24 : Hid (24 ≤ n) := by (show _ ≤ _); rw [HN.out]; exact formC_ge c0
  have HN38 : Hid (n ≤ 3782) := by (show _ ≤ _); rw [HN.out]; exact formC_len HC.out
  clear ho hk1 hk2 x1 x2 x3
  replace X := Lib.hid (X.out.to hb)
  replace R := Lib.hid (R.out.to hb)
  replace B := Lib.hid (B.out.trans (hb.mono B.out.size))
  clear hb
  have hn1 : ¬ (n : Int) < 24 := by have := HN24.out; omega
  obtain ⟨q, hq, hqe⟩ := idx_ofC a1 (n := n) (by have := HN24.out; omega) (by have := HN38.out; omega)
  have HQ := Lib.hid hq
  clear hq
  have hz1 : ¬ (n : Int) = 0 := by have := HN24.out; omega
  have hz2 : ¬ n = 0 := by have := HN24.out; omega
  have hun : IntKind.u64.wrap (n : Int) = (n : Int) := by have := HN38.out; rw [IntKind.wrap_u64]; omega
  have hsl : ∀ w : World, (Instr.slice 29 (.slice A n k) none (some (.int .i64 (q : Int))) none).run Try.prog w = .ok (.slice A q k) w := fun w => slice_h isU8 A (n := n) (c := k) (h := q) (Nat.le_of_lt HQ.out) K1.out .i64 w
  replace RF := Lib.hid RF.out
  go_wp2_with fail
  have HQF : Hid (q < (formC c0).length) := by (show _ < _); rw [← HN.out]; exact HQ.out
  refine (wParse A q k ((formC c0).take q) wd (RF.out.front (Nat.le_of_lt HQ.out)) (Nat.le_trans (Nat.le_of_lt HQ.out) K1.out) K2.out (by have := HQ.out; have := HN38.out; omega)).mono ?_
  rintro e we ⟨v1, rfl, -, hb⟩
  rw [(cfOut_no (okC_cut HC.out WF.out HQF.out)).2]
  replace RF := Lib.hid (RF.out.to hb)
  replace B := Lib.hid (B.out.trans (hb.mono B.out.size))
  obtain ⟨aw4, nw4, kw4, ap4, np4, kp4, ac4, nc4, kc4⟩ := v1
  dsimp only [CV.val]
  have hal := (Below.refl we.heap.size we).alloc (Nat.le_refl _) (.cells #[.slice aw4 nw4 kw4, .slice ap4 np4 kp4, .slice ac4 nc4 kc4] 26)
  replace RF := Lib.hid (RF.out.to hal)
  replace B := Lib.hid (B.out.trans (hal.mono B.out.size))
  clear hal hb hz1 hz2 hun hsl hqe hn1
  go_upto_region 8 with (fail)
  generalize we.alloc (.cells #[.slice aw4 nw4 kw4, .slice ap4 np4 kp4, .slice ac4 nc4 kc4] 26) = wf at *
  have hbx := Bx.new wf 5 []
  have hal := (Below.refl wf.heap.size wf).alloc (Nat.le_refl _) (.cells #[] 5)
  have O6 := Lib.hid (own_nilV (B := wf.heap.size) (z := 1) hbx (Nat.le_refl _))
  have N6 := Lib.hid (RF.out.to hal).news
  have BW5 := Lib.hid hal
  clear hbx hal
  go_wp2_with (first | (at_builtin; refine wpList_pushV vtB rfl (.tmp 49) (.tmp 50) rfl rfl rfl O6.out N6.out.1 N6.out.2 (bytes_one _) BW5.out.size (by have := HN38.out; omega) ?_; intro v7 w7 hown7 hk7 hv7; rw [Nat.zero_add, List.nil_append] at hown7; obtain ⟨A7, c7, rfl⟩ := own_slV hown7; have B7 := Lib.hid (hk7.below BW5.out BW5.out.size (fun k hk => (O6.out.lt k hk).1)); have hal7 := (Below.refl w7.heap.size w7).alloc (Nat.le_refl _) (.cells #[.int .u8 (y2.toNat : Int)] 5); have O7 := Lib.hid (own_bv hown7 hal7); have N7 := Lib.hid (cells_newV w7 5 [.int .u8 (y2.toNat : Int)]); have B8 := Lib.hid (B7.out.trans (hal7.mono B7.out.size)); clear hown7 hk7 hv7 hal7) | (at_builtin; refine wpList_pushV vtB rfl (.tmp 51) (.tmp 53) rfl rfl rfl O7.out (m := 1) (news := [.int .u8 (y2.toNat : Int)]) rfl (fun _ => ⟨_, rfl, N7.out⟩) (bytes_one [y2]) B8.out.size (by have := HN38.out; omega) ?_; intro v9 w9 hown9 hk9 hv9; obtain ⟨A9, c9, rfl⟩ := own_slV hown9; have B9 := Lib.hid (hk9.below B8.out B8.out.size (fun k hk => (O7.out.lt k hk).1))))
  have O9 : Hid (w9.ownsRow wf.heap.size 5 1 (.slice A9 (n + 1) c9) (n + 1) ((formC c0 ++ [y2]).map bval)) := by (show World.ownsRow _ _ _ _ _ _ _); rw [List.map_append]; exact hown9
  have HC9 := Lib.hid (own_capV hown9)
  have R9 := Lib.hid (Rd.of_own O9.out)
  replace B := Lib.hid (B.out.trans (B9.out.mono B.out.size))
  clear hown9 hk9 hv9 O6 N6 BW5 B7 O7 N7 B8 B9 O9
  refine (wParse A9 (n + 1) c9 (formC c0 ++ [y2]) w9 R9.out HC9.out.2.1 HC9.out.2.2 (by have := HN38.out; omega)).mono ?_
  rintro e w10 ⟨v4, rfl, -, hb⟩
  rw [(cfOut_no (okC_more HC.out WF.out y2)).2]
  replace B := Lib.hid (B.out.trans (hb.mono B.out.size))
  obtain ⟨aw5, nw5, kw5, ap5, np5, kp5, ac5, nc5, kc5⟩ := v4
  dsimp only [CV.val]
  have hal := (Below.refl w10.heap.size w10).alloc (Nat.le_refl _) (.cells #[.slice aw5 nw5 kw5, .slice ap5 np5 kp5, .slice ac5 nc5 kc5] 26)
  replace B := Lib.hid (B.out.trans (hal.mono B.out.size))
  clear hal hb
  go_upto_region 9 with (fail)
  generalize w10.alloc (.cells #[.slice aw5 nw5 kw5, .slice ap5 np5 kp5, .slice ac5 nc5 kc5] 26) = w11 at *
  go_wp2_with fail
  refine (lAwake _).mono ?_
  rintro e wz ⟨rfl, hb⟩
  have BZ := Lib.hid (B.out.trans (hb.mono B.out.size))
  clear hb
  go_wp2_with fail
  go_ret
  exact ⟨rfl, BZ.out⟩

set_option maxRecDepth 100000 in
theorem lifted (os : Os) (started : os.Started) (H : Type) (enc : TypeId × Value → H) :
    ReturnsInHanded {} Try.checked os 8 .any (Rows.configCutSpec.pre6 enc Try.prog Try.f8 Rows.configCutRow.domain false) (Rows.configCutSpec.post enc Try.prog Try.f8 false true false false) := by
  refine returnsInHanded_of_change_sized (C := Try.checked) own started (by kernel_rfl) Try.func8
    (ChangeSpec.witness6 (enc := enc) (C := Try.checked) false ⟨#[], #[.agg #[.slice none 0 0, .slice none 0 0, .slice none 0 0], .int .i64 0, .int .u8 0], []⟩ 8 (by kernel_rfl) (by kernel_rfl) (by kernel_rfl) (by kernel_rfl)) ?_
  intro W base args ds gs before hval0 hW hcnd hsz0 _
  have hval : ∀ (j : Nat) t v, Try.f8.params[j]? = some t → args[j]? = some v → Value.okWide Try.prog W .any base t v := hval0
  have hsz : (DataW.weightsEach Try.prog (Try.f8.params.toList ++ Rows.configCutSpec.plain.varTypes Try.prog) (ds ++ gs)).all (· ≤ reachBytes) = true := hsz0
  have hW' := hW
  obtain ⟨p, q, hA0, hV, rfl, hfz, hnd⟩ := hW
  have hA : DataW.TrodAll enc Try.prog W 0 (fun _ => true) true Try.f8.params.toList args.toList ds p := hA0
  rw [Try.params8] at hA hval hsz
  obtain ⟨v0, vs0, d0, ds0, p0, q0, hargs, rfl, rfl, h0, r0⟩ := trodAll_cons hA
  obtain ⟨v1, vs1, d1, ds1, p1, q1, rfl, rfl, rfl, h1, r1⟩ := trodAll_cons r0
  obtain ⟨v2, vs2, d2, ds2, p2, q2, rfl, rfl, rfl, h2, r2⟩ := trodAll_cons r1
  obtain ⟨rfl, rfl, rfl⟩ := trodAll_nil r2
  obtain rfl : args = #[v0, v1, v2] := by cases args; simp_all
  obtain ⟨rfl, rfl⟩ := trodVars_none hV
  have sz0 : ∀ x ∈ d0.weights Try.prog 26, x ≤ reachBytes := fun x hx => by simpa using List.all_eq_true.1 hsz _ (DataW.weights_mem_each (j := 0) rfl rfl x hx)
  have k0 := h0
  have lt0 : ∀ x ∈ p0, x.block < W.heap.size := by obtain ⟨m, hm⟩ := k0; exact DataW.trod_lt m _ _ _ hm
  obtain ⟨x0, c0, rfl, w0⟩ := open_config (hval 0 26 v0 rfl rfl) h0 sz0
  obtain ⟨a1, rfl, rfl, rfl, w1⟩ := open_int Try.underlying3 (hval 1 3 v1 rfl rfl) h1
  obtain ⟨a2, rfl, rfl, rfl, w2⟩ := open_int Try.underlying5 (hval 2 5 v2 rfl rfl) h2
  clear hA0 hval0
  refine (walk x0 c0 a1 a2 W w0 w1 w2).mono fun e W' ⟨he, bel⟩ => ?_
  subst he
  exact ⟨_, rfl, _, _, _, [], _, [], hW', trodAll_mk1 (shut_bool Try.underlying4 _), (trodAll_cons_mk (Below.trod laidOut (by kernel_rfl) (of_decide_eq_true (by kernel_rfl)) k0 bel lt0) (trodAll_cons_mk (shut_int Try.underlying3 w1) (trodAll_cons_mk (shut_int Try.underlying5 w2) trodAll_mk0))), rfl, bel.frame _, fun h => by cases h⟩

theorem over : Rows.configCutRow.holds Try.pinned (OpenSpec.ofChange Rows.configCutSpec) :=
  OpenClaim.holds_of_wide 8 Try.f8 rfl rfl rfl rfl rfl rfl rfl ⟨rfl, rfl, rfl, rfl, rfl⟩ rfl rfl rfl rfl rfl (by kernel_rfl) Try.func8 (by kernel_rfl)
    (of_decide_eq_true (by kernel_rfl)) (by unfold Func.isWrapper; first | (rw [if_pos (by decide +kernel)]; kernel_rfl) | (rw [if_neg (by decide +kernel)]; exact ⟨rfl, rfl⟩))
    (fun os started H enc _ => lifted os started H enc)

theorem proved : Rows.ConfigCutSaid := over
end Go.Proofs.Ytljgliagciblbaa.configCut
