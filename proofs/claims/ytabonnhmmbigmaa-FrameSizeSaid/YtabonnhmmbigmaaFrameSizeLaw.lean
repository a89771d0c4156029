/- For any kind, any payload of at most 58 bytes, any number of bytes cut off and any at most 70 bytes behind it the law FrameSize of citadellaw07 returns true: bytes that don't fill a sector, or more, are no frame. Conditions: none beyond those that the statement itself prints. -/
import Derived.Test.YtabonnhmmbigmaaRows
import Derived.Test.YtabonnhmmbigmaaFrameAwake
import Derived.WalkKit
import Derived.ProofKit
import Derived.OpenShut
import Derived.ShutString
import Derived.ChangeOld
import Derived.Below
namespace Go.Proofs.Ytabonnhmmbigmaa.frameSize
open Go.ChangeShapes Go.WideShapes Go.ChangeAt Go.RowKit
open Go.ChangeMaps (open_string shut_string)
set_option linter.unusedVariables false
set_option linter.unusedSimpArgs false

theorem own : ownKnob Try.prog.godebug = none := by kernel_rfl
theorem laidOut : laidOutB Try.prog = true := by kernel_rfl

theorem frOk_cat (ps ys : List UInt8) (h : ps.length = 64) (hf : frOk ps = true) : frOk (ps ++ ys) = decide (ys.length = 0) := by
  by_cases h0 : ys.length = 0
  · rw [List.eq_nil_of_length_eq_zero h0, List.append_nil, hf]; rfl
  · rw [decide_eq_false h0]
    exact frOk_len (by rw [List.length_append]; omega)
set_option maxRecDepth 1000000 in
set_option maxHeartbeats 4000000 in
theorem walk (a0 : Int) (a1 : Option Addr) (len1 cap1 : Nat) (z1 : List Int) (a2 : Int) (a3 : Option Addr) (len3 cap3 : Nat) (z3 : List Int) (w : World) (w0 : (Lit.int .u8 a0).wf = true) (w1 : IsRow .u8 w a1 len1 cap1 z1) (w2 : (Lit.int .i64 a2).wf = true) (w3 : IsRow .u8 w a3 len3 cap3 z3) :
    Calls Try.prog 7 #[.int .u8 a0, .slice a1 len1 cap1, .int .i64 a2, .slice a3 len3 cap3] w fun e w' => e = .returned (.bool true) ∧ Below w.heap.size w w' := by
  obtain ⟨r1, hcap1, hcap1'⟩ := w1.rd
  obtain ⟨r3, hcap3, hcap3'⟩ := w3.rd
  obtain ⟨k, hk⟩ := u8v w0
  obtain ⟨hn1, hn2⟩ := wf_i64 w2
  generalize bytesIn (z1.take len1) = xs at r1
  generalize bytesIn (z3.take len3) = ys at r3
  clear w0 w1 w2 w3
  have R := Lib.hid r1
  have S := Lib.hid r3
  have HK := Lib.hid hk
  have HN1 := Lib.hid hn1
  have HN2 := Lib.hid hn2
  clear r1 r3 hn1 hn2
  by_cases hout : 58 < len1 ∨ 70 < len3
  · clear hk
    go_enter Try.func7, Try.ntmps7
    go_wp2_with fail
    refine (awake w).mono ?_
    rintro e w1 ⟨rfl, hb⟩
    have B := Lib.hid hb
    clear hb
    by_cases h1 : 58 < len1
    · have h1I : (len1 : Int) > 58 := by omega
      go_wp2_with fail
      go_ret
      exact ⟨rfl, B.out⟩
    · have h1I : ¬ ((len1 : Int) > 58) := by omega
      have h2I : (len3 : Int) > 70 := by omega
      go_wp2_with fail
      go_ret
      exact ⟨rfl, B.out⟩
  have hl1 : len1 ≤ 58 := by omega
  have hl3 : len3 ≤ 70 := by omega
  have h1I : ¬ ((len1 : Int) > 58) := by omega
  have h2I : ¬ ((len3 : Int) > 70) := by omega
  have HXL : Hid (xs.length ≤ 58) := by (show _ ≤ _); rw [R.out.1]; exact hl1
  have HYL : Hid (ys.length = len3) := S.out.1
  clear hout hk
  go_enter Try.func7, Try.ntmps7
  go_wp2_with fail
  refine (awake w).mono ?_
  rintro e w1 ⟨rfl, hb⟩
  have B := Lib.hid hb
  replace R := Lib.hid (R.out.to hb)
  replace S := Lib.hid (S.out.to hb)
  clear hb
  go_wp2_with fail
  refine (wSealZ a1 len1 cap1 k a0 HK.out xs w1 R.out hl1).mono ?_
  rintro e w2 ⟨A2, n2, c2, rfl, hown2, hb⟩
  have X := Lib.hid (Rd.of_own hown2)
  obtain rfl : n2 = 64 := by rw [← X.out.1]; exact frm_len HXL.out
  obtain ⟨hcp, hcp'⟩ := own_cap hown2
  clear hown2 R
  replace S := Lib.hid (S.out.to hb)
  replace B := Lib.hid (B.out.trans (hb.mono B.out.size))
  clear hb
  go_wp2_with fail
  refine (wCat2 A2 a3 64 len3 c2 cap3 (frm k xs) ys w2 X.out S.out (by omega)).mono ?_
  rintro e w3 ⟨A3, n3, c3, rfl, hown3, hb⟩
  have C := Lib.hid (Rd.of_own hown3)
  have hn3 : n3 = 64 + len3 := by rw [← C.out.1, List.length_append, frm_len HXL.out, HYL.out]
  obtain ⟨hcp3, hcp3'⟩ := own_cap hown3
  have HN3 := Lib.hid hn3
  clear hown3 S hn3
  replace X := Lib.hid (X.out.to hb)
  replace B := Lib.hid (B.out.trans (hb.mono B.out.size))
  clear hb
  go_wp2_with fail
  refine (wKind A3 n3 c3 _ w3 C.out hcp3 hcp3').mono ?_
  rw [frOk_cat _ _ (frm_len HXL.out) (frm_ok HXL.out), HYL.out]
  generalize kindOf (frm k xs ++ ys) = kd at *
  rintro e w4 ⟨rfl, hb⟩
  clear C
  replace X := Lib.hid (X.out.to hb)
  replace B := Lib.hid (B.out.trans (hb.mono B.out.size))
  clear hb
  by_cases hcut : 0 < a2 ∧ a2 ≤ 64
  · obtain ⟨q, hq⟩ : ∃ q : Nat, 64 - a2 = (q : Int) := ⟨(64 - a2).toNat, by omega⟩
    have hq64 : q < 64 := by omega
    have hc1 : a2 > 0 := hcut.1
    have hc2 : a2 ≤ 64 := hcut.2
    have hw : IntKind.i64.wrap (64 - a2) = (q : Int) := by rw [hq]; exact IntWalk.i64_in _ (by omega)
    have hsl : ∀ w : World, (Instr.slice 22 (.slice A2 64 c2) none (some (.int .i64 (q : Int))) none).run Try.prog w = .ok (.slice A2 q c2) w := fun w => slice_h isU8 A2 (n := 64) (c := c2) (h := q) (by omega) hcp .i64 w
    have XF := Lib.hid (X.out.front (k := q) (by omega))
    have HF0 : Hid (frOk ((frm k xs).take q) = false) := frOk_len (by rw [XF.out.1]; omega)
    clear hcut
    go_wp2_with fail
    refine (wKind A2 q c2 _ w4 XF.out (by omega) hcp').mono ?_
    rw [HF0.out]
    generalize kindOf ((frm k xs).take q) = kd2 at *
    rintro e w5 ⟨rfl, hb⟩
    clear X XF HF0 hsl hw hq
    replace B := Lib.hid (B.out.trans (hb.mono B.out.size))
    clear hb
    go_wp2_with fail
    by_cases h0 : len3 = 0
    · subst h0
      rw [show decide (0 = 0) = true from rfl]
      go_wp2_with fail
      go_ret
      exact ⟨rfl, B.out⟩
    · rw [decide_eq_false h0]
      have f1 : ((len3 : Int) == 0) = false := by simp; exact h0
      have f2 : (len3 == 0) = false := by simp; exact h0
      have f3 : ¬ ((len3 : Int) = 0) := by omega
      go_wp2_with fail
      go_ret
      exact ⟨congrArg (fun b : Bool => Ending.returned (Value.bool (false == b))) f1, B.out⟩
  · by_cases hc1 : a2 > 0
    · have hc2 : ¬ a2 ≤ 64 := fun h => hcut ⟨hc1, h⟩
      clear hcut X
      go_wp2_with fail
      by_cases h0 : len3 = 0
      · subst h0
        rw [show decide (0 = 0) = true from rfl]
        go_wp2_with fail
        go_ret
        exact ⟨rfl, B.out⟩
      · rw [decide_eq_false h0]
        have f1 : ((len3 : Int) == 0) = false := by simp; exact h0
        have f2 : (len3 == 0) = false := by simp; exact h0
        have f3 : ¬ ((len3 : Int) = 0) := by omega
        go_wp2_with fail
        go_ret
        exact ⟨congrArg (fun b : Bool => Ending.returned (Value.bool (false == b))) f1, B.out⟩
    · clear hcut X
      go_wp2_with fail
      by_cases h0 : len3 = 0
      · subst h0
        rw [show decide (0 = 0) = true from rfl]
        go_wp2_with fail
        go_ret
        exact ⟨rfl, B.out⟩
      · rw [decide_eq_false h0]
        have f1 : ((len3 : Int) == 0) = false := by simp; exact h0
        have f2 : (len3 == 0) = false := by simp; exact h0
        have f3 : ¬ ((len3 : Int) = 0) := by omega
        go_wp2_with fail
        go_ret
        exact ⟨congrArg (fun b : Bool => Ending.returned (Value.bool (false == b))) f1, B.out⟩

set_option maxRecDepth 100000 in
theorem lifted (os : Os) (started : os.Started) (H : Type) (enc : TypeId × Value → H) :
    ReturnsInHanded {} Try.checked os 7 .any (Rows.frameSizeSpec.pre6 enc Try.prog Try.f7 Rows.frameSizeRow.domain false) (Rows.frameSizeSpec.post enc Try.prog Try.f7 false true false false) := by
  refine returnsInHanded_of_change (C := Try.checked) own started (by kernel_rfl) Try.func7
    (ChangeSpec.witness6 (enc := enc) (C := Try.checked) false ⟨#[], #[.int .u8 0, .slice none 0 0, .int .i64 0, .slice none 0 0], []⟩ 8 (by kernel_rfl) (by kernel_rfl) (by kernel_rfl) (by kernel_rfl)) ?_
  intro W base args ds gs before hval0 hW hcnd _
  have hval : ∀ (j : Nat) t v, Try.f7.params[j]? = some t → args[j]? = some v → Value.okWide Try.prog W .any base t v := hval0
  have hW' := hW
  obtain ⟨p, q, hA0, hV, rfl, hfz, hnd⟩ := hW
  have hA : DataW.TrodAll enc Try.prog W 0 (fun _ => true) true Try.f7.params.toList args.toList ds p := hA0
  rw [Try.params7] at hA hval
  obtain ⟨v0, vs0, d0, ds0, p0, q0, hargs, rfl, rfl, h0, r0⟩ := trodAll_cons hA
  obtain ⟨v1, vs1, d1, ds1, p1, q1, rfl, rfl, rfl, h1, r1⟩ := trodAll_cons r0
  obtain ⟨v2, vs2, d2, ds2, p2, q2, rfl, rfl, rfl, h2, r2⟩ := trodAll_cons r1
  obtain ⟨v3, vs3, d3, ds3, p3, q3, rfl, rfl, rfl, h3, r3⟩ := trodAll_cons r2
  obtain ⟨rfl, rfl, rfl⟩ := trodAll_nil r3
  obtain rfl : args = #[v0, v1, v2, v3] := by cases args; simp_all
  obtain ⟨rfl, rfl⟩ := trodVars_none hV
  obtain ⟨a0, rfl, rfl, rfl, w0⟩ := open_int Try.underlying5 (hval 0 5 v0 rfl rfl) h0
  obtain ⟨a1, len1, cap1, rfl⟩ := okWide_slice Try.underlying22 (hval 1 22 v1 rfl rfl)
  have k1 := h1
  have lt1 : ∀ x ∈ p1, x.block < W.heap.size := by obtain ⟨m, hm⟩ := k1; exact DataW.trod_lt m _ _ _ hm
  obtain ⟨z1, w1⟩ : ∃ zs, IsRow .u8 W a1 len1 cap1 zs := by
    obtain ⟨fuel, hf⟩ := h1
    rcases open_ints Try.underlying22 Try.underlying5 (by kernel_rfl) hf with ⟨hcs, _⟩ | ⟨x, l, c, zs, hcs, _, hl, hm, hz, _, hcell, hwz⟩
    · simp [Value.cells] at hcs
      obtain ⟨rfl, rfl, rfl⟩ := hcs
      exact ⟨[], .inl ⟨rfl, rfl, rfl, rfl⟩⟩
    · simp [Value.cells] at hcs
      obtain ⟨rfl, rfl, rfl⟩ := hcs
      exact ⟨zs, .inr ⟨_, rfl, hl, hm, by simpa using hz, hcell, hwz⟩⟩
  obtain ⟨a2, rfl, rfl, rfl, w2⟩ := open_int Try.underlying3 (hval 2 3 v2 rfl rfl) h2
  obtain ⟨a3, len3, cap3, rfl⟩ := okWide_slice Try.underlying22 (hval 3 22 v3 rfl rfl)
  have k3 := h3
  have lt3 : ∀ x ∈ p3, x.block < W.heap.size := by obtain ⟨m, hm⟩ := k3; exact DataW.trod_lt m _ _ _ hm
  obtain ⟨z3, w3⟩ : ∃ zs, IsRow .u8 W a3 len3 cap3 zs := by
    obtain ⟨fuel, hf⟩ := h3
    rcases open_ints Try.underlying22 Try.underlying5 (by kernel_rfl) hf with ⟨hcs, _⟩ | ⟨x, l, c, zs, hcs, _, hl, hm, hz, _, hcell, hwz⟩
    · simp [Value.cells] at hcs
      obtain ⟨rfl, rfl, rfl⟩ := hcs
      exact ⟨[], .inl ⟨rfl, rfl, rfl, rfl⟩⟩
    · simp [Value.cells] at hcs
      obtain ⟨rfl, rfl, rfl⟩ := hcs
      exact ⟨zs, .inr ⟨_, rfl, hl, hm, by simpa using hz, hcell, hwz⟩⟩
  clear hA0 hval0
  refine (walk a0 a1 len1 cap1 z1 a2 a3 len3 cap3 z3 W w0 w1 w2 w3).mono fun e W' ⟨he, bel⟩ => ?_
  subst he
  exact ⟨_, rfl, _, _, _, [], _, [], hW', trodAll_mk1 (shut_bool Try.underlying4 _), (trodAll_cons_mk (shut_int Try.underlying5 w0) (trodAll_cons_mk (Below.trod laidOut (by kernel_rfl) (of_decide_eq_true (by kernel_rfl)) k1 bel lt1) (trodAll_cons_mk (shut_int Try.underlying3 w2) (trodAll_cons_mk (Below.trod laidOut (by kernel_rfl) (of_decide_eq_true (by kernel_rfl)) k3 bel lt3) trodAll_mk0)))), rfl, bel.frame _, fun h => by cases h⟩

theorem over : Rows.frameSizeRow.holds Try.pinned (OpenSpec.ofChange Rows.frameSizeSpec) :=
  OpenClaim.holds_of_wide 7 Try.f7 rfl rfl rfl rfl rfl rfl rfl ⟨rfl, rfl, rfl, rfl, rfl⟩ rfl rfl rfl rfl rfl (by kernel_rfl) Try.func7 (by kernel_rfl)
    (of_decide_eq_true (by kernel_rfl)) (by unfold Func.isWrapper; first | (rw [if_pos (by decide +kernel)]; kernel_rfl) | (rw [if_neg (by decide +kernel)]; exact ⟨rfl, rfl⟩))
    (fun os started H enc _ => lifted os started H enc)

theorem proved : Rows.FrameSizeSaid := over
end Go.Proofs.Ytabonnhmmbigmaa.frameSize
