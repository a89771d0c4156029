/- For any two kinds, any payload of at most 58 bytes and any row of at most 100 bytes the law FrameBack of citadellaw07 returns true: a frame is opened as its payload, by its kind alone; what is opened, sealed again, is the same sector. Conditions: none beyond those that the statement itself prints. -/
import Derived.Test.YtabonnhmmbigmaaRows
import Derived.Test.YtabonnhmmbigmaaFrameAwake
import Derived.WalkKit
import Derived.ProofKit
import Derived.OpenShut
import Derived.ShutString
import Derived.ChangeOld
import Derived.Below
namespace Go.Proofs.Ytabonnhmmbigmaa.frameBack
open Go.ChangeShapes Go.WideShapes Go.ChangeAt Go.RowKit
open Go.ChangeMaps (open_string shut_string)
set_option linter.unusedVariables false
set_option linter.unusedSimpArgs false

theorem own : ownKnob Try.prog.godebug = none := by kernel_rfl
theorem laidOut : laidOutB Try.prog = true := by kernel_rfl


set_option maxRecDepth 1000000 in
set_option maxHeartbeats 4000000 in
theorem walk (a0 : Int) (a1 : Int) (a2 : Option Addr) (len2 cap2 : Nat) (z2 : List Int) (a3 : Option Addr) (len3 cap3 : Nat) (z3 : List Int) (w : World) (w0 : (Lit.int .u8 a0).wf = true) (w1 : (Lit.int .u8 a1).wf = true) (w2 : IsRow .u8 w a2 len2 cap2 z2) (w3 : IsRow .u8 w a3 len3 cap3 z3) :
    Calls Try.prog 5 #[.int .u8 a0, .int .u8 a1, .slice a2 len2 cap2, .slice a3 len3 cap3] w fun e w' => e = .returned (.bool true) ∧ Below w.heap.size w w' := by
  obtain ⟨r2, hcap2, hcap2'⟩ := w2.rd
  obtain ⟨r3, hcap3, hcap3'⟩ := w3.rd
  obtain ⟨k, hk⟩ := u8v w0
  obtain ⟨o, ho⟩ := u8v w1
  generalize bytesIn (z2.take len2) = xs at r2
  generalize bytesIn (z3.take len3) = bs at r3
  clear w0 w1 w2 w3
  have R := Lib.hid r2
  have S := Lib.hid r3
  have HK := Lib.hid hk
  have HO := Lib.hid ho
  clear r2 r3
  by_cases hout : 58 < len2 ∨ 100 < len3
  · clear hk ho
    go_enter Try.func5, Try.ntmps5
    go_wp2_with fail
    refine (awake w).mono ?_
    rintro e w1 ⟨rfl, hb⟩
    have B := Lib.hid hb
    clear hb
    by_cases h1 : 58 < len2
    · have h1I : (len2 : Int) > 58 := by omega
      go_wp2_with fail
      go_ret
      exact ⟨rfl, B.out⟩
    · have h1I : ¬ ((len2 : Int) > 58) := by omega
      have h2I : (len3 : Int) > 100 := by omega
      go_wp2_with fail
      go_ret
      exact ⟨rfl, B.out⟩
  have hl2 : len2 ≤ 58 := by omega
  have hl3 : len3 ≤ 100 := by omega
  have h1I : ¬ ((len2 : Int) > 58) := by omega
  have h2I : ¬ ((len3 : Int) > 100) := by omega
  have HXL : Hid (xs.length ≤ 58) := by (show _ ≤ _); rw [R.out.1]; exact hl2
  have hf0 : (a0 != a0) = false := by simp
  have hf1 : (a0 == a0) = true := by simp
  clear hout hk ho
  go_enter Try.func5, Try.ntmps5
  go_wp2_with fail
  refine (awake w).mono ?_
  rintro e w1 ⟨rfl, hb⟩
  have B := Lib.hid hb
  replace R := Lib.hid (R.out.to hb)
  replace S := Lib.hid (S.out.to hb)
  clear hb
  go_wp2_with fail
  refine (wSealZ a2 len2 cap2 k a0 HK.out xs w1 R.out hl2).mono ?_
  rintro e w2 ⟨A2, n2, c2, rfl, hown2, hb⟩
  have X := Lib.hid (Rd.of_own hown2)
  obtain rfl : n2 = 64 := by rw [← X.out.1]; exact frm_len HXL.out
  obtain ⟨g, rfl, hg⟩ := own_head hown2 (by decide)
  obtain ⟨hcp, hcp'⟩ := own_cap hown2
  clear hown2
  replace R := Lib.hid (R.out.to hb)
  replace S := Lib.hid (S.out.to hb)
  replace B := Lib.hid (B.out.trans (hb.mono B.out.size))
  clear hb
  go_wp2_with fail
  refine (wOpenZ (some ⟨g, 0, none⟩) 64 c2 k a0 HK.out _ w2 X.out hcp hcp' (by rw [frm_open HXL.out]; exact decide_eq_true rfl)).mono ?_
  rw [frm_payl HXL.out]
  rintro e w3 ⟨A3, n3, c3, rfl, hown3, hb⟩
  have C := Lib.hid (Rd.of_own hown3)
  obtain rfl : n3 = len2 := by rw [← C.out.1, R.out.1]
  clear hown3
  replace R := Lib.hid (R.out.to hb)
  replace S := Lib.hid (S.out.to hb)
  replace X := Lib.hid (X.out.to hb)
  replace B := Lib.hid (B.out.trans (hb.mono B.out.size))
  clear hb
  go_wp2_with fail
  by_cases hok : o = k
  · have hoo : openOk o (frm k xs) = true := by rw [frm_open HXL.out]; exact decide_eq_true hok
    obtain rfl : a0 = a1 := by rw [HO.out, HK.out, hok]
    refine (wOpenZ (some ⟨g, 0, none⟩) 64 c2 o a0 HO.out _ w3 X.out hcp hcp' hoo).mono ?_
    rw [frm_payl HXL.out]
    rintro e w4 ⟨A4, n4, c4, rfl, hown4, hb⟩
    clear hown4 hoo hok
    replace R := Lib.hid (R.out.to hb)
    replace S := Lib.hid (S.out.to hb)
    replace X := Lib.hid (X.out.to hb)
    replace C := Lib.hid (C.out.to hb)
    replace B := Lib.hid (B.out.trans (hb.mono B.out.size))
    clear hb
    go_wp2_with fail
    refine (wKind (some ⟨g, 0, none⟩) 64 c2 _ w4 X.out hcp hcp').mono ?_
    rw [frm_kind HXL.out, frm_ok HXL.out, ← HK.out]
    rintro e w5 ⟨rfl, hb⟩
    clear X
    replace R := Lib.hid (R.out.to hb)
    replace S := Lib.hid (S.out.to hb)
    replace C := Lib.hid (C.out.to hb)
    replace B := Lib.hid (B.out.trans (hb.mono B.out.size))
    clear hb
    go_wp2_with fail
    refine (wSame A3 a2 n3 n3 c3 cap2 _ xs xs w5 C.out R.out).mono ?_
    rw [show decide (xs = xs) = true from decide_eq_true rfl]
    rintro e w' ⟨rfl, rfl⟩
    clear C R
    go_wp2_with fail
    cases hop : openOk k bs
    · refine (wOpenBadZ a3 len3 cap3 k a0 HK.out bs w5 S.out hcap3 hcap3' hop).mono ?_
      clear hop
      rintro e w6 ⟨rfl, hb⟩
      clear S
      replace B := Lib.hid (B.out.trans (hb.mono B.out.size))
      clear hb
      go_wp2_with fail
      go_ret
      exact ⟨rfl, B.out⟩
    · have HP := Lib.hid (openOk_parts hop)
      refine (wOpenZ a3 len3 cap3 k a0 HK.out bs w5 S.out hcap3 hcap3' hop).mono ?_
      clear hop
      rintro e w6 ⟨A6, n6, c6, rfl, hown6, hb⟩
      have D := Lib.hid (Rd.of_own hown6)
      have hn6 : n6 ≤ 58 := by rw [← D.out.1, HP.out.2.2.1]; exact HP.out.2.1
      clear hown6
      replace S := Lib.hid (S.out.to hb)
      replace B := Lib.hid (B.out.trans (hb.mono B.out.size))
      clear hb
      go_wp2_with fail
      refine (wSealZ A6 n6 c6 k a0 HK.out _ w6 D.out hn6).mono ?_
      rw [HP.out.2.2.2]
      rintro e w7 ⟨A7, n7, c7, rfl, hown7, hb⟩
      have Y := Lib.hid (Rd.of_own hown7)
      clear hown7 D
      replace S := Lib.hid (S.out.to hb)
      replace B := Lib.hid (B.out.trans (hb.mono B.out.size))
      clear hb
      go_wp2_with fail
      refine (wSame A7 a3 n7 len3 c7 cap3 _ bs bs w7 Y.out S.out).mono ?_
      rw [show decide (bs = bs) = true from decide_eq_true rfl]
      rintro e w' ⟨rfl, rfl⟩
      go_wp2_with fail
      go_ret
      exact ⟨rfl, B.out⟩
  · have hoo : openOk o (frm k xs) = false := by rw [frm_open HXL.out]; exact decide_eq_false hok
    have hne : ¬ a1 = a0 := fun h => hok (UInt8.toNat_inj.1 (by have h1 := HO.out; have h2 := HK.out; omega))
    have hne1 : (a1 == a0) = false := by simp; exact hne
    refine (wOpenBadZ (some ⟨g, 0, none⟩) 64 c2 o a1 HO.out _ w3 X.out hcp hcp' hoo).mono ?_
    rintro e w4 ⟨rfl, hb⟩
    clear hoo hok
    replace R := Lib.hid (R.out.to hb)
    replace S := Lib.hid (S.out.to hb)
    replace X := Lib.hid (X.out.to hb)
    replace C := Lib.hid (C.out.to hb)
    replace B := Lib.hid (B.out.trans (hb.mono B.out.size))
    clear hb
    go_wp2_with fail
    refine (wKind (some ⟨g, 0, none⟩) 64 c2 _ w4 X.out hcp hcp').mono ?_
    rw [frm_kind HXL.out, frm_ok HXL.out, ← HK.out]
    rintro e w5 ⟨rfl, hb⟩
    clear X
    replace R := Lib.hid (R.out.to hb)
    replace S := Lib.hid (S.out.to hb)
    replace C := Lib.hid (C.out.to hb)
    replace B := Lib.hid (B.out.trans (hb.mono B.out.size))
    clear hb
    go_wp2_with fail
    refine (wSame A3 a2 n3 n3 c3 cap2 _ xs xs w5 C.out R.out).mono ?_
    rw [show decide (xs = xs) = true from decide_eq_true rfl]
    rintro e w' ⟨rfl, rfl⟩
    clear C R
    go_wp2_with fail
    cases hop : openOk k bs
    · refine (wOpenBadZ a3 len3 cap3 k a0 HK.out bs w5 S.out hcap3 hcap3' hop).mono ?_
      clear hop
      rintro e w6 ⟨rfl, hb⟩
      clear S
      replace B := Lib.hid (B.out.trans (hb.mono B.out.size))
      clear hb
      go_wp2_with fail
      go_ret
      exact ⟨rfl, B.out⟩
    · have HP := Lib.hid (openOk_parts hop)
      refine (wOpenZ a3 len3 cap3 k a0 HK.out bs w5 S.out hcap3 hcap3' hop).mono ?_
      clear hop
      rintro e w6 ⟨A6, n6, c6, rfl, hown6, hb⟩
      have D := Lib.hid (Rd.of_own hown6)
      have hn6 : n6 ≤ 58 := by rw [← D.out.1, HP.out.2.2.1]; exact HP.out.2.1
      clear hown6
      replace S := Lib.hid (S.out.to hb)
      replace B := Lib.hid (B.out.trans (hb.mono B.out.size))
      clear hb
      go_wp2_with fail
      refine (wSealZ A6 n6 c6 k a0 HK.out _ w6 D.out hn6).mono ?_
      rw [HP.out.2.2.2]
      rintro e w7 ⟨A7, n7, c7, rfl, hown7, hb⟩
      have Y := Lib.hid (Rd.of_own hown7)
      clear hown7 D
      replace S := Lib.hid (S.out.to hb)
      replace B := Lib.hid (B.out.trans (hb.mono B.out.size))
      clear hb
      go_wp2_with fail
      refine (wSame A7 a3 n7 len3 c7 cap3 _ bs bs w7 Y.out S.out).mono ?_
      rw [show decide (bs = bs) = true from decide_eq_true rfl]
      rintro e w' ⟨rfl, rfl⟩
      go_wp2_with fail
      go_ret
      exact ⟨rfl, B.out⟩

set_option maxRecDepth 100000 in
theorem lifted (os : Os) (started : os.Started) (H : Type) (enc : TypeId × Value → H) :
    ReturnsInHanded {} Try.checked os 5 .any (Rows.frameBackSpec.pre6 enc Try.prog Try.f5 Rows.frameBackRow.domain false) (Rows.frameBackSpec.post enc Try.prog Try.f5 false true false false) := by
  refine returnsInHanded_of_change (C := Try.checked) own started (by kernel_rfl) Try.func5
    (ChangeSpec.witness6 (enc := enc) (C := Try.checked) false ⟨#[], #[.int .u8 0, .int .u8 0, .slice none 0 0, .slice none 0 0], []⟩ 8 (by kernel_rfl) (by kernel_rfl) (by kernel_rfl) (by kernel_rfl)) ?_
  intro W base args ds gs before hval0 hW hcnd _
  have hval : ∀ (j : Nat) t v, Try.f5.params[j]? = some t → args[j]? = some v → Value.okWide Try.prog W .any base t v := hval0
  have hW' := hW
  obtain ⟨p, q, hA0, hV, rfl, hfz, hnd⟩ := hW
  have hA : DataW.TrodAll enc Try.prog W 0 (fun _ => true) true Try.f5.params.toList args.toList ds p := hA0
  rw [Try.params5] at hA hval
  obtain ⟨v0, vs0, d0, ds0, p0, q0, hargs, rfl, rfl, h0, r0⟩ := trodAll_cons hA
  obtain ⟨v1, vs1, d1, ds1, p1, q1, rfl, rfl, rfl, h1, r1⟩ := trodAll_cons r0
  obtain ⟨v2, vs2, d2, ds2, p2, q2, rfl, rfl, rfl, h2, r2⟩ := trodAll_cons r1
  obtain ⟨v3, vs3, d3, ds3, p3, q3, rfl, rfl, rfl, h3, r3⟩ := trodAll_cons r2
  obtain ⟨rfl, rfl, rfl⟩ := trodAll_nil r3
  obtain rfl : args = #[v0, v1, v2, v3] := by cases args; simp_all
  obtain ⟨rfl, rfl⟩ := trodVars_none hV
  obtain ⟨a0, rfl, rfl, rfl, w0⟩ := open_int Try.underlying5 (hval 0 5 v0 rfl rfl) h0
  obtain ⟨a1, rfl, rfl, rfl, w1⟩ := open_int Try.underlying5 (hval 1 5 v1 rfl rfl) h1
  obtain ⟨a2, len2, cap2, rfl⟩ := okWide_slice Try.underlying22 (hval 2 22 v2 rfl rfl)
  have k2 := h2
  have lt2 : ∀ x ∈ p2, x.block < W.heap.size := by obtain ⟨m, hm⟩ := k2; exact DataW.trod_lt m _ _ _ hm
  obtain ⟨z2, w2⟩ : ∃ zs, IsRow .u8 W a2 len2 cap2 zs := by
    obtain ⟨fuel, hf⟩ := h2
    rcases open_ints Try.underlying22 Try.underlying5 (by kernel_rfl) hf with ⟨hcs, _⟩ | ⟨x, l, c, zs, hcs, _, hl, hm, hz, _, hcell, hwz⟩
    · simp [Value.cells] at hcs
      obtain ⟨rfl, rfl, rfl⟩ := hcs
      exact ⟨[], .inl ⟨rfl, rfl, rfl, rfl⟩⟩
    · simp [Value.cells] at hcs
      obtain ⟨rfl, rfl, rfl⟩ := hcs
      exact ⟨zs, .inr ⟨_, rfl, hl, hm, by simpa using hz, hcell, hwz⟩⟩
  obtain ⟨a3, len3, cap3, rfl⟩ := okWide_slice Try.underlying22 (hval 3 22 v3 rfl rfl)
  have k3 := h3
  have lt3 : ∀ x ∈ p3, x.block < W.heap.size := by obtain ⟨m, hm⟩ := k3; exact DataW.trod_lt m _ _ _ hm
  obtain ⟨z3, w3⟩ : ∃ zs, IsRow .u8 W a3 len3 cap3 zs := by
    obtain ⟨fuel, hf⟩ := h3
    rcases open_ints Try.underlying22 Try.underlying5 (by kernel_rfl) hf with ⟨hcs, _⟩ | ⟨x, l, c, zs, hcs, _, hl, hm, hz, _, hcell, hwz⟩
    · simp [Value.cells] at hcs
      obtain ⟨rfl, rfl, rfl⟩ := hcs
      exact ⟨[], .inl ⟨rfl, rfl, rfl, rfl⟩⟩
    · simp [Value.cells] at hcs
      obtain ⟨rfl, rfl, rfl⟩ := hcs
      exact ⟨zs, .inr ⟨_, rfl, hl, hm, by simpa using hz, hcell, hwz⟩⟩
  clear hA0 hval0
  refine (walk a0 a1 a2 len2 cap2 z2 a3 len3 cap3 z3 W w0 w1 w2 w3).mono fun e W' ⟨he, bel⟩ => ?_
  subst he
  exact ⟨_, rfl, _, _, _, [], _, [], hW', trodAll_mk1 (shut_bool Try.underlying4 _), (trodAll_cons_mk (shut_int Try.underlying5 w0) (trodAll_cons_mk (shut_int Try.underlying5 w1) (trodAll_cons_mk (Below.trod laidOut (by kernel_rfl) (of_decide_eq_true (by kernel_rfl)) k2 bel lt2) (trodAll_cons_mk (Below.trod laidOut (by kernel_rfl) (of_decide_eq_true (by kernel_rfl)) k3 bel lt3) trodAll_mk0)))), rfl, bel.frame _, fun h => by cases h⟩

theorem over : Rows.frameBackRow.holds Try.pinned (OpenSpec.ofChange Rows.frameBackSpec) :=
  OpenClaim.holds_of_wide 5 Try.f5 rfl rfl rfl rfl rfl rfl rfl ⟨rfl, rfl, rfl, rfl, rfl⟩ rfl rfl rfl rfl rfl (by kernel_rfl) Try.func5 (by kernel_rfl)
    (of_decide_eq_true (by kernel_rfl)) (by unfold Func.isWrapper; first | (rw [if_pos (by decide +kernel)]; kernel_rfl) | (rw [if_neg (by decide +kernel)]; exact ⟨rfl, rfl⟩))
    (fun os started H enc _ => lifted os started H enc)

theorem proved : Rows.FrameBackSaid := over
end Go.Proofs.Ytabonnhmmbigmaa.frameBack
