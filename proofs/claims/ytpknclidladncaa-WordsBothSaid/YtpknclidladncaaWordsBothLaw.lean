/- For every number x, every n and every row of bytes the law WordsBoth of citadellaw01 returns true: a number less than 256 to the n-th is the number of its row, and a row of 1 to 8 bytes is the row of its number. Conditions: none beyond those that the statement itself prints. -/
import Derived.Test.YtpknclidladncaaRows
import Derived.Test.YtpknclidladncaaAwake
import Derived.WalkKit
import Derived.ProofKit
import Derived.OpenShut
import Derived.ShutString
import Derived.ChangeOld
import Derived.Below
namespace Go.Proofs.Ytpknclidladncaa.wordsBoth
open Go.ChangeShapes Go.WideShapes Go.ChangeAt Go.RowKit
open Go.ChangeMaps (open_string shut_string)
set_option linter.unusedVariables false

theorem own : ownKnob Try.prog.godebug = none := by kernel_rfl
theorem laidOut : laidOutB Try.prog = true := by kernel_rfl

set_option maxRecDepth 100000 in
set_option maxHeartbeats 2000000 in
theorem walk (a0 : Int) (a1 : Int) (a2 : Option Addr) (len2 cap2 : Nat) (z2 : List Int) (w : World) (w0 : (Lit.int .u64 a0).wf = true) (w1 : (Lit.int .i64 a1).wf = true) (w2 : IsRow .u8 w a2 len2 cap2 z2) :
    Calls Try.prog 6 #[.int .u64 a0, .int .i64 a1, .slice a2 len2 cap2] w fun e w' => e = .returned (.bool true) ∧ Below w.heap.size w w' := by
  obtain ⟨x, rfl, hx⟩ := wf_u64 w0
  obtain ⟨hn1, hn2⟩ := wf_i64 w1
  obtain ⟨r2, hcap, hcap2⟩ := w2.rd
  generalize bytesIn (z2.take len2) = bs at r2
  clear w0 w1 w2
  have R0 := Lib.hid r2
  clear r2
  by_cases hout : a1 < 1 ∨ 8 < a1 ∨ 8 < len2
  · go_enter Try.func6, Try.ntmps6
    go_wp2_with fail
    refine (awake w).mono ?_
    rintro e w1 ⟨rfl, hbel1⟩
    have B1 := Lib.hid hbel1
    clear hbel1
    by_cases h1 : a1 < 1
    · go_wp2_with fail
      go_ret
      exact ⟨rfl, B1.out⟩
    · by_cases h2 : 8 < a1
      · go_wp2_with fail
        go_ret
        exact ⟨rfl, B1.out⟩
      · have h3 : 8 < len2 := by omega
        go_wp2_with fail
        go_ret
        exact ⟨rfl, B1.out⟩
  · obtain ⟨n, rfl⟩ := Int.eq_ofNat_of_zero_le (show 0 ≤ a1 by omega)
    have hn1' : 1 ≤ n := by omega
    have hn8 : n ≤ 8 := by omega
    have hlen : len2 ≤ 8 := by omega
    clear hout hn1 hn2
    by_cases h8 : n < 8
    · obtain ⟨m, hwr, hm1, HM⟩ : ∃ m : Nat, IntKind.u64.wrap ((2 : Int) ^ (8 * n)) = (m : Int) ∧ (1 : Int) ≤ (m : Int) ∧ Hid (m = 256 ^ n) := wrap_pow h8
      go_enter Try.func6, Try.ntmps6
      go_wp2_with fail
      refine (awake w).mono ?_
      rintro e w1 ⟨rfl, hbel1⟩
      have B1 := Lib.hid hbel1
      have R1 := Lib.hid (R0.out.to hbel1)
      clear hbel1
      have hm : (0 : Int) ≤ 8 * (n : Int) := by omega
      have hm2 : 8 * (n : Int) < 64 := by omega
      go_wp2_with fail
      rw [← Int.natCast_emod]
      have hy : x % m < 256 ^ n := by rw [← HM.out]; exact Nat.mod_lt _ (by omega)
      generalize x % m = y at *
      clear hwr hm1 HM
      have hpw := pow_le8 (n := n) (by omega)
      refine (wRow y n w1 (by omega) (by omega) (by omega)).mono ?_
      rintro e w2 ⟨A2, n2, c2, rfl, hown2, hbel2⟩
      obtain rfl : n2 = n := by have := (Rd.of_own hown2).1; rw [enc_len] at this; exact this.symm
      have X2 := Lib.hid (Rd.of_own hown2)
      have R2 := Lib.hid (R1.out.to hbel2)
      have B2 := Lib.hid (B1.out.trans (hbel2.mono B1.out.size))
      have HN := Lib.hid (numOf_enc (by omega) (by omega) hy)
      clear hown2 hbel2 hpw
      go_wp2_with fail
      refine (wNumber A2 n2 c2 _ (enc y n2) w2 X2.out (by omega)).mono ?_
      rintro e w' ⟨rfl, rfl⟩
      rw [HN.out.1, HN.out.2]
      go_wp2_with fail
      refine (wNumber a2 len2 cap2 _ bs w2 R2.out (by omega)).mono ?_
      rintro e w' ⟨rfl, rfl⟩
      by_cases hl0 : len2 = 0
      · subst hl0
        rw [show numOk bs = false from by simp [numOk, R2.out.1]]
        go_wp2_with fail
        go_ret
        exact ⟨rfl, B2.out⟩
      · have hl1 : (0 : Int) < (len2 : Int) := by omega
        have hl3 : 0 < len2 := by omega
        have hl2 : decide ((0 : Int) < (len2 : Int)) = true := decide_eq_true hl1
        have hnum : numOf bs < 18446744073709551616 ∧ numOk bs = true ∧ enc (numOf bs) len2 = bs := numOf_back R2.out.1 (by omega) (by omega)
        rw [hnum.2.1]
        have HB := Lib.hid hnum.2.2
        have hz := hnum.1
        clear hnum
        generalize numOf bs = z at *
        go_wp2_with fail
        refine (wRow z len2 w2 hz (by omega) (by omega)).mono ?_
        rintro e w3 ⟨A3, n3, c3, rfl, hown3, hbel3⟩
        rw [HB.out] at hown3
        have X3 := Lib.hid (Rd.of_own hown3)
        have R3 := Lib.hid (R2.out.to hbel3)
        have B3 := Lib.hid (B2.out.trans (hbel3.mono B2.out.size))
        clear hown3 hbel3
        go_wp2_with fail
        have S := wSame A3 a2 n3 len2 c3 cap2 _ bs bs w3 X3.out R3.out
        rw [show decide (bs = bs) = true from by simp] at S
        refine S.mono ?_
        clear S
        rintro e w' ⟨rfl, rfl⟩
        go_wp2_with fail
        go_ret
        exact ⟨rfl, B3.out⟩
    · obtain rfl : n = 8 := by omega
      go_enter Try.func6, Try.ntmps6
      go_wp2_with fail
      refine (awake w).mono ?_
      rintro e w1 ⟨rfl, hbel1⟩
      have B1 := Lib.hid hbel1
      have R1 := Lib.hid (R0.out.to hbel1)
      clear hbel1
      go_wp2_with fail
      have hy : x < 256 ^ 8 := by rw [show 256 ^ 8 = 18446744073709551616 from by decide]; exact hx
      obtain ⟨y, rfl⟩ : ∃ y, y = x := ⟨_, rfl⟩
      refine (wRow y 8 w1 hx (by omega) (by omega)).mono ?_
      rintro e w2 ⟨A2, n2, c2, rfl, hown2, hbel2⟩
      obtain rfl : n2 = 8 := by have := (Rd.of_own hown2).1; rw [enc_len] at this; exact this.symm
      have X2 := Lib.hid (Rd.of_own hown2)
      have R2 := Lib.hid (R1.out.to hbel2)
      have B2 := Lib.hid (B1.out.trans (hbel2.mono B1.out.size))
      have HN := Lib.hid (numOf_enc (n := 8) (by omega) (by omega) hy)
      clear hown2 hbel2
      go_wp2_with fail
      refine (wNumber A2 8 c2 _ (enc y 8) w2 X2.out (by omega)).mono ?_
      rintro e w' ⟨rfl, rfl⟩
      rw [HN.out.1, HN.out.2]
      go_wp2_with fail
      refine (wNumber a2 len2 cap2 _ bs w2 R2.out (by omega)).mono ?_
      rintro e w' ⟨rfl, rfl⟩
      by_cases hl0 : len2 = 0
      · subst hl0
        rw [show numOk bs = false from by simp [numOk, R2.out.1]]
        go_wp2_with fail
        go_ret
        exact ⟨rfl, B2.out⟩
      · have hl1 : (0 : Int) < (len2 : Int) := by omega
        have hl3 : 0 < len2 := by omega
        have hl2 : decide ((0 : Int) < (len2 : Int)) = true := decide_eq_true hl1
        have hnum : numOf bs < 18446744073709551616 ∧ numOk bs = true ∧ enc (numOf bs) len2 = bs := numOf_back R2.out.1 (by omega) (by omega)
        rw [hnum.2.1]
        have HB := Lib.hid hnum.2.2
        have hz := hnum.1
        clear hnum
        generalize numOf bs = z at *
        go_wp2_with fail
        refine (wRow z len2 w2 hz (by omega) (by omega)).mono ?_
        rintro e w3 ⟨A3, n3, c3, rfl, hown3, hbel3⟩
        rw [HB.out] at hown3
        have X3 := Lib.hid (Rd.of_own hown3)
        have R3 := Lib.hid (R2.out.to hbel3)
        have B3 := Lib.hid (B2.out.trans (hbel3.mono B2.out.size))
        clear hown3 hbel3
        go_wp2_with fail
        have S := wSame A3 a2 n3 len2 c3 cap2 _ bs bs w3 X3.out R3.out
        rw [show decide (bs = bs) = true from by simp] at S
        refine S.mono ?_
        clear S
        rintro e w' ⟨rfl, rfl⟩
        go_wp2_with fail
        go_ret
        exact ⟨rfl, B3.out⟩

set_option maxRecDepth 100000 in
theorem lifted (os : Os) (started : os.Started) (H : Type) (enc : TypeId × Value → H) :
    ReturnsInHanded {} Try.checked os 6 .any (Rows.wordsBothSpec.pre6 enc Try.prog Try.f6 Rows.wordsBothRow.domain false) (Rows.wordsBothSpec.post enc Try.prog Try.f6 false true false false) := by
  refine returnsInHanded_of_change (C := Try.checked) own started (by kernel_rfl) Try.func6
    (ChangeSpec.witness6 (enc := enc) (C := Try.checked) false ⟨#[], #[.int .u64 0, .int .i64 0, .slice none 0 0], []⟩ 8 (by kernel_rfl) (by kernel_rfl) (by kernel_rfl) (by kernel_rfl)) ?_
  intro W base args ds gs before hval0 hW hcnd _
  have hval : ∀ (j : Nat) t v, Try.f6.params[j]? = some t → args[j]? = some v → Value.okWide Try.prog W .any base t v := hval0
  have hW' := hW
  obtain ⟨p, q, hA0, hV, rfl, hfz, hnd⟩ := hW
  have hA : DataW.TrodAll enc Try.prog W 0 (fun _ => true) true Try.f6.params.toList args.toList ds p := hA0
  rw [Try.params6] at hA hval
  obtain ⟨v0, vs0, d0, ds0, p0, q0, hargs, rfl, rfl, h0, r0⟩ := trodAll_cons hA
  obtain ⟨v1, vs1, d1, ds1, p1, q1, rfl, rfl, rfl, h1, r1⟩ := trodAll_cons r0
  obtain ⟨v2, vs2, d2, ds2, p2, q2, rfl, rfl, rfl, h2, r2⟩ := trodAll_cons r1
  obtain ⟨rfl, rfl, rfl⟩ := trodAll_nil r2
  obtain rfl : args = #[v0, v1, v2] := by cases args; simp_all
  obtain ⟨rfl, rfl⟩ := trodVars_none hV
  obtain ⟨a0, rfl, rfl, rfl, w0⟩ := open_int Try.underlying22 (hval 0 22 v0 rfl rfl) h0
  obtain ⟨a1, rfl, rfl, rfl, w1⟩ := open_int Try.underlying3 (hval 1 3 v1 rfl rfl) h1
  obtain ⟨a2, len2, cap2, rfl⟩ := okWide_slice Try.underlying23 (hval 2 23 v2 rfl rfl)
  have k2 := h2
  have lt2 : ∀ x ∈ p2, x.block < W.heap.size := by obtain ⟨m, hm⟩ := k2; exact DataW.trod_lt m _ _ _ hm
  obtain ⟨z2, w2⟩ : ∃ zs, IsRow .u8 W a2 len2 cap2 zs := by
    obtain ⟨fuel, hf⟩ := h2
    rcases open_ints Try.underlying23 Try.underlying5 (by kernel_rfl) hf with ⟨hcs, _⟩ | ⟨x, l, c, zs, hcs, _, hl, hm, hz, _, hcell, hwz⟩
    · simp [Value.cells] at hcs
      obtain ⟨rfl, rfl, rfl⟩ := hcs
      exact ⟨[], .inl ⟨rfl, rfl, rfl, rfl⟩⟩
    · simp [Value.cells] at hcs
      obtain ⟨rfl, rfl, rfl⟩ := hcs
      exact ⟨zs, .inr ⟨_, rfl, hl, hm, by simpa using hz, hcell, hwz⟩⟩
  clear hA0 hval0
  refine (walk a0 a1 a2 len2 cap2 z2 W w0 w1 w2).mono fun e W' ⟨he, bel⟩ => ?_
  subst he
  exact ⟨_, rfl, _, _, _, [], _, [], hW', trodAll_mk1 (shut_bool Try.underlying4 _), (trodAll_cons_mk (shut_int Try.underlying22 w0) (trodAll_cons_mk (shut_int Try.underlying3 w1) (trodAll_cons_mk (Below.trod laidOut (by kernel_rfl) (of_decide_eq_true (by kernel_rfl)) k2 bel lt2) trodAll_mk0))), rfl, bel.frame _, fun h => by cases h⟩

theorem over : Rows.wordsBothRow.holds Try.pinned (OpenSpec.ofChange Rows.wordsBothSpec) :=
  OpenClaim.holds_of_wide 6 Try.f6 rfl rfl rfl rfl rfl rfl rfl ⟨rfl, rfl, rfl, rfl, rfl⟩ rfl rfl rfl rfl rfl (by kernel_rfl) Try.func6 (by kernel_rfl)
    (of_decide_eq_true (by kernel_rfl)) (by unfold Func.isWrapper; first | (rw [if_pos (by decide +kernel)]; kernel_rfl) | (rw [if_neg (by decide +kernel)]; exact ⟨rfl, rfl⟩))
    (fun os started H enc _ => lifted os started H enc)


theorem proved : Rows.WordsBothSaid := over
end Go.Proofs.Ytpknclidladncaa.wordsBoth
