/- For any two numbers the law ShaTails of citadellaw03 returns true: bytes and their tail are whole blocks, and two numbers have unlike tails. Conditions: none beyond those that the statement itself prints. -/
import Derived.Test.YtbgcnhhdgnalgaaDoorRows
import Derived.Test.YtbgcnhhdgnalgaaDoorTie
import Derived.Test.YtbgcnhhdgnalgaaDoorCards
import Derived.Test.YtbgcnhhdgnalgaaDoorShaLaid
import Derived.Test.YtbgcnhhdgnalgaaDoorShaAwake
import Derived.WalkKit
import Derived.ProofKit
import Derived.OpenShut
import Derived.ShutString
import Derived.ChangeOld
import Derived.Below
namespace Go.Proofs.YtbgcnhhdgnalgaaDoor.shaTails
open Go.ChangeShapes Go.WideShapes Go.ChangeAt Go.RowKit
open Go.ChangeMaps (open_string shut_string)
set_option linter.unusedVariables false
set_option linter.unusedSimpArgs false

theorem own : ownKnob Tryd.prog.godebug = none := by kernel_rfl
theorem laidOut : laidOutB Tryd.prog = true := by kernel_rfl

theorem tail_drop (n : Nat) : (tailL n).drop (zerosOf n + 1) = enc (8 * n) 8 := by
  unfold tailL
  exact List.drop_left' (by simp)
theorem tail_inj {n m : Nat} (hn : n ≤ 100000) (hm : m ≤ 100000) (h : tailL n = tailL m) : n = m := by
  have hl : zerosOf n = zerosOf m := by
    have := congrArg List.length h
    rw [tailL_len, tailL_len] at this
    omega
  have h1 := tail_drop n
  rw [h, hl, tail_drop m] at h1
  have h2 := congrArg num h1
  rw [num_enc, num_enc, show (256 : Nat) ^ 8 = 18446744073709551616 from rfl] at h2
  omega
theorem tail_load {n : Nat} (hn : n ≤ 100000) : loadOf (tailL n) ((zerosOf n + 1 : Nat) : Int) 8 = 8 * n ∧ loadOk (tailL n) ((zerosOf n + 1 : Nat) : Int) 8 = true := by
  have hl := tailL_len n
  obtain ⟨h1, h2, _⟩ := loadOf_yes (bs := tailL n) (p := zerosOf n + 1) (k := 8) (by omega) (by decide) (by decide)
  refine ⟨?_, h2⟩
  rw [h1, List.take_of_length_le (by omega), tail_drop]
  unfold numOf
  rw [if_neg (by rw [enc_len]; decide), num_enc, show (256 : Nat) ^ 8 = 18446744073709551616 from rfl]
  omega
theorem tail_zero {n i : Nat} (h1 : 1 ≤ i) (h2 : i < zerosOf n + 1) : nth (tailL n) i = 0 := by
  obtain ⟨j, rfl⟩ : ∃ j, i = j + 1 := ⟨i - 1, by omega⟩
  unfold nth tailL
  simp only [List.getD, List.cons_append, List.getElem?_cons_succ]
  rw [List.getElem?_append_left (by simp; omega), List.getElem?_replicate, if_pos (by omega)]
  rfl
def TlRel (z : Nat) (i : Value) : Prop := ∃ k : Nat, 1 ≤ k ∧ k ≤ z + 1 ∧ i = .int .i64 (k : Int)
set_option maxRecDepth 100000 in
set_option maxHeartbeats 4000000 in
theorem walk (a0 : Int) (a1 : Int) (w : World) (hpr : Pr w) (w0 : (Lit.int .i64 a0).wf = true) (w1 : (Lit.int .i64 a1).wf = true) :
    Calls Tryd.prog 6 #[.int .i64 a0, .int .i64 a1] w fun e w' => e = .returned (.bool true) ∧ Below w.heap.size w w' := by
  obtain ⟨hn1, hn2⟩ := wf_i64 w0
  obtain ⟨hm1, hm2⟩ := wf_i64 w1
  clear w0 w1
  go_enter Tryd.func6, Tryd.ntmps6
  go_wp2_with fail
  refine (awake w hpr).mono ?_
  rintro e w2 ⟨rfl, hb⟩
  have B := Lib.hid hb
  clear hb
  by_cases h1 : a0 < 0
  · go_wp2_with fail
    go_ret
    exact ⟨rfl, B.out⟩
  by_cases h2 : 100000 < a0
  · go_wp2_with fail
    go_ret
    exact ⟨rfl, B.out⟩
  by_cases h3 : a1 < 0
  · go_wp2_with fail
    go_ret
    exact ⟨rfl, B.out⟩
  by_cases h4 : 100000 < a1
  · go_wp2_with fail
    go_ret
    exact ⟨rfl, B.out⟩
  obtain ⟨n, rfl⟩ : ∃ n : Nat, a0 = (n : Int) := ⟨a0.toNat, by omega⟩
  obtain ⟨m, rfl⟩ : ∃ m : Nat, a1 = (m : Int) := ⟨a1.toNat, by omega⟩
  have hn : n ≤ 100000 := by omega
  have hm : m ≤ 100000 := by omega
  clear hn1 hn2 hm1 hm2 h1 h2 h3 h4 hpr
  have HN := Lib.hid hn
  have HM := Lib.hid hm
  have g1 : ¬ ((n : Int) < 0) := by omega
  have g2 : ¬ (100000 < (n : Int)) := by omega
  have g3 : ¬ ((m : Int) < 0) := by omega
  have g4 : ¬ (100000 < (m : Int)) := by omega
  clear hn hm
  go_wp2_with fail
  refine (wTail n w2 (by have := HN.out; omega)).mono ?_
  rintro e w3 ⟨A1, n1, c1, rfl, hown1, hb⟩
  have RA := Lib.hid (Rd.of_own hown1)
  have HC1 := Lib.hid (own_cap hown1)
  clear hown1
  replace B := Lib.hid (B.out.trans (hb.mono B.out.size))
  clear hb
  go_wp2_with fail
  refine (wTail m w3 (by have := HM.out; omega)).mono ?_
  rintro e w4 ⟨A2, n2, c2, rfl, hown2, hb⟩
  have RB := Lib.hid (Rd.of_own hown2)
  have HC2 := Lib.hid (own_cap hown2)
  clear hown2
  replace RA := Lib.hid (RA.out.to hb)
  replace B := Lib.hid (B.out.trans (hb.mono B.out.size))
  clear hb
  obtain ⟨z, hz⟩ : ∃ z, zerosOf n = z := ⟨_, rfl⟩
  have hn1 : n1 = z + 9 := by rw [← RA.out.1, tailL_len, hz]
  have hzv : z = (64 - (n + 9) % 64) % 64 := hz.symm
  obtain ⟨b, o, rfl, hbo, hc⟩ := RA.out.2 (by omega)
  have f0 : w4.cell? ⟨b, o, none⟩ = some (.int .u8 128) := by have h := hc 0 (by omega); rw [Nat.add_zero] at h; exact h
  have HCZ : Hid (∀ j, 1 ≤ j → j < z + 1 → w4.cell? ⟨b, o + j, none⟩ = some (.int .u8 0)) := fun j hj1 hj2 => by
    have h := hc j (by omega)
    rw [tail_zero hj1 (by rw [hz]; exact hj2)] at h
    exact h
  obtain ⟨hl1, hl2⟩ := tail_load HN.out
  rw [hz] at hl1 hl2
  rw [show ((z + 1 : Nat) : Int) = (z : Int) + 1 from by omega] at hl1 hl2
  have HL1 := Lib.hid hl1
  have HL2 := Lib.hid hl2
  obtain ⟨m8, hm8⟩ : ∃ m, m = 8 * n := ⟨_, rfl⟩
  have HM8 : Hid (((8 * n : Nat) : Int) = (m8 : Int)) := by show _ = _; omega
  have e6 : 8 * (n : Int) = (m8 : Int) := by omega
  have e7 : (n : Int) % 18446744073709551616 = (n : Int) := by have := HN.out; omega
  have e8 : (m8 : Int) % 18446744073709551616 = (m8 : Int) := by have := HN.out; omega
  clear hm8
  obtain ⟨q0, hq0⟩ : ∃ q, q = n / 64 := ⟨_, rfl⟩
  obtain ⟨q1, hq1⟩ : ∃ q, q = (n + n1) / 64 := ⟨_, rfl⟩
  obtain ⟨bl, hbl⟩ : ∃ k, k = q1 - q0 := ⟨_, rfl⟩
  have e1 : ((n : Int) + (n1 : Int)) / 64 = (q1 : Int) := by omega
  have e2 : (n : Int) / 64 = (q0 : Int) := by omega
  have e3 : (q1 : Int) - (q0 : Int) = (bl : Int) := by omega
  have e4 : ((n : Int) + (n1 : Int)) % 64 = 0 := by omega
  have b1 : ¬ ((bl : Int) < 1) := by omega
  have b2 : ¬ (2 < (bl : Int)) := by omega
  have b3 : ¬ ((n1 : Int) < 9) := by omega
  have b4 : ¬ (72 < (n1 : Int)) := by omega
  have e5 : (n1 : Int) - 8 = ((z + 1 : Nat) : Int) := by omega
  have HN1 := Lib.hid hn1
  have HZ64 : Hid (z < 64) := by show _ < _; omega
  have hp0 : 0 < n1 := by omega
  clear hc hl1 hl2 hq0 hq1 hbl hz hzv hbo hn1
  go_wp2_with fail
  refine (wLoad64 (some ⟨b, o, none⟩) n1 c1 _ ((z : Int) + 1) (tailL n) w4 RA.out HC1.out.1 HC1.out.2 (by omega) (by have := HZ64.out; omega)).mono ?_
  rintro e w5 ⟨rfl, rfl⟩
  rw [HL1.out, HL2.out, HM8.out]
  go_wp2_with fail
  go_loop [10] (fun i => TlRel z i) (fun i => z + 1 - (intOf i).toNat)
  case atStart => exact ⟨1, Nat.le_refl _, by omega, rfl⟩
  case round =>
    obtain ⟨k, hk1, hk2, rfl⟩ := hrel
    have HK1 := Lib.hid hk1
    clear hk1
    by_cases hk : k < z + 1
    · have f1 := HCZ.out k HK1.out hk
      have hkn : k < n1 := by have := HN1.out; omega
      go_wp2_with fail
      go_round
      case rel => exact ⟨k + 1, by omega, by omega, by go_num⟩
      case measure => simp [intOf]; omega
    · obtain rfl : k = z + 1 := by omega
      have HSM : Hid (decide (tailL n = tailL m) = decide (n = m)) := by
        show _ = _
        rw [Bool.eq_iff_iff, decide_eq_true_eq, decide_eq_true_eq]
        exact ⟨tail_inj HN.out HM.out, fun h => by rw [h]⟩
      go_wp2_with fail
      refine (wSame (some ⟨b, o, none⟩) A2 n1 n2 c1 c2 _ (tailL n) (tailL m) w4 RA.out RB.out).mono ?_
      rintro e w6 ⟨rfl, rfl⟩
      rw [HSM.out]
      by_cases hnm : n = m
      · have d1 : decide (n = m) = true := decide_eq_true hnm
        have d2 : ((n : Int) == (m : Int)) = true := by simp [hnm]
        have d3 : decide ((n : Int) = (m : Int)) = true := decide_eq_true (by omega)
        rw [d1]
        go_wp2_with fail
        go_ret
        exact ⟨rfl, B.out⟩
      · have d1 : decide (n = m) = false := decide_eq_false hnm
        have d2 : ((n : Int) == (m : Int)) = false := by simp; omega
        have d3 : decide ((n : Int) = (m : Int)) = false := decide_eq_false (by omega)
        rw [d1]
        go_wp2_with fail
        go_ret
        exact ⟨rfl, B.out⟩

set_option maxRecDepth 100000 in
theorem lifted (os : Os) (started : os.Started) (H : Type) (enc : TypeId × Value → H) :
    ReturnsInHanded {} Tryd.checked os 6 .any (fun w args => (Rows.shaTailsSpec.pre enc Tryd.prog Tryd.f6 Rows.shaTailsRow.domain false w args ∧ laidMetH Tryd.prog Rows.shaTailsRow.laid w) ∧ sizedMet enc Tryd.prog Tryd.f6 (OpenSpec.ofChange Rows.shaTailsSpec) false w args)
      (Rows.shaTailsSpec.post enc Tryd.prog Tryd.f6 false true false false) := by
  refine returnsInHanded_of_change_and (C := Tryd.checked) (X := fun w _ => laidMetH Tryd.prog Rows.shaTailsRow.laid w) (fun _ _ _ hh h => h.of_heap hh) own started (by kernel_rfl) Tryd.func6
    (ChangeSpec.witness_shaped (enc := enc) (C := Tryd.checked) (os := os) (X := fun w _ => laidMetH Tryd.prog Rows.shaTailsRow.laid w) false (World.doorLaid Tryd.prog 400 os) #[.int .i64 0, .int .i64 0] 8 rfl (World.shaped_of_RefB (by kernel_rfl) (by kernel_rfl)) (by kernel_rfl) (by kernel_rfl) (by kernel_rfl) (door_met os _)) ?_
  intro W base args ds gs before hval0 hW hcnd hsz0 hL _
  have hval : ∀ (j : Nat) t v, Tryd.f6.params[j]? = some t → args[j]? = some v → Value.okWide Tryd.prog W .any base t v := hval0
  have hW' := hW
  obtain ⟨p, q, hA0, hV, rfl, hfz, hnd⟩ := hW
  have hA : DataW.TrodAll enc Tryd.prog W 0 (fun _ => true) true Tryd.f6.params.toList args.toList ds p := hA0
  rw [Tryd.params6] at hA hval
  obtain ⟨v0, vs0, d0, ds0, p0, q0, hargs, rfl, rfl, h0, r0⟩ := trodAll_cons hA
  obtain ⟨v1, vs1, d1, ds1, p1, q1, rfl, rfl, rfl, h1, r1⟩ := trodAll_cons r0
  obtain ⟨rfl, rfl, rfl⟩ := trodAll_nil r1
  obtain rfl : args = #[v0, v1] := by cases args; simp_all
  obtain ⟨rfl, rfl⟩ := trodVars_none hV
  obtain ⟨a0, rfl, rfl, rfl, w0⟩ := open_int Tryd.underlying3 (hval 0 3 v0 rfl rfl) h0
  obtain ⟨a1, rfl, rfl, rfl, w1⟩ := open_int Tryd.underlying3 (hval 1 3 v1 rfl rfl) h1
  clear hA0 hval0
  refine (walk a0 a1 W (pr_of_laid hL) w0 w1).mono fun e W' ⟨he, bel⟩ => ?_
  subst he
  exact ⟨_, rfl, _, _, _, [], _, [], hW', trodAll_mk1 (shut_bool Tryd.underlying4 _), (trodAll_cons_mk (shut_int Tryd.underlying3 w0) (trodAll_cons_mk (shut_int Tryd.underlying3 w1) trodAll_mk0)), rfl, bel.frame _, fun h => by cases h⟩

theorem over : Rows.shaTailsRow.holds Tryd.pinned (OpenSpec.ofChange Rows.shaTailsSpec) :=
  OpenClaim.holds_of_wide 6 Tryd.f6 rfl rfl rfl rfl rfl rfl rfl ⟨rfl, rfl, rfl, rfl, rfl⟩ rfl rfl rfl rfl rfl (by kernel_rfl) Tryd.func6 (by kernel_rfl)
    (of_decide_eq_true (by kernel_rfl)) (by unfold Func.isWrapper; first | (rw [if_pos (by decide +kernel)]; kernel_rfl) | (rw [if_neg (by decide +kernel)]; exact ⟨rfl, rfl⟩))
    (fun os started H enc _ => lifted os started H enc)

theorem wants : ∀ (j : Nat) t, Tryd.f6.params[j]? = some t → Tryd.prog.wantsStandIn t = false := by
  intro j t ht
  rw [Tryd.params6] at ht
  rcases j with _ | j
  · obtain rfl : 3 = t := by simpa using ht
    kernel_rfl
  rcases j with _ | j
  · obtain rfl : 3 = t := by simpa using ht
    kernel_rfl
  simp at ht
theorem proved : Rows.ShaTailsCardSaid :=
  Claim7.holds_tied_plain_at .later [] [.data] true Rows.shaTailsCard.stood.harness Rows.shaTailsCard.stood.looks over (fun _ h => by cases h) (by kernel_rfl) (fun _ h => by cases h) shaTails_row_tie rfl ⟨rfl, rfl⟩ (by kernel_rfl) rfl
    (fun f fn hf hfn => by
      obtain rfl : f = 6 := Option.some.inj ((show Tryd.prog.funcNamed "citadel/citadellaw03.ShaTails" = some 6 by kernel_rfl).symm.trans hf) |>.symm
      obtain rfl : fn = Tryd.f6 := (Option.some.inj (Tryd.func6.symm.trans hfn)).symm
      exact ⟨by kernel_rfl, wants⟩)
    (by kernel_rfl)
end Go.Proofs.YtbgcnhhdgnalgaaDoor.shaTails
