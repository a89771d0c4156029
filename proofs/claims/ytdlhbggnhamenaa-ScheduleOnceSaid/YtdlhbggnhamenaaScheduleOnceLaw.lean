/- For any windows the law ScheduleOnce of citadellaw09 returns true: each tick of the frame is one partition's, or nobody's, At and Whole agree on whose, and all partitions' ticks, with nobody's, are the frame (windows, at most 40). Conditions: none beyond those that the statement itself prints. -/
import Derived.Test.YtdlhbggnhamenaaRows
import Derived.Test.YtdlhbggnhamenaaSchE
import Derived.Test.YtdlhbggnhamenaaWin
import Derived.WalkKit
import Derived.ProofKit
import Derived.OpenShut
import Derived.ShutString
import Derived.ChangeOld
import Derived.Below
namespace Go.Proofs.Ytdlhbggnhamenaa.scheduleOnce
open Go.ChangeShapes Go.WideShapes Go.ChangeAt Go.RowKit
open Go.ChangeMaps (open_string shut_string)
set_option linter.unusedVariables false
set_option linter.unusedSimpArgs false

theorem own : ownKnob Try.prog.godebug = none := by kernel_rfl
theorem laidOut : laidOutB Try.prog = true := by kernel_rfl


set_option maxRecDepth 1000000 in
set_option maxHeartbeats 4000000 in
theorem walk (a0 : Option Addr) (len0 cap0 : Nat) (l0 : List Reg) (w : World) (w0 : RdG w w.heap.size a0 len0 l0 ∧ len0 ≤ cap0 ∧ cap0 ≤ 9223372036854775807) :
    Calls Try.prog 5 #[.slice a0 len0 cap0] w fun e w' => e = .returned (.bool true) ∧ Below w.heap.size w w' := by
  obtain ⟨r0, hcap, hcap'⟩ := w0
  have R := Lib.hid r0
  have HC : Hid (len0 ≤ 9223372036854775807) := Nat.le_trans hcap hcap'
  clear r0 hcap hcap'
  have B := Lib.hid (Below.refl w.heap.size w)
  by_cases h40 : 40 < len0
  · have h40I : (len0 : Int) > 40 := by omega
    clear h40
    go_enter Try.func5, Try.ntmps5
    go_wp2_with fail
    refine (awake _).mono ?_
    rintro e w5 ⟨rfl, hb⟩
    go_wp2_with fail
    go_ret
    exact ⟨rfl, hb⟩
  have h40I : ¬ (len0 : Int) > 40 := by omega
  clear h40
  go_enter Try.func5, Try.ntmps5
  go_wp2_with fail
  refine (Sch.whole a0 len0 cap0 l0 w R.out HC.out).mono ?_
  rintro e w1 ⟨A1, n1, c1, rfl, hown, hb⟩
  have Z1 := Lib.hid (RdZ.of_own hown)
  replace B := Lib.hid (B.out.trans (hb.mono B.out.size))
  clear hb hown
  have HF : Hid (frameW l0 = (n1 : Int)) := by (show _ = _); rw [← wholeW_len, Z1.out.1]
  have HSM : Hid (n1 ≤ 64) := by (show _ ≤ _); rw [← Z1.out.1]; exact wholeW_small l0
  have h64 : ¬ (n1 : Int) > 64 := by have := HSM.out; omega
  have HM : Hid (mayW l0 = decide ((n1 : Int) > 0)) := by
    show _ = _
    rw [Bool.eq_iff_iff, decide_eq_true_iff, ← frameW_pos, HF.out]
  go_wp2_with fail
  refine (Sch.frame a0 len0 cap0 l0 w1 ((R.out.below B.out).more B.out.size) HC.out).mono ?_
  rw [HF.out]
  rintro e w2 ⟨rfl, hb⟩
  replace Z1 := Lib.hid (Z1.out.to hb)
  replace B := Lib.hid (B.out.trans (hb.mono B.out.size))
  clear hb
  go_wp2_with fail
  refine (Sch.may a0 len0 cap0 l0 w2 ((R.out.below B.out).more B.out.size) HC.out).mono ?_
  rw [HM.out]
  rintro e w3 ⟨rfl, hb⟩
  replace Z1 := Lib.hid (Z1.out.to hb)
  replace B := Lib.hid (B.out.trans (hb.mono B.out.size))
  clear hb
  go_wp2_with fail
  go_loopw [5, 6] (fun s5 s6 wr => ∃ k : Nat, k ≤ 7 ∧ s6 = .int .i64 (k : Int) ∧ s5 = .int .i64 (sumTo l0 k) ∧ Below w3.heap.size w3 wr) (fun _ s6 _ => 7 - (intOf s6).toNat)
  case atStart => exact ⟨0, Nat.zero_le _, rfl, rfl, Below.refl _ _⟩
  case round =>
    obtain ⟨k, hk, rfl, rfl, hb⟩ := hrel
    have BT := Lib.hid hb
    clear hb
    by_cases hlt : k < 7
    · have hltI : (k : Int) ≤ 6 := by omega
      have HK : Hid (k < 7) := hlt
      have hr := sumTo_range l0 k
      have hs := ticksW_small l0 (k : Int)
      have hw : IntKind.i64.wrap (sumTo l0 k + (ticksW l0 (k : Int) : Int)) = sumTo l0 k + (ticksW l0 (k : Int) : Int) := by rw [IntKind.wrap_i64]; omega
      have hwk : IntKind.i64.wrap ((k : Int) + 1) = (k : Int) + 1 := by rw [IntKind.wrap_i64]; omega
      clear hk hlt hr hs
      go_wp2_with fail
      refine (Sch.ticks a0 len0 cap0 l0 (k : Int) wr ((((R.out.below B.out).more B.out.size).below BT.out).more BT.out.size) HC.out).mono ?_
      rintro e w4 ⟨rfl, hb⟩
      replace BT := Lib.hid (BT.out.trans (hb.mono BT.out.size))
      clear hb
      go_wp2_with fail
      go_roundw
      case rel => exact ⟨k + 1, HK.out, by go_num, rfl, BT.out⟩
      case measure => have := HK.out; simp [intOf]; omega
    · obtain rfl : k = 7 := by omega
      have hltI : ¬ ((7 : Nat) : Int) ≤ 6 := by decide
      rw [sumTo_frame l0, HF.out]
      clear hk hlt
      replace Z1 := Lib.hid (Z1.out.to BT.out)
      replace B := Lib.hid (B.out.trans (BT.out.mono B.out.size))
      clear BT
      obtain ⟨wo, rfl⟩ : ∃ wo : World, wo = wr := ⟨_, rfl⟩
      go_wp2_with fail
      go_loopw [7, 8, 9] (fun s7 _ _ wr' => ∃ k : Nat, k ≤ n1 ∧ s7 = .int .i64 (k : Int) ∧ Below wo.heap.size wo wr') (fun s7 _ _ _ => n1 - (intOf s7).toNat)
      case atStart => exact ⟨0, Nat.zero_le _, rfl, Below.refl _ _⟩
      case round =>
        obtain ⟨k, hk, rfl, hb⟩ := hrel
        have BT := Lib.hid hb
        clear hb
        by_cases hlt : k < n1
        · have HLT : Hid (k < n1) := hlt
          have hkI : (k : Int) < (n1 : Int) := by omega
          have hwk : IntKind.i64.wrap ((k : Int) + 1) = (k : Int) + 1 := by have := HSM.out; rw [IntKind.wrap_i64]; omega
          rcases at_cases l0 (k : Int) with ho | ⟨_, _, hm, i, hi, ha⟩
          · exfalso
            have := HF.out
            omega
          have HA := Lib.hid ha
          have hz : zat (wholeW l0) k = (rat l0 i).2 := whole_at hm hi
          have HZ := Lib.hid hz
          clear hk hlt hm hi ha hz
          go_wp2_with fail
          refine (Sch.stand a0 len0 cap0 l0 (k : Int) wr ((((R.out.below B.out).more B.out.size).below BT.out).more BT.out.size) HC.out).mono ?_
          rw [HA.out]
          rintro e w4 ⟨rfl, hb⟩
          replace BT := Lib.hid (BT.out.trans (hb.mono BT.out.size))
          clear hb
          unfold slotV slotW
          dsimp only
          generalize sumW (l0.take i) = x2
          generalize sumW (l0.take (i + 1)) - (k : Int) = x3
          have BW := Lib.hid (BT.out.alloc BT.out.size (.cells #[.int .i64 (i : Int), .int .i64 (rat l0 i).2, .int .i64 x2, .int .i64 x3] 24))
          obtain ⟨b1, o1, rfl, _, hc1⟩ := (Z1.out.to BW.out).2 (by have := HLT.out; omega)
          have x1 := hc1 k HLT.out
          rw [HZ.out] at x1
          have X : Hid (Blk 24 (w4.alloc (.cells #[.int .i64 (i : Int), .int .i64 (rat l0 i).2, .int .i64 x2, .int .i64 x3] 24)) w4.heap.size [(i : Int), (rat l0 i).2, x2, x3]) := Blk.new 24 w4 [(i : Int), (rat l0 i).2, x2, x3]
          have y1 := X.out.at 1 rfl
          clear hc1
          go_wp2_with fail
          go_quiet (fail)
          go_wp2_with fail
          go_roundw
          case rel => exact ⟨k + 1, HLT.out, by go_num, below_drewN BW.out _⟩
          case measure => have := HLT.out; simp [intOf]; omega
        · obtain rfl : k = n1 := by omega
          have hkI : ¬ (k : Int) < (k : Int) := by omega
          have HT1 : Hid (ticksW l0 (-1) = 0) := ticks_none (.inl (by decide))
          have HT2 : Hid (ticksW l0 7 = 0) := ticks_none (.inr (by decide))
          clear hk hlt
          go_wp2_with fail
          refine (Sch.ticks a0 len0 cap0 l0 (-1) wr ((((R.out.below B.out).more B.out.size).below BT.out).more BT.out.size) HC.out).mono ?_
          rw [HT1.out]
          rintro e w4 ⟨rfl, hb⟩
          replace BT := Lib.hid (BT.out.trans (hb.mono BT.out.size))
          clear hb
          go_wp2_with fail
          refine (Sch.ticks a0 len0 cap0 l0 7 w4 ((((R.out.below B.out).more B.out.size).below BT.out).more BT.out.size) HC.out).mono ?_
          rw [HT2.out]
          rintro e w5 ⟨rfl, hb⟩
          replace BT := Lib.hid (BT.out.trans (hb.mono BT.out.size))
          clear hb
          go_wp2_with fail
          refine (awake _).mono ?_
          rintro e w6 ⟨rfl, hb⟩
          replace BT := Lib.hid (BT.out.trans (hb.mono BT.out.size))
          go_wp2_with fail
          go_ret
          exact ⟨rfl, B.out.trans (BT.out.mono B.out.size)⟩

set_option maxRecDepth 100000 in
theorem lifted (os : Os) (started : os.Started) (H : Type) (enc : TypeId × Value → H) :
    ReturnsInHanded {} Try.checked os 5 .any (Rows.scheduleOnceSpec.pre6 enc Try.prog Try.f5 Rows.scheduleOnceRow.domain false) (Rows.scheduleOnceSpec.post enc Try.prog Try.f5 false true false false) := by
  refine returnsInHanded_of_change (C := Try.checked) own started (by kernel_rfl) Try.func5
    (ChangeSpec.witness6 (enc := enc) (C := Try.checked) false ⟨#[], #[.slice none 0 0], []⟩ 8 (by kernel_rfl) (by kernel_rfl) (by kernel_rfl) (by kernel_rfl)) ?_
  intro W base args ds gs before hval0 hW hcnd _
  have hval : ∀ (j : Nat) t v, Try.f5.params[j]? = some t → args[j]? = some v → Value.okWide Try.prog W .any base t v := hval0
  have hW' := hW
  obtain ⟨p, q, hA0, hV, rfl, hfz, hnd⟩ := hW
  have hA : DataW.TrodAll enc Try.prog W 0 (fun _ => true) true Try.f5.params.toList args.toList ds p := hA0
  rw [Try.params5] at hA hval
  obtain ⟨v0, vs0, d0, ds0, p0, q0, hargs, rfl, rfl, h0, r0⟩ := trodAll_cons hA
  obtain ⟨rfl, rfl, rfl⟩ := trodAll_nil r0
  obtain rfl : args = #[v0] := by cases args; simp_all
  obtain ⟨rfl, rfl⟩ := trodVars_none hV
  have k0 := h0
  have lt0 : ∀ x ∈ p0, x.block < W.heap.size := by obtain ⟨m, hm⟩ := k0; exact DataW.trod_lt m _ _ _ hm
  obtain ⟨a0, len0, cap0, l0, rfl, w0⟩ := open_wins (hval 0 22 v0 rfl rfl) h0
  clear hA0 hval0
  refine (walk a0 len0 cap0 l0 W w0).mono fun e W' ⟨he, bel⟩ => ?_
  subst he
  exact ⟨_, rfl, _, _, _, [], _, [], hW', trodAll_mk1 (shut_bool Try.underlying4 _), (trodAll_cons_mk (Below.trod laidOut (by kernel_rfl) (of_decide_eq_true (by kernel_rfl)) k0 bel lt0) trodAll_mk0), rfl, bel.frame _, fun h => by cases h⟩

theorem over : Rows.scheduleOnceRow.holds Try.pinned (OpenSpec.ofChange Rows.scheduleOnceSpec) :=
  OpenClaim.holds_of_wide 5 Try.f5 rfl rfl rfl rfl rfl rfl rfl ⟨rfl, rfl, rfl, rfl, rfl⟩ rfl rfl rfl rfl rfl (by kernel_rfl) Try.func5 (by kernel_rfl)
    (of_decide_eq_true (by kernel_rfl)) (by unfold Func.isWrapper; first | (rw [if_pos (by decide +kernel)]; kernel_rfl) | (rw [if_neg (by decide +kernel)]; exact ⟨rfl, rfl⟩))
    (fun os started H enc _ => lifted os started H enc)

theorem proved : Rows.ScheduleOnceSaid := over
end Go.Proofs.Ytdlhbggnhamenaa.scheduleOnce
