/- For any windows and any partition the law ScheduleCounts of citadellaw09 returns true: how many ticks the partition has, and whose each tick of the frame is, is as the document says (windows, at most 40). Conditions: none beyond those that the statement itself prints. -/
import Derived.Test.YtdlhbggnhamenaaRows
import Derived.Test.YtdlhbggnhamenaaSchE
import Derived.Test.YtdlhbggnhamenaaSchD
import Derived.Test.YtdlhbggnhamenaaWin
import Derived.WalkKit
import Derived.ProofKit
import Derived.OpenShut
import Derived.ShutString
import Derived.ChangeOld
import Derived.Below
namespace Go.Proofs.Ytdlhbggnhamenaa.scheduleCounts
open Go.ChangeShapes Go.WideShapes Go.ChangeAt Go.RowKit
open Go.ChangeMaps (open_string shut_string)
set_option linter.unusedVariables false
set_option linter.unusedSimpArgs false

theorem own : ownKnob Try.prog.godebug = none := by kernel_rfl
theorem laidOut : laidOutB Try.prog = true := by kernel_rfl


set_option maxRecDepth 1000000 in
set_option maxHeartbeats 4000000 in
theorem walk (a0 : Option Addr) (len0 cap0 : Nat) (l0 : List Reg) (a1 : Int) (w : World) (w0 : RdG w w.heap.size a0 len0 l0 ∧ len0 ≤ cap0 ∧ cap0 ≤ 9223372036854775807) (w1 : (Lit.int .i64 a1).wf = true) :
    Calls Try.prog 4 #[.slice a0 len0 cap0, .int .i64 a1] w fun e w' => e = .returned (.bool true) ∧ Below w.heap.size w w' := by
  obtain ⟨r0, hcap, hcap'⟩ := w0
  have R := Lib.hid r0
  have HC : Hid (len0 ≤ 9223372036854775807) := Nat.le_trans hcap hcap'
  clear r0 hcap hcap' w1
  have B := Lib.hid (Below.refl w.heap.size w)
  by_cases h40 : 40 < len0
  · have h40I : (len0 : Int) > 40 := by omega
    clear h40
    go_enter Try.func4, Try.ntmps4
    go_wp2_with fail
    go_ret
    exact ⟨rfl, B.out⟩
  have h40I : ¬ (len0 : Int) > 40 := by omega
  clear h40
  go_enter Try.func4, Try.ntmps4
  go_wp2_with fail
  refine (Sch.whole a0 len0 cap0 l0 w R.out HC.out).mono ?_
  rintro e w1 ⟨A1, n1, c1, rfl, hown, hb⟩
  have Z1 := Lib.hid (RdZ.of_own hown)
  replace B := Lib.hid (B.out.trans (hb.mono B.out.size))
  clear hb hown
  go_wp2_with fail
  refine (SchD.whole a0 len0 cap0 l0 w1 ((R.out.below B.out).more B.out.size) HC.out).mono ?_
  rintro e w2 ⟨A2, n2, c2, rfl, hown, hb⟩
  have Z2 := Lib.hid (RdZ.of_own hown)
  replace Z1 := Lib.hid (Z1.out.to hb)
  replace B := Lib.hid (B.out.trans (hb.mono B.out.size))
  clear hb hown
  obtain rfl : n1 = n2 := Z1.out.1.symm.trans Z2.out.1
  have HSM : Hid (n1 ≤ 64) := by (show _ ≤ _); rw [← Z1.out.1]; exact wholeW_small l0
  go_wp2_with fail
  refine (Sch.ticks a0 len0 cap0 l0 a1 w2 ((R.out.below B.out).more B.out.size) HC.out).mono ?_
  rintro e w3 ⟨rfl, hb⟩
  replace Z1 := Lib.hid (Z1.out.to hb)
  replace Z2 := Lib.hid (Z2.out.to hb)
  replace B := Lib.hid (B.out.trans (hb.mono B.out.size))
  clear hb
  go_wp2_with fail
  refine (SchD.ticks a0 len0 cap0 l0 a1 w3 ((R.out.below B.out).more B.out.size) HC.out).mono ?_
  rintro e w4 ⟨rfl, hb⟩
  replace Z1 := Lib.hid (Z1.out.to hb)
  replace Z2 := Lib.hid (Z2.out.to hb)
  replace B := Lib.hid (B.out.trans (hb.mono B.out.size))
  clear hb
  go_wp2_with fail
  go_loopw [7] (fun i wr => ∃ (k q : Nat), k ≤ n1 ∧ i = .int .i64 (k : Int) ∧ wr = w4.drewN q) (fun i _ => n1 - (intOf i).toNat)
  case atStart => exact ⟨0, 0, Nat.zero_le _, rfl, rfl⟩
  case round =>
    obtain ⟨k, q, hk, rfl, rfl⟩ := hrel
    by_cases hlt : k < n1
    · have HLT : Hid (k < n1) := hlt
      obtain ⟨b1, o1, rfl, _, hc1⟩ := Z1.out.2 (by omega)
      obtain ⟨b2, o2, rfl, _, hc2⟩ := Z2.out.2 (by omega)
      have x1 : w4.cell? ⟨b1, o1 + k, none⟩ = some (.int .i64 (zat (wholeW l0) k)) := hc1 k hlt
      have x2 : w4.cell? ⟨b2, o2 + k, none⟩ = some (.int .i64 (zat (wholeW l0) k)) := hc2 k hlt
      have hkI : (k : Int) < (n1 : Int) := by omega
      have hwk : IntKind.i64.wrap ((k : Int) + 1) = (k : Int) + 1 := by have := HSM.out; rw [IntKind.wrap_i64]; omega
      clear hc1 hc2 hlt hk
      generalize zat (wholeW l0) k = y at *
      go_wp2_with fail
      go_quiet (fail)
      go_wp2_with fail
      go_roundw
      case rel => exact ⟨k + 1, _, HLT.out, by go_num, rfl⟩
      case measure => have := HLT.out; simp [intOf]; omega
    · obtain rfl : k = n1 := by omega
      have hkI : ¬ (k : Int) < (k : Int) := by omega
      clear hk hlt
      go_wp2_with fail
      refine (awake _).mono ?_
      rintro e w5 ⟨rfl, hb⟩
      have BZ := Lib.hid (below_drewN B.out q)
      go_wp2_with fail
      go_ret
      exact ⟨rfl, BZ.out.trans (hb.mono BZ.out.size)⟩

set_option maxRecDepth 100000 in
theorem lifted (os : Os) (started : os.Started) (H : Type) (enc : TypeId × Value → H) :
    ReturnsInHanded {} Try.checked os 4 .any (Rows.scheduleCountsSpec.pre6 enc Try.prog Try.f4 Rows.scheduleCountsRow.domain false) (Rows.scheduleCountsSpec.post enc Try.prog Try.f4 false true false false) := by
  refine returnsInHanded_of_change (C := Try.checked) own started (by kernel_rfl) Try.func4
    (ChangeSpec.witness6 (enc := enc) (C := Try.checked) false ⟨#[], #[.slice none 0 0, .int .i64 0], []⟩ 8 (by kernel_rfl) (by kernel_rfl) (by kernel_rfl) (by kernel_rfl)) ?_
  intro W base args ds gs before hval0 hW hcnd _
  have hval : ∀ (j : Nat) t v, Try.f4.params[j]? = some t → args[j]? = some v → Value.okWide Try.prog W .any base t v := hval0
  have hW' := hW
  obtain ⟨p, q, hA0, hV, rfl, hfz, hnd⟩ := hW
  have hA : DataW.TrodAll enc Try.prog W 0 (fun _ => true) true Try.f4.params.toList args.toList ds p := hA0
  rw [Try.params4] at hA hval
  obtain ⟨v0, vs0, d0, ds0, p0, q0, hargs, rfl, rfl, h0, r0⟩ := trodAll_cons hA
  obtain ⟨v1, vs1, d1, ds1, p1, q1, rfl, rfl, rfl, h1, r1⟩ := trodAll_cons r0
  obtain ⟨rfl, rfl, rfl⟩ := trodAll_nil r1
  obtain rfl : args = #[v0, v1] := by cases args; simp_all
  obtain ⟨rfl, rfl⟩ := trodVars_none hV
  have k0 := h0
  have lt0 : ∀ x ∈ p0, x.block < W.heap.size := by obtain ⟨m, hm⟩ := k0; exact DataW.trod_lt m _ _ _ hm
  obtain ⟨a0, len0, cap0, l0, rfl, w0⟩ := open_wins (hval 0 22 v0 rfl rfl) h0
  obtain ⟨a1, rfl, rfl, rfl, w1⟩ := open_int Try.underlying3 (hval 1 3 v1 rfl rfl) h1
  clear hA0 hval0
  refine (walk a0 len0 cap0 l0 a1 W w0 w1).mono fun e W' ⟨he, bel⟩ => ?_
  subst he
  exact ⟨_, rfl, _, _, _, [], _, [], hW', trodAll_mk1 (shut_bool Try.underlying4 _), (trodAll_cons_mk (Below.trod laidOut (by kernel_rfl) (of_decide_eq_true (by kernel_rfl)) k0 bel lt0) (trodAll_cons_mk (shut_int Try.underlying3 w1) trodAll_mk0)), rfl, bel.frame _, fun h => by cases h⟩

theorem over : Rows.scheduleCountsRow.holds Try.pinned (OpenSpec.ofChange Rows.scheduleCountsSpec) :=
  OpenClaim.holds_of_wide 4 Try.f4 rfl rfl rfl rfl rfl rfl rfl ⟨rfl, rfl, rfl, rfl, rfl⟩ rfl rfl rfl rfl rfl (by kernel_rfl) Try.func4 (by kernel_rfl)
    (of_decide_eq_true (by kernel_rfl)) (by unfold Func.isWrapper; first | (rw [if_pos (by decide +kernel)]; kernel_rfl) | (rw [if_neg (by decide +kernel)]; exact ⟨rfl, rfl⟩))
    (fun os started H enc _ => lifted os started H enc)

theorem proved : Rows.ScheduleCountsSaid := over
end Go.Proofs.Ytdlhbggnhamenaa.scheduleCounts
