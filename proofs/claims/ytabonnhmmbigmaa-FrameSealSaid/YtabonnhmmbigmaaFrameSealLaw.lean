/- For any kind and any payload of at most 1000 bytes the law FrameSeal of citadellaw07 returns true: Seal of frame answers with the frame that the chapter says, or with none; the payload stays, what is told is the caller's own. Conditions: none beyond those that the statement itself prints. -/
import Derived.Test.YtabonnhmmbigmaaRows
import Derived.Test.YtabonnhmmbigmaaFrameR
import Derived.WalkKit
import Derived.ProofKit
import Derived.OpenShut
import Derived.ShutString
import Derived.ChangeOld
import Derived.Below
namespace Go.Proofs.Ytabonnhmmbigmaa.frameSeal
open Go.ChangeShapes Go.WideShapes Go.ChangeAt Go.RowKit
open Go.ChangeMaps (open_string shut_string)
set_option linter.unusedVariables false
set_option linter.unusedSimpArgs false

theorem own : ownKnob Try.prog.godebug = none := by kernel_rfl
theorem laidOut : laidOutB Try.prog = true := by kernel_rfl

def TurnRel (w : World) (i : Value) (wr : World) : Prop :=
  ∃ k : Nat, k ≤ 2 ∧ i = .int .i64 (k : Int) ∧ Below w.heap.size w wr
set_option maxRecDepth 1000000 in
set_option maxHeartbeats 4000000 in
theorem walk (a0 : Int) (a1 : Option Addr) (len1 cap1 : Nat) (z1 : List Int) (w : World) (w0 : (Lit.int .u8 a0).wf = true) (w1 : IsRow .u8 w a1 len1 cap1 z1) :
    Calls Try.prog 3 #[.int .u8 a0, .slice a1 len1 cap1] w fun e w' => e = .returned (.bool true) ∧ Below w.heap.size w w' := by
  obtain ⟨r1, hcap1, hcap1'⟩ := w1.rd
  obtain ⟨k, hk⟩ := u8v w0
  generalize bytesIn (z1.take len1) = xs at r1
  clear w0 w1
  have R := Lib.hid r1
  have HK := Lib.hid hk
  clear r1 hk
  by_cases hl : 1000 < len1
  · have hlI : (len1 : Int) > 1000 := by omega
    go_enter Try.func3, Try.ntmps3
    go_wp2_with fail
    go_ret
    exact ⟨rfl, Below.refl _ _⟩
  have hlI : ¬ ((len1 : Int) > 1000) := by omega
  have HL : Hid (len1 ≤ 1000) := by (show _ ≤ _); omega
  clear hl
  go_enter Try.func3, Try.ntmps3
  go_wp2_with fail
  refine (refCopy a1 len1 cap1 xs w R.out (by have := HL.out; omega)).mono ?_
  rintro e w1 ⟨A1, n1, c1, rfl, hown1, hb⟩
  have M := Lib.hid (Rd.of_own hown1)
  have BW := Lib.hid hb
  obtain ⟨hc1, hc1'⟩ := own_cap hown1
  obtain rfl : n1 = len1 := by rw [← M.out.1, R.out.1]
  replace R := Lib.hid (R.out.to hb)
  clear hown1 hb hlI
  go_wp2_with fail
  go_loopw [6, 9] (fun i _ wr => TurnRel w1 i wr) (fun i _ _ => 2 - (intOf i).toNat)
  case atStart => exact ⟨0, Nat.zero_le _, rfl, Below.refl _ _⟩
  case round =>
    obtain ⟨t, ht, rfl, hb⟩ := hrel
    have M' := Lib.hid (M.out.to hb)
    have R' := Lib.hid (R.out.to hb)
    have BT := Lib.hid hb
    have hs1 := hb.size
    clear hb
    have HT := Lib.hid ht
    by_cases htl : t < 2
    · have htI : (t : Int) < 2 := by omega
      have HT2 := Lib.hid htl
      clear ht htl
      go_wp2_with fail
      by_cases h58 : n1 ≤ 58
      · have h58I : ¬ ((n1 : Int) > 58) := by omega
        have HXL : Hid (xs.length ≤ 58) := by (show _ ≤ _); rw [R.out.1]; exact h58
        refine (wSealZ A1 n1 c1 k a0 HK.out xs wr M'.out h58).mono ?_
        rintro e w2 ⟨A2, n2, c2, rfl, hown2, hb⟩
        have P := Lib.hid (Rd.of_own hown2)
        have O := Lib.hid (own_mono hown2 hs1)
        obtain rfl : n2 = 64 := by rw [← P.out.1]; exact frm_len HXL.out
        clear hown2
        replace M' := Lib.hid (M'.out.to hb)
        replace R' := Lib.hid (R'.out.to hb)
        replace BT := Lib.hid (BT.out.trans (hb.mono BT.out.size))
        clear hb
        go_wp2_with fail
        refine (refSameBT A1 a1 n1 n1 c1 cap1 xs xs w2 rfl M'.out R'.out (by omega) (by omega)).mono ?_
        rintro e w3 ⟨rfl, hb⟩
        clear M'
        replace R' := Lib.hid (R'.out.to hb)
        replace P := Lib.hid (P.out.to hb)
        replace O := Lib.hid (own_below O.out hb)
        replace BT := Lib.hid (BT.out.trans (hb.mono BT.out.size))
        clear hb
        go_wp2_with fail
        refine (rSealZ a1 n1 cap1 k a0 HK.out xs w3 R'.out h58).mono ?_
        rintro e w4 ⟨A4, n4, c4, rfl, hown4, hb⟩
        have E := Lib.hid (Rd.of_own hown4)
        obtain rfl : n4 = 64 := by rw [← E.out.1]; exact frm_len HXL.out
        clear hown4 R'
        replace P := Lib.hid (P.out.to hb)
        replace O := Lib.hid (own_below O.out hb)
        replace BT := Lib.hid (BT.out.trans (hb.mono BT.out.size))
        clear hb
        go_wp2_with fail
        refine (refSameBT A2 A4 64 64 c2 c4 _ _ w4 rfl P.out E.out (by decide) (by decide)).mono ?_
        rintro e w5 ⟨rfl, hb⟩
        clear P E
        replace O := Lib.hid (own_below O.out hb)
        replace BT := Lib.hid (BT.out.trans (hb.mono BT.out.size))
        clear hb
        go_wp2_with fail
        go_loopw [9] (fun i wr => IncRel w1.heap.size 64 c2 A2 w1 i wr) (fun i _ => 64 - (intOf i).toNat)
        case atStart => exact ⟨0, _, Nat.zero_le _, rfl, O.out, BT.out⟩
        case round =>
          obtain ⟨j, bs, hj, rfl, hown, hbel⟩ := hrel
          clear O BT
          by_cases hlt : j < 64
          · obtain ⟨g, rfl, hg⟩ := own_head hown (by omega)
            obtain ⟨hcell, hfr⟩ := own_cell (j := j) hown hlt
            have hltI : (j : Int) < 64 := by omega
            go_wp2
            go_roundw
            case rel =>
              obtain ⟨h1, h2⟩ := own_set (j := j) hown hbel _ (u8_inc (nth bs j)) hg
              exact ⟨j + 1, _, by omega, by go_num, h1, h2⟩
            case measure => simp [intOf]; omega
          · obtain rfl : j = 64 := by omega
            have HB := Lib.hid hbel
            clear hown hbel
            go_wp2
            go_roundw
            case rel => exact ⟨t + 1, by have := HT2.out; omega, by go_num, HB.out⟩
            case measure => simp [intOf]; omega
      · have h58I : (n1 : Int) > 58 := by omega
        refine (wSealBad A1 n1 c1 a0 wr (by omega)).mono ?_
        rintro e w' ⟨rfl, rfl⟩
        go_wp2_with fail
        refine (refSameBT A1 a1 n1 n1 c1 cap1 xs xs wr rfl M'.out R'.out (by have := HL.out; omega) (by have := HL.out; omega)).mono ?_
        rintro e w3 ⟨rfl, hb⟩
        clear M' R'
        replace BT := Lib.hid (BT.out.trans (hb.mono BT.out.size))
        clear hb
        go_wp2_with fail
        go_ret
        exact ⟨rfl, BW.out.trans (BT.out.mono BW.out.size)⟩
    · obtain rfl : t = 2 := by omega
      clear M' R'
      go_wp2
      go_ret
      exact ⟨rfl, BW.out.trans (BT.out.mono BW.out.size)⟩

set_option maxRecDepth 100000 in
theorem lifted (os : Os) (started : os.Started) (H : Type) (enc : TypeId × Value → H) :
    ReturnsInHanded {} Try.checked os 3 .any (Rows.frameSealSpec.pre6 enc Try.prog Try.f3 Rows.frameSealRow.domain false) (Rows.frameSealSpec.post enc Try.prog Try.f3 false true false false) := by
  refine returnsInHanded_of_change (C := Try.checked) own started (by kernel_rfl) Try.func3
    (ChangeSpec.witness6 (enc := enc) (C := Try.checked) false ⟨#[], #[.int .u8 0, .slice none 0 0], []⟩ 8 (by kernel_rfl) (by kernel_rfl) (by kernel_rfl) (by kernel_rfl)) ?_
  intro W base args ds gs before hval0 hW hcnd _
  have hval : ∀ (j : Nat) t v, Try.f3.params[j]? = some t → args[j]? = some v → Value.okWide Try.prog W .any base t v := hval0
  have hW' := hW
  obtain ⟨p, q, hA0, hV, rfl, hfz, hnd⟩ := hW
  have hA : DataW.TrodAll enc Try.prog W 0 (fun _ => true) true Try.f3.params.toList args.toList ds p := hA0
  rw [Try.params3] at hA hval
  obtain ⟨v0, vs0, d0, ds0, p0, q0, hargs, rfl, rfl, h0, r0⟩ := trodAll_cons hA
  obtain ⟨v1, vs1, d1, ds1, p1, q1, rfl, rfl, rfl, h1, r1⟩ := trodAll_cons r0
  obtain ⟨rfl, rfl, rfl⟩ := trodAll_nil r1
  obtain rfl : args = #[v0, v1] := by cases args; simp_all
  obtain ⟨rfl, rfl⟩ := trodVars_none hV
  obtain ⟨a0, rfl, rfl, rfl, w0⟩ := open_int Try.underlying5 (hval 0 5 v0 rfl rfl) h0
  obtain ⟨a1, len1, cap1, rfl⟩ := okWide_slice Try.underlying22 (hval 1 22 v1 rfl rfl)
  have k1 := h1
  have lt1 : ∀ x ∈ p1, x.block < W.heap.size := by obtain ⟨m, hm⟩ := k1; exact DataW.trod_lt m _ _ _ hm
  obtain ⟨z1, w1⟩ : ∃ zs, IsRow .u8 W a1 len1 cap1 zs := by
    obtain ⟨fuel, hf⟩ := h1
    rcases open_ints Try.underlying22 Try.underlying5 (by kernel_rfl) hf with ⟨hcs, _⟩ | ⟨x, l, c, zs, hcs, _, hl, hm, hz, _, hcell, hwz⟩
    · simp [Value.cells] at hcs
      obtain ⟨rfl, rfl, rfl⟩ := hcs
      exact ⟨[], .inl ⟨rfl, rfl, rfl, rfl⟩⟩
    · simp [Value.cells] at hcs
      obtain ⟨rfl, rfl, rfl⟩ := hcs
      exact ⟨zs, .inr ⟨_, rfl, hl, hm, by simpa using hz, hcell, hwz⟩⟩
  clear hA0 hval0
  refine (walk a0 a1 len1 cap1 z1 W w0 w1).mono fun e W' ⟨he, bel⟩ => ?_
  subst he
  exact ⟨_, rfl, _, _, _, [], _, [], hW', trodAll_mk1 (shut_bool Try.underlying4 _), (trodAll_cons_mk (shut_int Try.underlying5 w0) (trodAll_cons_mk (Below.trod laidOut (by kernel_rfl) (of_decide_eq_true (by kernel_rfl)) k1 bel lt1) trodAll_mk0)), rfl, bel.frame _, fun h => by cases h⟩

theorem over : Rows.frameSealRow.holds Try.pinned (OpenSpec.ofChange Rows.frameSealSpec) :=
  OpenClaim.holds_of_wide 3 Try.f3 rfl rfl rfl rfl rfl rfl rfl ⟨rfl, rfl, rfl, rfl, rfl⟩ rfl rfl rfl rfl rfl (by kernel_rfl) Try.func3 (by kernel_rfl)
    (of_decide_eq_true (by kernel_rfl)) (by unfold Func.isWrapper; first | (rw [if_pos (by decide +kernel)]; kernel_rfl) | (rw [if_neg (by decide +kernel)]; exact ⟨rfl, rfl⟩))
    (fun os started H enc _ => lifted os started H enc)

theorem proved : Rows.FrameSealSaid := over
end Go.Proofs.Ytabonnhmmbigmaa.frameSeal
