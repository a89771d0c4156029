/- For any key of at most 600 bytes, any label of at most 100, any at most 30 numbers the law HmacPurposes of citadellaw04 returns true: Derive of hmac answers as the chapter says, twice, whatever its caller does with the first answer. Conditions: none beyond those that the statement itself prints. -/
import Derived.Test.YtgkmkkfnpoapfaaDoorRows
import Derived.Test.YtgkmkkfnpoapfaaDoorTie
import Derived.Test.YtgkmkkfnpoapfaaDoorCards
import Derived.Test.YtgkmkkfnpoapfaaDoorShaLaid
import Derived.Test.YtgkmkkfnpoapfaaDoorHmacD
import Derived.Test.YtgkmkkfnpoapfaaDoorArrEq
import Derived.WalkKit
import Derived.ProofKit
import Derived.OpenShut
import Derived.ShutString
import Derived.ChangeOld
import Derived.Below
namespace Go.Proofs.YtgkmkkfnpoapfaaDoor.hmacPurposes
open Go.ChangeShapes Go.WideShapes Go.ChangeAt Go.RowKit
open Go.ChangeMaps (open_string shut_string)
set_option linter.unusedVariables false
set_option linter.unusedSimpArgs false

theorem own : ownKnob Tryd.prog.godebug = none := by kernel_rfl
theorem laidOut : laidOutB Tryd.prog = true := by kernel_rfl

def TwiceRel (w : World) (i : Value) (wr : World) : Prop := ∃ k : Nat, k ≤ 2 ∧ i = .int .i64 (k : Int) ∧ Below w.heap.size w wr
set_option maxRecDepth 100000 in
set_option maxHeartbeats 4000000 in
theorem walk (a0 : Option Addr) (len0 cap0 : Nat) (z0 : List Int) (s1 : ByteArray) (a2 : Option Addr) (len2 cap2 : Nat) (z2 : List Int) (w : World) (hpr : Pr w) (w0 : IsRow .u8 w a0 len0 cap0 z0) (w2 : IsRow .i64 w a2 len2 cap2 z2) :
    Calls Tryd.prog 4 #[.slice a0 len0 cap0, .string s1, .slice a2 len2 cap2] w fun e w' => e = .returned (.bool true) ∧ Below w.heap.size w w' := by
  obtain ⟨r0, hcap0, hcap0'⟩ := w0.rd
  obtain ⟨r2, hcap2, hcap2'⟩ := w2.rdI
  generalize bytesIn (z0.take len0) = kk at r0
  generalize z2.take len2 = xs at r2
  clear w0 w2
  have R := Lib.hid r0
  have S := Lib.hid r2
  have HP := Lib.hid hpr
  clear r0 r2 hpr
  by_cases hout : 600 < len0 ∨ 100 < s1.size ∨ 30 < len2
  · go_enter Tryd.func4, Tryd.ntmps4
    by_cases h1 : 600 < len0
    · go_wp2_with fail
      go_ret
      exact ⟨rfl, Below.refl _ _⟩
    by_cases h2 : 100 < s1.size
    · go_wp2_with fail
      go_ret
      exact ⟨rfl, Below.refl _ _⟩
    have h3 : 30 < len2 := by omega
    go_wp2_with fail
    go_ret
    exact ⟨rfl, Below.refl _ _⟩
  have hl0 : len0 ≤ 600 := by omega
  have hl1 : s1.size ≤ 100 := by omega
  have hl2 : len2 ≤ 30 := by omega
  clear hout
  have HL := Lib.hid (hmacL_len kk (formI s1.data.toList xs))
  go_enter Tryd.func4, Tryd.ntmps4
  go_wp2_with fail
  go_loopw [7, 8, 9] (fun i _ _ wr => TwiceRel w i wr) (fun i _ _ _ => 2 - (intOf i).toNat)
  case atStart => exact ⟨0, by decide, rfl, Below.refl _ _⟩
  case round =>
    obtain ⟨k, hk, rfl, hb⟩ := hrel
    have B := Lib.hid hb
    have HK := Lib.hid hk
    clear hb hk
    by_cases h2 : (k : Int) < 2
    · have H2 := Lib.hid h2
      go_wp2_with fail
      refine (wDerive a0 a2 len0 len2 cap0 cap2 kk s1 xs wr (HP.out.to B.out) (R.out.to B.out) (S.out.to B.out) (by omega) hcap0 hcap0' (by omega) (by omega)).mono ?_
      rintro e w1 ⟨A1, n1, c1, rfl, ho1, hcp1, hcp1', hb⟩
      obtain rfl : n1 = 32 := ho1.1.1.symm.trans HL.out
      have O := Lib.hid ho1
      have BR := Lib.hid hb
      clear ho1 hb
      go_wp2_with fail
      refine (rDerive a0 a2 len0 len2 cap0 cap2 kk s1 xs w1 (R.out.to (B.out.trans (BR.out.mono B.out.size))) (S.out.to (B.out.trans (BR.out.mono B.out.size))) (by omega) (by omega) (by omega)).mono ?_
      rintro e w2 ⟨A2, n2, c2, rfl, hown2, hb⟩
      obtain rfl : n2 = 32 := (Rd.of_own hown2).1.symm.trans HL.out
      have U := Lib.hid (Rd.of_own hown2)
      replace O := Lib.hid (O.out.to hb)
      replace BR := Lib.hid (BR.out.trans (hb.mono BR.out.size))
      clear hown2 hb
      go_wp2_with fail
      refine (refSameBT A1 A2 32 32 c1 c2 _ _ w2 rfl O.out.1 U.out (by decide) (by decide)).mono ?_
      rintro e w3 ⟨rfl, hb⟩
      replace O := Lib.hid (O.out.to hb)
      replace BR := Lib.hid (BR.out.trans (hb.mono BR.out.size))
      clear hb U
      go_wp2_with fail
      go_loopw [9] (fun i wx => IncG wr.heap.size 32 A1 wr i wx) (fun i _ => 32 - (intOf i).toNat)
      case atStart => exact ⟨0, _, Nat.zero_le _, rfl, O.out, BR.out⟩
      case round =>
        clear O BR
        obtain ⟨j, ys, hj, rfl, ho, hb⟩ := hrel
        have O := Lib.hid ho
        have BR := Lib.hid hb
        have HJ := Lib.hid hj
        clear ho hb hj
        by_cases hlt : j < 32
        · obtain ⟨b, o, rfl, hbB, hcell, hfr⟩ := O.out.cell hlt
          have HN := Lib.hid (u8_inc (nth ys j))
          have hinc := u8_inc (nth ys j)
          have HBB := Lib.hid hbB
          clear hbB
          go_wp2_with fail
          go_roundw
          case rel =>
            refine ⟨j + 1, ys.set j (UInt8.ofNat (nth ys j + 1)), by omega, by go_num, ?_, BR.out.setCell HBB.out _⟩
            first
            | exact O.out.set hlt _ rfl
            | exact O.out.set hlt _ HN.out
          case measure => simp [intOf]; omega
        · obtain rfl : j = 32 := by have := HJ.out; omega
          have hk2 := H2.out
          go_wp2_with fail
          go_roundw
          case rel => exact ⟨k + 1, by omega, by go_num, B.out.trans (BR.out.mono B.out.size)⟩
          case measure => simp [intOf]; omega
    · obtain rfl : k = 2 := by have := HK.out; omega
      go_wp2_with fail
      go_ret
      exact ⟨rfl, B.out⟩

set_option maxRecDepth 100000 in
theorem lifted (os : Os) (started : os.Started) (H : Type) (enc : TypeId × Value → H) :
    ReturnsInHanded {} Tryd.checked os 4 .any (fun w args => (Rows.hmacPurposesSpec.pre enc Tryd.prog Tryd.f4 Rows.hmacPurposesRow.domain false w args ∧ laidMetH Tryd.prog Rows.hmacPurposesRow.laid w) ∧ sizedMet enc Tryd.prog Tryd.f4 (OpenSpec.ofChange Rows.hmacPurposesSpec) false w args)
      (Rows.hmacPurposesSpec.post enc Tryd.prog Tryd.f4 false true false false) := by
  refine returnsInHanded_of_change_and (C := Tryd.checked) (X := fun w _ => laidMetH Tryd.prog Rows.hmacPurposesRow.laid w) (fun _ _ _ hh h => h.of_heap hh) own started (by kernel_rfl) Tryd.func4
    (ChangeSpec.witness_shaped (enc := enc) (C := Tryd.checked) (os := os) (X := fun w _ => laidMetH Tryd.prog Rows.hmacPurposesRow.laid w) false (World.doorLaid Tryd.prog 400 os) #[.slice none 0 0, .string ⟨#[]⟩, .slice none 0 0] 8 rfl (World.shaped_of_RefB (by kernel_rfl) (by kernel_rfl)) (by kernel_rfl) (by kernel_rfl) (by kernel_rfl) (door_met os _)) ?_
  intro W base args ds gs before hval0 hW hcnd hsz0 hL _
  have hval : ∀ (j : Nat) t v, Tryd.f4.params[j]? = some t → args[j]? = some v → Value.okWide Tryd.prog W .any base t v := hval0
  have hW' := hW
  obtain ⟨p, q, hA0, hV, rfl, hfz, hnd⟩ := hW
  have hA : DataW.TrodAll enc Tryd.prog W 0 (fun _ => true) true Tryd.f4.params.toList args.toList ds p := hA0
  rw [Tryd.params4] at hA hval
  obtain ⟨v0, vs0, d0, ds0, p0, q0, hargs, rfl, rfl, h0, r0⟩ := trodAll_cons hA
  obtain ⟨v1, vs1, d1, ds1, p1, q1, rfl, rfl, rfl, h1, r1⟩ := trodAll_cons r0
  obtain ⟨v2, vs2, d2, ds2, p2, q2, rfl, rfl, rfl, h2, r2⟩ := trodAll_cons r1
  obtain ⟨rfl, rfl, rfl⟩ := trodAll_nil r2
  obtain rfl : args = #[v0, v1, v2] := by cases args; simp_all
  obtain ⟨rfl, rfl⟩ := trodVars_none hV
  obtain ⟨a0, len0, cap0, rfl⟩ := okWide_slice Tryd.underlying22 (hval 0 22 v0 rfl rfl)
  have k0 := h0
  have lt0 : ∀ x ∈ p0, x.block < W.heap.size := by obtain ⟨m, hm⟩ := k0; exact DataW.trod_lt m _ _ _ hm
  obtain ⟨z0, w0⟩ : ∃ zs, IsRow .u8 W a0 len0 cap0 zs := by
    obtain ⟨fuel, hf⟩ := h0
    rcases open_ints Tryd.underlying22 Tryd.underlying5 (by kernel_rfl) hf with ⟨hcs, _⟩ | ⟨x, l, c, zs, hcs, _, hl, hm, hz, _, hcell, hwz⟩
    · simp [Value.cells] at hcs
      obtain ⟨rfl, rfl, rfl⟩ := hcs
      exact ⟨[], .inl ⟨rfl, rfl, rfl, rfl⟩⟩
    · simp [Value.cells] at hcs
      obtain ⟨rfl, rfl, rfl⟩ := hcs
      exact ⟨zs, .inr ⟨_, rfl, hl, hm, by simpa using hz, hcell, hwz⟩⟩
  have k1 := h1
  have lt1 : ∀ x ∈ p1, x.block < W.heap.size := by obtain ⟨m, hm⟩ := k1; exact DataW.trod_lt m _ _ _ hm
  obtain ⟨s1, rfl⟩ := okWide_string Tryd.underlying9 (hval 1 9 v1 rfl rfl)
  obtain ⟨a2, len2, cap2, rfl⟩ := okWide_slice Tryd.underlying28 (hval 2 28 v2 rfl rfl)
  have k2 := h2
  have lt2 : ∀ x ∈ p2, x.block < W.heap.size := by obtain ⟨m, hm⟩ := k2; exact DataW.trod_lt m _ _ _ hm
  obtain ⟨z2, w2⟩ : ∃ zs, IsRow .i64 W a2 len2 cap2 zs := by
    obtain ⟨fuel, hf⟩ := h2
    rcases open_ints Tryd.underlying28 Tryd.underlying3 (by kernel_rfl) hf with ⟨hcs, _⟩ | ⟨x, l, c, zs, hcs, _, hl, hm, hz, _, hcell, hwz⟩
    · simp [Value.cells] at hcs
      obtain ⟨rfl, rfl, rfl⟩ := hcs
      exact ⟨[], .inl ⟨rfl, rfl, rfl, rfl⟩⟩
    · simp [Value.cells] at hcs
      obtain ⟨rfl, rfl, rfl⟩ := hcs
      exact ⟨zs, .inr ⟨_, rfl, hl, hm, by simpa using hz, hcell, hwz⟩⟩
  clear hA0 hval0
  refine (walk a0 len0 cap0 z0 s1 a2 len2 cap2 z2 W (pr_of_laid hL) w0 w2).mono fun e W' ⟨he, bel⟩ => ?_
  subst he
  exact ⟨_, rfl, _, _, _, [], _, [], hW', trodAll_mk1 (shut_bool Tryd.underlying4 _), (trodAll_cons_mk (Below.trod laidOut (by kernel_rfl) (of_decide_eq_true (by kernel_rfl)) k0 bel lt0) (trodAll_cons_mk (Below.trod laidOut (by kernel_rfl) (of_decide_eq_true (by kernel_rfl)) k1 bel lt1) (trodAll_cons_mk (Below.trod laidOut (by kernel_rfl) (of_decide_eq_true (by kernel_rfl)) k2 bel lt2) trodAll_mk0))), rfl, bel.frame _, fun h => by cases h⟩

theorem over : Rows.hmacPurposesRow.holds Tryd.pinned (OpenSpec.ofChange Rows.hmacPurposesSpec) :=
  OpenClaim.holds_of_wide 4 Tryd.f4 rfl rfl rfl rfl rfl rfl rfl ⟨rfl, rfl, rfl, rfl, rfl⟩ rfl rfl rfl rfl rfl (by kernel_rfl) Tryd.func4 (by kernel_rfl)
    (of_decide_eq_true (by kernel_rfl)) (by unfold Func.isWrapper; first | (rw [if_pos (by decide +kernel)]; kernel_rfl) | (rw [if_neg (by decide +kernel)]; exact ⟨rfl, rfl⟩))
    (fun os started H enc _ => lifted os started H enc)

theorem wants : ∀ (j : Nat) t, Tryd.f4.params[j]? = some t → Tryd.prog.wantsStandIn t = false := by
  intro j t ht
  rw [Tryd.params4] at ht
  rcases j with _ | j
  · obtain rfl : 22 = t := by simpa using ht
    kernel_rfl
  rcases j with _ | j
  · obtain rfl : 9 = t := by simpa using ht
    kernel_rfl
  rcases j with _ | j
  · obtain rfl : 28 = t := by simpa using ht
    kernel_rfl
  simp at ht
theorem proved : Rows.HmacPurposesCardSaid :=
  Claim7.holds_tied_plain_at .later [] [.data] true Rows.hmacPurposesCard.stood.harness Rows.hmacPurposesCard.stood.looks over (fun _ h => by cases h) (by kernel_rfl) (fun _ h => by cases h) hmacPurposes_row_tie rfl ⟨rfl, rfl⟩ (by kernel_rfl) rfl
    (fun f fn hf hfn => by
      obtain rfl : f = 4 := Option.some.inj ((show Tryd.prog.funcNamed "citadel/citadellaw04.HmacPurposes" = some 4 by kernel_rfl).symm.trans hf) |>.symm
      obtain rfl : fn = Tryd.f4 := (Option.some.inj (Tryd.func4.symm.trans hfn)).symm
      exact ⟨by kernel_rfl, wants⟩)
    (by kernel_rfl)
end Go.Proofs.YtgkmkkfnpoapfaaDoor.hmacPurposes
