/- For any three rows of at most 1000 bytes the law CrcThree of citadellaw02 returns true: the exclusive or of their sums, cut to the shortest, is the sum of their exclusive or. Conditions: none beyond those that the statement itself prints. -/
import Derived.Test.YtfhjkhikgceddaaRows
import Derived.Test.YtfhjkhikgceddaaCrcAwake
import Derived.Test.YtfhjkhikgceddaaCrcTurn
import Derived.Test.YtfhjkhikgceddaaSlice
import Derived.WalkKit
import Derived.ProofKit
import Derived.OpenShut
import Derived.ShutString
import Derived.ChangeOld
import Derived.Below
namespace Go.Proofs.Ytfhjkhikgceddaa.crcThree
open Go.ChangeShapes Go.WideShapes Go.ChangeAt Go.RowKit
open Go.ChangeMaps (open_string shut_string)
set_option linter.unusedVariables false

theorem own : ownKnob Try.prog.godebug = none := by kernel_rfl
theorem laidOut : laidOutB Try.prog = true := by kernel_rfl

theorem xorL_take (xs ys : List UInt8) : ∀ k, k ≤ xs.length → k ≤ ys.length → xorL (xs.take k) (ys.take k) = (xorL xs ys).take k := by
  induction xs generalizing ys with
  | nil => intro k _ _; simp [xorL]
  | cons x xs ih =>
    intro k h1 h2
    cases ys with
    | nil => simp [xorL]
    | cons y ys =>
      cases k with
      | zero => simp [xorL]
      | succ k => simp only [List.take_succ_cons, xorL]; rw [ih ys k (by simpa using h1) (by simpa using h2)]
theorem three {xs ys zs : List UInt8} {n : Nat} (h : n = min (min xs.length ys.length) zs.length) :
    crcSum (xs.take n) ^^^ crcSum (ys.take n) ^^^ crcSum (zs.take n) = crcSum (xorL (xorL xs ys) zs) := by
  have hx : n ≤ xs.length := by omega
  have hy : n ≤ ys.length := by omega
  have hz : n ≤ zs.length := by omega
  rw [crc_three (by simp; omega) (by simp; omega)]
  rw [xorL_take xs ys n hx hy, xorL_take _ zs n (by rw [xorL_len]; omega) hz]
  rw [List.take_of_length_le (by rw [xorL_len, xorL_len]; omega)]
theorem xor_sums {a b : Nat} (ha : a < 4294967296) (hb : b < 4294967296) : bits .xor .u32 (a : Int) (b : Int) = ((a ^^^ b : Nat) : Int) := u32_xor_nat a b ha hb
set_option maxRecDepth 100000 in
set_option maxHeartbeats 2000000 in
theorem walk (a0 : Option Addr) (len0 cap0 : Nat) (z0 : List Int) (a1 : Option Addr) (len1 cap1 : Nat) (z1 : List Int) (a2 : Option Addr) (len2 cap2 : Nat) (z2 : List Int) (w : World) (w0 : IsRow .u8 w a0 len0 cap0 z0) (w1 : IsRow .u8 w a1 len1 cap1 z1) (w2 : IsRow .u8 w a2 len2 cap2 z2) :
    Calls Try.prog 7 #[.slice a0 len0 cap0, .slice a1 len1 cap1, .slice a2 len2 cap2] w fun e w' => e = .returned (.bool true) ∧ Below w.heap.size w w' := by
  obtain ⟨r0, hcap0, hcap0'⟩ := w0.rd
  obtain ⟨r1, hcap1, hcap1'⟩ := w1.rd
  obtain ⟨r2, hcap2, hcap2'⟩ := w2.rd
  generalize bytesIn (z0.take len0) = xs at r0
  generalize bytesIn (z1.take len1) = ys at r1
  generalize bytesIn (z2.take len2) = zs at r2
  clear w0 w1 w2
  have RX := Lib.hid r0
  have RY := Lib.hid r1
  have RZ := Lib.hid r2
  clear r0 r1 r2
  by_cases hout : 1000 < len0 ∨ 1000 < len1 ∨ 1000 < len2
  · go_enter Try.func7, Try.ntmps7
    go_wp2_with fail
    refine (awake w).mono ?_
    rintro e w1 ⟨rfl, hb⟩
    have B := Lib.hid hb
    clear hb
    by_cases h1 : 1000 < len0
    · go_wp2_with fail
      go_ret
      exact ⟨rfl, B.out⟩
    by_cases h2 : 1000 < len1
    · go_wp2_with fail
      go_ret
      exact ⟨rfl, B.out⟩
    have h3 : 1000 < len2 := by omega
    go_wp2_with fail
    go_ret
    exact ⟨rfl, B.out⟩
  have h1 : len0 ≤ 1000 := by omega
  have h2 : len1 ≤ 1000 := by omega
  have h3 : len2 ≤ 1000 := by omega
  clear hout
  go_enter Try.func7, Try.ntmps7
  go_wp2_with fail
  refine (awake w).mono ?_
  rintro e w1 ⟨rfl, hb⟩
  have B := Lib.hid hb
  replace RX := Lib.hid (RX.out.to hb)
  replace RY := Lib.hid (RY.out.to hb)
  replace RZ := Lib.hid (RZ.out.to hb)
  clear hb
  go_wp2_with fail
  refine (rTurned a0 a1 len0 len1 cap0 cap1 xs ys w1 RX.out RY.out (by omega) (by omega)).mono ?_
  rintro e w2 ⟨A2, n2, c2, rfl, hown2, hb⟩
  have T := Lib.hid (Rd.of_own hown2)
  have hn2 : n2 ≤ 1000 := by rw [← T.out.1, xorL_len, RX.out.1]; omega
  clear hown2
  replace RX := Lib.hid (RX.out.to hb)
  replace RY := Lib.hid (RY.out.to hb)
  replace RZ := Lib.hid (RZ.out.to hb)
  replace B := Lib.hid (B.out.trans (hb.mono B.out.size))
  clear hb
  go_wp2_with fail
  refine (rTurned A2 a2 n2 len2 c2 cap2 _ zs w2 T.out RZ.out (by omega) (by omega)).mono ?_
  rintro e w3 ⟨A3, n, c3, rfl, hown3, hb⟩
  replace T := Lib.hid (Rd.of_own hown3)
  have hn : n = min (min xs.length ys.length) zs.length := by rw [← T.out.1, xorL_len, xorL_len]
  have HM := Lib.hid (three hn)
  have hn0 : n ≤ len0 := by rw [← RX.out.1]; omega
  have hn1 : n ≤ len1 := by rw [← RY.out.1]; omega
  have hn2 : n ≤ len2 := by rw [← RZ.out.1]; omega
  clear hown3 hn
  replace RX := Lib.hid (RX.out.to hb)
  replace RY := Lib.hid (RY.out.to hb)
  replace RZ := Lib.hid (RZ.out.to hb)
  replace B := Lib.hid (B.out.trans (hb.mono B.out.size))
  clear hb
  have i0 : (n : Int) ≤ (len0 : Int) := by omega
  have i1 : (n : Int) ≤ (len1 : Int) := by omega
  have i2 : (n : Int) ≤ (len2 : Int) := by omega
  replace RX := Lib.hid (RX.out.front (k := n) hn0)
  replace RY := Lib.hid (RY.out.front (k := n) hn1)
  replace RZ := Lib.hid (RZ.out.front (k := n) hn2)
  go_wp2_with fail
  have s0 := slice_h isU8 a0 hn0 hcap0 .i64
  have s1 := slice_h isU8 a1 hn1 hcap1 .i64
  have s2 := slice_h isU8 a2 hn2 hcap2 .i64
  have p1 := crcSum_lt (xs.take n)
  have p2 := crcSum_lt (ys.take n)
  have p3 := crcSum_lt (zs.take n)
  have hx1 := xor_sums p1 p2
  have p12 : crcSum (xs.take n) ^^^ crcSum (ys.take n) < 4294967296 := Nat.xor_lt_two_pow (n := 32) p1 p2
  have hx2 := xor_sums p12 p3
  rw [HM.out] at hx2
  have Q0 := Lib.hid (fun w h => wSum a0 n cap0 (xs.take n) w h (by omega))
  have Q1 := Lib.hid (fun w h => wSum a1 n cap1 (ys.take n) w h (by omega))
  have Q2 := Lib.hid (fun w h => wSum a2 n cap2 (zs.take n) w h (by omega))
  have Q3 := Lib.hid (fun w h => wSum A3 n c3 (xorL (xorL xs ys) zs) w h (by omega))
  replace RX := Lib.hid RX.out.drew'
  replace RY := Lib.hid RY.out.drew'
  replace RZ := Lib.hid RZ.out.drew'
  replace T := Lib.hid T.out.drew'
  replace B := Lib.hid B.out.drew
  clear HM p1 p2 p3 p12
  generalize crcSum (xs.take n) ^^^ crcSum (ys.take n) = u12 at *
  generalize crcSum (xs.take n) = u1 at *
  generalize crcSum (ys.take n) = u2 at *
  generalize crcSum (zs.take n) = u3 at *
  generalize crcSum (xorL (xorL xs ys) zs) = u4 at *
  go_region_held (fun _ => True) (trivial) (first
    | (go_at_call_of 10 a0; refine (Q0.out _ RX.out).mono ?_; rintro e w4 ⟨rfl, hb⟩; replace RY := Lib.hid (RY.out.to hb); replace RZ := Lib.hid (RZ.out.to hb); replace T := Lib.hid (T.out.to hb); replace B := Lib.hid (B.out.trans (hb.mono B.out.size)); clear hb)
    | (go_at_call_of 10 a1; refine (Q1.out _ RY.out).mono ?_; rintro e w5 ⟨rfl, hb⟩; replace RZ := Lib.hid (RZ.out.to hb); replace T := Lib.hid (T.out.to hb); replace B := Lib.hid (B.out.trans (hb.mono B.out.size)); clear hb)
    | (go_at_call_of 10 a2; refine (Q2.out _ RZ.out).mono ?_; rintro e w6 ⟨rfl, hb⟩; replace T := Lib.hid (T.out.to hb); replace B := Lib.hid (B.out.trans (hb.mono B.out.size)); clear hb)
    | (go_at_call_of 10 A3; refine (Q3.out _ T.out).mono ?_; rintro e w7 ⟨rfl, hb⟩; replace B := Lib.hid (B.out.trans (hb.mono B.out.size)); clear hb))
  all_goals go_wp2
  all_goals go_ret
  all_goals exact ⟨rfl, B.out⟩

set_option maxRecDepth 100000 in
theorem lifted (os : Os) (started : os.Started) (H : Type) (enc : TypeId × Value → H) :
    ReturnsInHanded {} Try.checked os 7 .any (Rows.crcThreeSpec.pre6 enc Try.prog Try.f7 Rows.crcThreeRow.domain false) (Rows.crcThreeSpec.post enc Try.prog Try.f7 false true false false) := by
  refine returnsInHanded_of_change (C := Try.checked) own started (by kernel_rfl) Try.func7
    (ChangeSpec.witness6 (enc := enc) (C := Try.checked) false ⟨#[], #[.slice none 0 0, .slice none 0 0, .slice none 0 0], []⟩ 8 (by kernel_rfl) (by kernel_rfl) (by kernel_rfl) (by kernel_rfl)) ?_
  intro W base args ds gs before hval0 hW hcnd _
  have hval : ∀ (j : Nat) t v, Try.f7.params[j]? = some t → args[j]? = some v → Value.okWide Try.prog W .any base t v := hval0
  have hW' := hW
  obtain ⟨p, q, hA0, hV, rfl, hfz, hnd⟩ := hW
  have hA : DataW.TrodAll enc Try.prog W 0 (fun _ => true) true Try.f7.params.toList args.toList ds p := hA0
  rw [Try.params7] at hA hval
  obtain ⟨v0, vs0, d0, ds0, p0, q0, hargs, rfl, rfl, h0, r0⟩ := trodAll_cons hA
  obtain ⟨v1, vs1, d1, ds1, p1, q1, rfl, rfl, rfl, h1, r1⟩ := trodAll_cons r0
  obtain ⟨v2, vs2, d2, ds2, p2, q2, rfl, rfl, rfl, h2, r2⟩ := trodAll_cons r1
  obtain ⟨rfl, rfl, rfl⟩ := trodAll_nil r2
  obtain rfl : args = #[v0, v1, v2] := by cases args; simp_all
  obtain ⟨rfl, rfl⟩ := trodVars_none hV
  obtain ⟨a0, len0, cap0, rfl⟩ := okWide_slice Try.underlying23 (hval 0 23 v0 rfl rfl)
  have k0 := h0
  have lt0 : ∀ x ∈ p0, x.block < W.heap.size := by obtain ⟨m, hm⟩ := k0; exact DataW.trod_lt m _ _ _ hm
  obtain ⟨z0, w0⟩ : ∃ zs, IsRow .u8 W a0 len0 cap0 zs := by
    obtain ⟨fuel, hf⟩ := h0
    rcases open_ints Try.underlying23 Try.underlying5 (by kernel_rfl) hf with ⟨hcs, _⟩ | ⟨x, l, c, zs, hcs, _, hl, hm, hz, _, hcell, hwz⟩
    · simp [Value.cells] at hcs
      obtain ⟨rfl, rfl, rfl⟩ := hcs
      exact ⟨[], .inl ⟨rfl, rfl, rfl, rfl⟩⟩
    · simp [Value.cells] at hcs
      obtain ⟨rfl, rfl, rfl⟩ := hcs
      exact ⟨zs, .inr ⟨_, rfl, hl, hm, by simpa using hz, hcell, hwz⟩⟩
  obtain ⟨a1, len1, cap1, rfl⟩ := okWide_slice Try.underlying23 (hval 1 23 v1 rfl rfl)
  have k1 := h1
  have lt1 : ∀ x ∈ p1, x.block < W.heap.size := by obtain ⟨m, hm⟩ := k1; exact DataW.trod_lt m _ _ _ hm
  obtain ⟨z1, w1⟩ : ∃ zs, IsRow .u8 W a1 len1 cap1 zs := by
    obtain ⟨fuel, hf⟩ := h1
    rcases open_ints Try.underlying23 Try.underlying5 (by kernel_rfl) hf with ⟨hcs, _⟩ | ⟨x, l, c, zs, hcs, _, hl, hm, hz, _, hcell, hwz⟩
    · simp [Value.cells] at hcs
      obtain ⟨rfl, rfl, rfl⟩ := hcs
      exact ⟨[], .inl ⟨rfl, rfl, rfl, rfl⟩⟩
    · simp [Value.cells] at hcs
      obtain ⟨rfl, rfl, rfl⟩ := hcs
      exact ⟨zs, .inr ⟨_, rfl, hl, hm, by simpa using hz, hcell, hwz⟩⟩
  obtain ⟨a2, len2, cap2, rfl⟩ := okWide_slice Try.underlying23 (hval 2 23 v2 rfl rfl)
  have k2 := h2
  have lt2 : ∀ x ∈ p2, x.block < W.heap.size := by obtain ⟨m, hm⟩ := k2; exact DataW.trod_lt m _ _ _ hm
  obtain ⟨z2, w2⟩ : ∃ zs, IsRow .u8 W a2 len2 cap2 zs := by
    obtain ⟨fuel, hf⟩ := h2
    rcases open_ints Try.underlying23 Try.underlying5 (by kernel_rfl) hf with ⟨hcs, _⟩ | ⟨x, l, c, zs, hcs, _, hl, hm, hz, _, hcell, hwz⟩
    · simp [Value.cells] at hcs
      obtain ⟨rfl, rfl, rfl⟩ := hcs
      exact ⟨[], .inl ⟨rfl, rfl, rfl, rfl⟩⟩
    · simp [Value.cells] at hcs
      obtain ⟨rfl, rfl, rfl⟩ := hcs
      exact ⟨zs, .inr ⟨_, rfl, hl, hm, by simpa using hz, hcell, hwz⟩⟩
  clear hA0 hval0
  refine (walk a0 len0 cap0 z0 a1 len1 cap1 z1 a2 len2 cap2 z2 W w0 w1 w2).mono fun e W' ⟨he, bel⟩ => ?_
  subst he
  exact ⟨_, rfl, _, _, _, [], _, [], hW', trodAll_mk1 (shut_bool Try.underlying4 _), (trodAll_cons_mk (Below.trod laidOut (by kernel_rfl) (of_decide_eq_true (by kernel_rfl)) k0 bel lt0) (trodAll_cons_mk (Below.trod laidOut (by kernel_rfl) (of_decide_eq_true (by kernel_rfl)) k1 bel lt1) (trodAll_cons_mk (Below.trod laidOut (by kernel_rfl) (of_decide_eq_true (by kernel_rfl)) k2 bel lt2) trodAll_mk0))), rfl, bel.frame _, fun h => by cases h⟩

theorem over : Rows.crcThreeRow.holds Try.pinned (OpenSpec.ofChange Rows.crcThreeSpec) :=
  OpenClaim.holds_of_wide 7 Try.f7 rfl rfl rfl rfl rfl rfl rfl ⟨rfl, rfl, rfl, rfl, rfl⟩ rfl rfl rfl rfl rfl (by kernel_rfl) Try.func7 (by kernel_rfl)
    (of_decide_eq_true (by kernel_rfl)) (by unfold Func.isWrapper; first | (rw [if_pos (by decide +kernel)]; kernel_rfl) | (rw [if_neg (by decide +kernel)]; exact ⟨rfl, rfl⟩))
    (fun os started H enc _ => lifted os started H enc)


theorem proved : Rows.CrcThreeSaid := over
end Go.Proofs.Ytfhjkhikgceddaa.crcThree
