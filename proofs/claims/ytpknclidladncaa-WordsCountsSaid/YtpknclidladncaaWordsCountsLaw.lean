/- For any two numbers, every n and any three rows of bytes the law WordsCounts of citadellaw01 returns true: rows of one length come in the order of their numbers, and of any two rows just one holds: the one comes ahead, the other does, or they are the same; ahead goes on from one to the next. Conditions: none beyond those that the statement itself prints. -/
import Derived.Test.YtpknclidladncaaRows
import Derived.Test.YtpknclidladncaaAwake
import Derived.WalkKit
import Derived.ProofKit
import Derived.OpenShut
import Derived.ShutString
import Derived.ChangeOld
import Derived.Below
namespace Go.Proofs.Ytpknclidladncaa.wordsCounts
open Go.ChangeShapes Go.WideShapes Go.ChangeAt Go.RowKit
open Go.ChangeMaps (open_string shut_string)
set_option linter.unusedVariables false

theorem own : ownKnob Try.prog.godebug = none := by kernel_rfl
theorem laidOut : laidOutB Try.prog = true := by kernel_rfl

theorem decide_num {n : Nat} (x y : Nat) (h1 : 1 ≤ n) (h8 : n ≤ 8) :
    decide (numOf (enc x n) < numOf (enc y n)) = decide (ord (enc x n) (enc y n) < 0) ∧ decide (numOf (enc x n) = numOf (enc y n)) = decide (enc x n = enc y n) := by
  have e : ∀ z, numOf (enc z n) = num (enc z n) := fun z => by unfold numOf; rw [enc_len, if_neg (by omega)]
  rw [e, e]
  have hl : (enc x n).length = (enc y n).length := by rw [enc_len, enc_len]
  refine ⟨by rw [Bool.eq_iff_iff]; simp only [decide_eq_true_eq]; exact (ord_num hl).symm, by rw [Bool.eq_iff_iff]; simp only [decide_eq_true_eq]; exact ⟨fun h => num_inj hl h, fun h => by rw [h]⟩⟩
theorem three (xs ys : List UInt8) :
    (decide (ord xs ys < 0) = true ∧ decide (ord ys xs < 0) = false ∧ decide (xs = ys) = false ∧ ord xs ys < 0) ∨
    (decide (ord xs ys < 0) = false ∧ decide (ord ys xs < 0) = true ∧ decide (xs = ys) = false) ∨
    (decide (ord xs ys < 0) = false ∧ decide (ord ys xs < 0) = false ∧ decide (xs = ys) = true) := by
  have hs := ord_swap xs ys
  have hz : xs = ys ↔ ord xs ys = 0 := ord_iff.symm
  rcases ord_range xs ys with h | h | h
  · left; simp only [hs, hz, h]; decide
  · right; right; simp only [hs, hz, h]; decide
  · right; left; simp only [hs, hz, h]; decide
set_option maxRecDepth 100000 in
set_option maxHeartbeats 2000000 in
theorem walk (a0 : Int) (a1 : Int) (a2 : Int) (a3 : Option Addr) (len3 cap3 : Nat) (z3 : List Int) (a4 : Option Addr) (len4 cap4 : Nat) (z4 : List Int) (a5 : Option Addr) (len5 cap5 : Nat) (z5 : List Int) (w : World) (w0 : (Lit.int .u64 a0).wf = true) (w1 : (Lit.int .u64 a1).wf = true) (w2 : (Lit.int .i64 a2).wf = true) (w3 : IsRow .u8 w a3 len3 cap3 z3) (w4 : IsRow .u8 w a4 len4 cap4 z4) (w5 : IsRow .u8 w a5 len5 cap5 z5) :
    Calls Try.prog 7 #[.int .u64 a0, .int .u64 a1, .int .i64 a2, .slice a3 len3 cap3, .slice a4 len4 cap4, .slice a5 len5 cap5] w fun e w' => e = .returned (.bool true) ∧ Below w.heap.size w w' := by
  obtain ⟨x, rfl, hx⟩ := wf_u64 w0
  obtain ⟨y, rfl, hy⟩ := wf_u64 w1
  obtain ⟨hn1, hn2⟩ := wf_i64 w2
  obtain ⟨r3, hcap3, hcap3'⟩ := w3.rd
  obtain ⟨r4, hcap4, hcap4'⟩ := w4.rd
  obtain ⟨r5, hcap5, hcap5'⟩ := w5.rd
  generalize bytesIn (z3.take len3) = xs at r3
  generalize bytesIn (z4.take len4) = ys at r4
  generalize bytesIn (z5.take len5) = zs at r5
  clear w0 w1 w2 w3 w4 w5
  have R3 := Lib.hid r3
  have R4 := Lib.hid r4
  have R5 := Lib.hid r5
  clear r3 r4 r5
  by_cases hout : a2 < 1 ∨ 8 < a2 ∨ 100 < len3 ∨ 100 < len4 ∨ 100 < len5
  · go_enter Try.func7, Try.ntmps7
    go_wp2_with fail
    refine (awake w).mono ?_
    rintro e w1 ⟨rfl, hbel1⟩
    have B1 := Lib.hid hbel1
    clear hbel1
    by_cases h1 : a2 < 1
    · go_wp2_with fail
      go_ret
      exact ⟨rfl, B1.out⟩
    by_cases h2 : 8 < a2
    · go_wp2_with fail
      go_ret
      exact ⟨rfl, B1.out⟩
    by_cases h3 : 100 < len3
    · go_wp2_with fail
      go_ret
      exact ⟨rfl, B1.out⟩
    by_cases h4 : 100 < len4
    · go_wp2_with fail
      go_ret
      exact ⟨rfl, B1.out⟩
    have h5 : 100 < len5 := by omega
    go_wp2_with fail
    go_ret
    exact ⟨rfl, B1.out⟩
  · obtain ⟨n, rfl⟩ := Int.eq_ofNat_of_zero_le (show 0 ≤ a2 by omega)
    have hn1' : 1 ≤ n := by omega
    have hn8 : n ≤ 8 := by omega
    have hl3 : len3 ≤ 100 := by omega
    have hl4 : len4 ≤ 100 := by omega
    have hl5 : len5 ≤ 100 := by omega
    clear hout hn1 hn2
    go_enter Try.func7, Try.ntmps7
    go_wp2_with fail
    refine (awake w).mono ?_
    rintro e w1 ⟨rfl, hbel1⟩
    go_wp2_with fail
    refine (wRow x n w1 hx hn1' hn8).mono ?_
    rintro e w2 ⟨A2, n2, c2, rfl, hown2, hbel2⟩
    have X2 := Lib.hid (Rd.of_own hown2)
    clear hown2
    go_wp2_with fail
    refine (wRow y n w2 hy hn1' hn8).mono ?_
    rintro e w3 ⟨A3, n3, c3, rfl, hown3, hbel3⟩
    have X3 := Lib.hid (X2.out.to hbel3)
    have Y3 := Lib.hid (Rd.of_own hown3)
    have HB := (hbel1.trans (hbel2.mono hbel1.size)).trans (hbel3.mono (Nat.le_trans hbel1.size hbel2.size))
    have B3 := Lib.hid HB
    have P3 := Lib.hid (R3.out.to HB)
    have P4 := Lib.hid (R4.out.to HB)
    have P5 := Lib.hid (R5.out.to HB)
    have hb2 : n2 ≤ 8 := by rw [← X3.out.1, enc_len]; exact hn8
    have hb3 : n3 ≤ 8 := by rw [← Y3.out.1, enc_len]; exact hn8
    clear hown3 HB hbel1 hbel2 hbel3 X2
    have HD := Lib.hid (decide_num x y hn1' hn8)
    go_wp2_with fail
    refine (wNumber A2 n2 c2 _ (enc x n) w3 X3.out (by omega)).mono ?_
    rintro e w' ⟨rfl, rfl⟩
    go_wp2_with fail
    refine (wNumber A3 n3 c3 _ (enc y n) w3 Y3.out (by omega)).mono ?_
    rintro e w' ⟨rfl, rfl⟩
    go_wp2_with fail
    refine (wAhead A2 A3 n2 n3 c2 c3 _ (enc x n) (enc y n) w3 X3.out Y3.out).mono ?_
    rintro e w' ⟨rfl, rfl⟩
    have hd := HD.out
    have S := Lib.hid (wSame A2 A3 n2 n3 c2 c3 _ (enc x n) (enc y n) w3 X3.out Y3.out)
    generalize numOf (enc x n) = p at *
    generalize numOf (enc y n) = q at *
    generalize numOk (enc x n) = o1 at *
    generalize numOk (enc y n) = o2 at *
    generalize decide (ord (enc x n) (enc y n) < 0) = b1 at *
    generalize decide (enc x n = enc y n) = b2 at *
    clear HD X3 Y3
    obtain ⟨hd1, hd2⟩ := hd
    have hd3 : ((p : Int) == (q : Int)) = b2 := by rw [← hd2, Bool.eq_iff_iff]; simp; omega
    have hd4 : (p == q) = b2 := by rw [← hd2]; rfl
    go_wp2_with fail
    refine S.out.mono ?_
    rintro e w' ⟨rfl, rfl⟩
    go_wp2_with fail
    clear S hd1 hd2 hd3 hd4
    refine (wAhead a3 a4 len3 len4 cap3 cap4 _ xs ys w3 P3.out P4.out).mono ?_
    rintro e w' ⟨rfl, rfl⟩
    have HT := Lib.hid (three xs ys)
    go_wp2_with fail
    refine (wAhead a4 a3 len4 len3 cap4 cap3 _ ys xs w3 P4.out P3.out).mono ?_
    rintro e w' ⟨rfl, rfl⟩
    go_wp2_with fail
    refine (wSame a3 a4 len3 len4 cap3 cap4 _ xs ys w3 P3.out P4.out).mono ?_
    rintro e w' ⟨rfl, rfl⟩
    rcases HT.out with ⟨h1, h2, h3, h4⟩ | ⟨h1, h2, h3⟩ | ⟨h1, h2, h3⟩
    · rw [h1, h2, h3]
      clear h1 h2 h3 HT
      have H4 := Lib.hid h4
      clear h4
      go_wp2_with fail
      refine (wAhead a4 a5 len4 len5 cap4 cap5 _ ys zs w3 P4.out P5.out).mono ?_
      rintro e w' ⟨rfl, rfl⟩
      by_cases hc : ord ys zs < 0
      · rw [decide_eq_true hc]
        have H5 := Lib.hid (ord_trans xs ys zs H4.out hc)
        clear hc
        go_wp2_with fail
        refine (wAhead a3 a5 len3 len5 cap3 cap5 _ xs zs w3 P3.out P5.out).mono ?_
        rintro e w' ⟨rfl, rfl⟩
        rw [decide_eq_true H5.out]
        go_wp2_with fail
        go_ret
        exact ⟨rfl, B3.out⟩
      · rw [decide_eq_false hc]
        clear hc
        go_wp2_with fail
        go_ret
        exact ⟨rfl, B3.out⟩
    · rw [h1, h2, h3]
      clear h1 h2 h3 HT
      go_wp2_with fail
      go_ret
      exact ⟨rfl, B3.out⟩
    · rw [h1, h2, h3]
      clear h1 h2 h3 HT
      go_wp2_with fail
      go_ret
      exact ⟨rfl, B3.out⟩

set_option maxRecDepth 100000 in
theorem lifted (os : Os) (started : os.Started) (H : Type) (enc : TypeId × Value → H) :
    ReturnsInHanded {} Try.checked os 7 .any (Rows.wordsCountsSpec.pre6 enc Try.prog Try.f7 Rows.wordsCountsRow.domain false) (Rows.wordsCountsSpec.post enc Try.prog Try.f7 false true false false) := by
  refine returnsInHanded_of_change (C := Try.checked) own started (by kernel_rfl) Try.func7
    (ChangeSpec.witness6 (enc := enc) (C := Try.checked) false ⟨#[], #[.int .u64 0, .int .u64 0, .int .i64 0, .slice none 0 0, .slice none 0 0, .slice none 0 0], []⟩ 8 (by kernel_rfl) (by kernel_rfl) (by kernel_rfl) (by kernel_rfl)) ?_
  intro W base args ds gs before hval0 hW hcnd _
  have hval : ∀ (j : Nat) t v, Try.f7.params[j]? = some t → args[j]? = some v → Value.okWide Try.prog W .any base t v := hval0
  have hW' := hW
  obtain ⟨p, q, hA0, hV, rfl, hfz, hnd⟩ := hW
  have hA : DataW.TrodAll enc Try.prog W 0 (fun _ => true) true Try.f7.params.toList args.toList ds p := hA0
  rw [Try.params7] at hA hval
  obtain ⟨v0, vs0, d0, ds0, p0, q0, hargs, rfl, rfl, h0, r0⟩ := trodAll_cons hA
  obtain ⟨v1, vs1, d1, ds1, p1, q1, rfl, rfl, rfl, h1, r1⟩ := trodAll_cons r0
  obtain ⟨v2, vs2, d2, ds2, p2, q2, rfl, rfl, rfl, h2, r2⟩ := trodAll_cons r1
  obtain ⟨v3, vs3, d3, ds3, p3, q3, rfl, rfl, rfl, h3, r3⟩ := trodAll_cons r2
  obtain ⟨v4, vs4, d4, ds4, p4, q4, rfl, rfl, rfl, h4, r4⟩ := trodAll_cons r3
  obtain ⟨v5, vs5, d5, ds5, p5, q5, rfl, rfl, rfl, h5, r5⟩ := trodAll_cons r4
  obtain ⟨rfl, rfl, rfl⟩ := trodAll_nil r5
  obtain rfl : args = #[v0, v1, v2, v3, v4, v5] := by cases args; simp_all
  obtain ⟨rfl, rfl⟩ := trodVars_none hV
  obtain ⟨a0, rfl, rfl, rfl, w0⟩ := open_int Try.underlying22 (hval 0 22 v0 rfl rfl) h0
  obtain ⟨a1, rfl, rfl, rfl, w1⟩ := open_int Try.underlying22 (hval 1 22 v1 rfl rfl) h1
  obtain ⟨a2, rfl, rfl, rfl, w2⟩ := open_int Try.underlying3 (hval 2 3 v2 rfl rfl) h2
  obtain ⟨a3, len3, cap3, rfl⟩ := okWide_slice Try.underlying23 (hval 3 23 v3 rfl rfl)
  have k3 := h3
  have lt3 : ∀ x ∈ p3, x.block < W.heap.size := by obtain ⟨m, hm⟩ := k3; exact DataW.trod_lt m _ _ _ hm
  obtain ⟨z3, w3⟩ : ∃ zs, IsRow .u8 W a3 len3 cap3 zs := by
    obtain ⟨fuel, hf⟩ := h3
    rcases open_ints Try.underlying23 Try.underlying5 (by kernel_rfl) hf with ⟨hcs, _⟩ | ⟨x, l, c, zs, hcs, _, hl, hm, hz, _, hcell, hwz⟩
    · simp [Value.cells] at hcs
      obtain ⟨rfl, rfl, rfl⟩ := hcs
      exact ⟨[], .inl ⟨rfl, rfl, rfl, rfl⟩⟩
    · simp [Value.cells] at hcs
      obtain ⟨rfl, rfl, rfl⟩ := hcs
      exact ⟨zs, .inr ⟨_, rfl, hl, hm, by simpa using hz, hcell, hwz⟩⟩
  obtain ⟨a4, len4, cap4, rfl⟩ := okWide_slice Try.underlying23 (hval 4 23 v4 rfl rfl)
  have k4 := h4
  have lt4 : ∀ x ∈ p4, x.block < W.heap.size := by obtain ⟨m, hm⟩ := k4; exact DataW.trod_lt m _ _ _ hm
  obtain ⟨z4, w4⟩ : ∃ zs, IsRow .u8 W a4 len4 cap4 zs := by
    obtain ⟨fuel, hf⟩ := h4
    rcases open_ints Try.underlying23 Try.underlying5 (by kernel_rfl) hf with ⟨hcs, _⟩ | ⟨x, l, c, zs, hcs, _, hl, hm, hz, _, hcell, hwz⟩
    · simp [Value.cells] at hcs
      obtain ⟨rfl, rfl, rfl⟩ := hcs
      exact ⟨[], .inl ⟨rfl, rfl, rfl, rfl⟩⟩
    · simp [Value.cells] at hcs
      obtain ⟨rfl, rfl, rfl⟩ := hcs
      exact ⟨zs, .inr ⟨_, rfl, hl, hm, by simpa using hz, hcell, hwz⟩⟩
  obtain ⟨a5, len5, cap5, rfl⟩ := okWide_slice Try.underlying23 (hval 5 23 v5 rfl rfl)
  have k5 := h5
  have lt5 : ∀ x ∈ p5, x.block < W.heap.size := by obtain ⟨m, hm⟩ := k5; exact DataW.trod_lt m _ _ _ hm
  obtain ⟨z5, w5⟩ : ∃ zs, IsRow .u8 W a5 len5 cap5 zs := by
    obtain ⟨fuel, hf⟩ := h5
    rcases open_ints Try.underlying23 Try.underlying5 (by kernel_rfl) hf with ⟨hcs, _⟩ | ⟨x, l, c, zs, hcs, _, hl, hm, hz, _, hcell, hwz⟩
    · simp [Value.cells] at hcs
      obtain ⟨rfl, rfl, rfl⟩ := hcs
      exact ⟨[], .inl ⟨rfl, rfl, rfl, rfl⟩⟩
    · simp [Value.cells] at hcs
      obtain ⟨rfl, rfl, rfl⟩ := hcs
      exact ⟨zs, .inr ⟨_, rfl, hl, hm, by simpa using hz, hcell, hwz⟩⟩
  clear hA0 hval0
  refine (walk a0 a1 a2 a3 len3 cap3 z3 a4 len4 cap4 z4 a5 len5 cap5 z5 W w0 w1 w2 w3 w4 w5).mono fun e W' ⟨he, bel⟩ => ?_
  subst he
  exact ⟨_, rfl, _, _, _, [], _, [], hW', trodAll_mk1 (shut_bool Try.underlying4 _), (trodAll_cons_mk (shut_int Try.underlying22 w0) (trodAll_cons_mk (shut_int Try.underlying22 w1) (trodAll_cons_mk (shut_int Try.underlying3 w2) (trodAll_cons_mk (Below.trod laidOut (by kernel_rfl) (of_decide_eq_true (by kernel_rfl)) k3 bel lt3) (trodAll_cons_mk (Below.trod laidOut (by kernel_rfl) (of_decide_eq_true (by kernel_rfl)) k4 bel lt4) (trodAll_cons_mk (Below.trod laidOut (by kernel_rfl) (of_decide_eq_true (by kernel_rfl)) k5 bel lt5) trodAll_mk0)))))), rfl, bel.frame _, fun h => by cases h⟩

theorem over : Rows.wordsCountsRow.holds Try.pinned (OpenSpec.ofChange Rows.wordsCountsSpec) :=
  OpenClaim.holds_of_wide 7 Try.f7 rfl rfl rfl rfl rfl rfl rfl ⟨rfl, rfl, rfl, rfl, rfl⟩ rfl rfl rfl rfl rfl (by kernel_rfl) Try.func7 (by kernel_rfl)
    (of_decide_eq_true (by kernel_rfl)) (by unfold Func.isWrapper; first | (rw [if_pos (by decide +kernel)]; kernel_rfl) | (rw [if_neg (by decide +kernel)]; exact ⟨rfl, rfl⟩))
    (fun os started H enc _ => lifted os started H enc)


theorem proved : Rows.WordsCountsSaid := over
end Go.Proofs.Ytpknclidladncaa.wordsCounts
