/- For any three rows of bytes the law WordsOrder of citadellaw01 returns true: Cat, Same and Ahead answer as the document's own functions do, and what Cat hands back is the caller's own. Conditions: none beyond those that the statement itself prints. -/
import Derived.Test.YtpknclidladncaaRows
import Derived.Test.YtpknclidladncaaBytes
import Derived.WalkKit
import Derived.ProofKit
import Derived.OpenShut
import Derived.ShutString
import Derived.ChangeOld
import Derived.Below
namespace Go.Proofs.Ytpknclidladncaa.wordsOrder
open Go.ChangeShapes Go.WideShapes Go.ChangeAt Go.RowKit
open Go.ChangeMaps (open_string shut_string)
set_option linter.unusedVariables false

theorem own : ownKnob Try.prog.godebug = none := by kernel_rfl
theorem laidOut : laidOutB Try.prog = true := by kernel_rfl

/-- The round that raises each byte of a row. -/
def IncRel (B n c : Nat) (A : Option Addr) (w : World) (i : Value) (wr : World) : Prop :=
  ∃ (k : Nat) (bs : List UInt8), k ≤ n ∧ i = .int .i64 (k : Int) ∧ wr.ownsRow B 5 1 (.slice A n c) n (bs.map bval) ∧ Below B w wr
set_option maxRecDepth 100000 in
set_option maxHeartbeats 2000000 in
theorem walk (a0 : Option Addr) (len0 cap0 : Nat) (z0 : List Int) (a1 : Option Addr) (len1 cap1 : Nat) (z1 : List Int) (a2 : Option Addr) (len2 cap2 : Nat) (z2 : List Int) (w : World) (w0 : IsRow .u8 w a0 len0 cap0 z0) (w1 : IsRow .u8 w a1 len1 cap1 z1) (w2 : IsRow .u8 w a2 len2 cap2 z2) :
    Calls Try.prog 5 #[.slice a0 len0 cap0, .slice a1 len1 cap1, .slice a2 len2 cap2] w fun e w' => e = .returned (.bool true) ∧ Below w.heap.size w w' := by
  obtain ⟨r0, hcap0, hcap0'⟩ := w0.rd
  obtain ⟨r1, hcap1, hcap1'⟩ := w1.rd
  obtain ⟨r2, hcap2, hcap2'⟩ := w2.rd
  generalize bytesIn (z0.take len0) = xs at r0
  generalize bytesIn (z1.take len1) = ys at r1
  generalize bytesIn (z2.take len2) = zs at r2
  clear w0 w1 w2
  have R0 := Lib.hid r0
  have R1 := Lib.hid r1
  have R2 := Lib.hid r2
  clear r0 r1 r2
  by_cases hb0 : 1000 < len0
  · go_enter Try.func5, Try.ntmps5
    go_wp2
    go_ret
    exact ⟨rfl, Below.refl _ _⟩
  by_cases hb1 : 1000 < len1
  · go_enter Try.func5, Try.ntmps5
    go_wp2
    go_ret
    exact ⟨rfl, Below.refl _ _⟩
  by_cases hb2 : 1000 < len2
  · go_enter Try.func5, Try.ntmps5
    go_wp2
    go_ret
    exact ⟨rfl, Below.refl _ _⟩
  go_enter Try.func5, Try.ntmps5
  go_wp2_with fail
  refine (refCopy a0 len0 cap0 xs w R0.out (by omega)).mono ?_
  rintro e w1 ⟨A1, n1, c1, rfl, hown1, hbel1⟩
  have X1 := Lib.hid (Rd.of_own hown1)
  have S1 := Lib.hid (R1.out.to hbel1)
  have hn1 : n1 ≤ 1000 := by rw [← X1.out.1, R0.out.1]; omega
  clear hown1
  go_wp2_with fail
  refine (refCopy a1 len1 cap1 ys w1 S1.out (by omega)).mono ?_
  rintro e w2 ⟨A2, n2, c2, rfl, hown2, hbel2⟩
  have HB2 := hbel1.trans (hbel2.mono hbel1.size)
  have X2 := Lib.hid (X1.out.to hbel2)
  have Y2 := Lib.hid (Rd.of_own hown2)
  have hn2 : n2 ≤ 1000 := by rw [← Y2.out.1, S1.out.1]; omega
  have B2 := Lib.hid HB2
  clear hown2 hbel2 hbel1 HB2 X1 S1
  go_wp2_with fail
  have S3 := Lib.hid (RdS.lit (w := w2) [.slice A1 n1 c1, .slice A2 n2 c2, .slice a2 len2 cap2] 23 [xs, ys, zs] rfl (fun j hj => by
    rcases j with _ | _ | _ | j
    · exact ⟨_, _, _, rfl, X2.out⟩
    · exact ⟨_, _, _, rfl, Y2.out⟩
    · exact ⟨_, _, _, rfl, R2.out.to B2.out |>.more (Nat.le_refl _)⟩
    · simp at hj; omega))
  have B3 := Lib.hid (B2.out.alloc B2.out.size (.cells #[.slice A1 n1 c1, .slice A2 n2 c2, .slice a2 len2 cap2] 23))
  have hB3 : Below w2.heap.size w2 (w2.alloc (.cells #[.slice A1 n1 c1, .slice A2 n2 c2, .slice a2 len2 cap2] 23)) := (Below.refl _ _).alloc (Nat.le_refl _) _
  have X3 := Lib.hid (X2.out.to hB3)
  have Y3 := Lib.hid (Y2.out.to hB3)
  clear hB3 B2 X2 Y2
  have hflat : [xs, ys, zs].flatten = xs ++ ys ++ zs := by simp
  have HF := Lib.hid hflat
  clear hflat
  have hlen : (xs ++ ys ++ zs).length ≤ 3000 := by
    have h1 := R0.out.1; have h2 := R1.out.1; have h3 := R2.out.1
    simp only [List.length_append]; omega
  refine (wCat _ 3 3 [xs, ys, zs] _ (by have := S3.out; simpa using this) (by decide) (by rw [HF.out]; omega)).mono ?_
  generalize w2.alloc (.cells #[.slice A1 n1 c1, .slice A2 n2 c2, .slice a2 len2 cap2] 23) = w3 at *
  rintro e w4 ⟨A4, n4, c4, rfl, hown4, hbel4⟩
  rw [HF.out] at hown4
  have hn4 : n4 ≤ 3000 := by rw [← (Rd.of_own hown4).1]; exact hlen
  have X4 := Lib.hid (X3.out.below hbel4)
  have Y4 := Lib.hid (Y3.out.below hbel4)
  have B4 := Lib.hid (B3.out.trans (hbel4.mono B3.out.size))
  have hs3 : w.heap.size ≤ w3.heap.size := B3.out.size
  have hs4 : w3.heap.size ≤ w4.heap.size := hbel4.size
  have O4 := Lib.hid hown4
  clear hown4 hbel4 B3 X3 Y3 S3
  have Z4 := Lib.hid (Rd.of_own O4.out)
  have P4 := Lib.hid (R0.out.to B4.out)
  have Q4 := Lib.hid (R1.out.to B4.out)
  have T4 := Lib.hid (R2.out.to B4.out)
  go_wp2_with fail
  refine (refCat a0 a1 len0 len1 cap0 cap1 xs ys w4 P4.out Q4.out (by omega)).mono ?_
  rintro e w5 ⟨A5, n5, c5, rfl, hown5, hbel5⟩
  have V5 := Lib.hid (Rd.of_own hown5)
  have T5 := Lib.hid (T4.out.to hbel5)
  have Z5 := Lib.hid (Z4.out.to hbel5)
  have hn5 : n5 ≤ 3000 := by rw [← V5.out.1]; simp only [List.length_append] at hlen ⊢; omega
  clear hown5
  go_wp2_with fail
  refine (refCat A5 a2 n5 len2 c5 cap2 (xs ++ ys) zs w5 V5.out T5.out (by omega)).mono ?_
  rintro e w6 ⟨A6, n6, c6, rfl, hown6, hbel6⟩
  have V6 := Lib.hid (Rd.of_own hown6)
  have Z6 := Lib.hid (Z5.out.to hbel6)
  have hn6 : n6 ≤ 3000 := by rw [← V6.out.1]; exact hlen
  clear hown6
  go_wp2_with fail
  refine (refSameT A4 A6 n4 n6 c4 c6 _ (xs ++ ys ++ zs) (xs ++ ys ++ zs) w6 rfl Z6.out V6.out (by omega) (by omega)).mono ?_
  rintro e w7 ⟨rfl, hq⟩
  have B7 : Hid (Below w4.heap.size w4 w7) := by
    obtain ⟨q, rfl⟩ := hq
    exact below_drewN (hbel5.trans (hbel6.mono hbel5.size)) q
  clear hq hbel5 hbel6 V5 V6 T4 T5 Z4 Z5 Z6 HF
  have O7 := Lib.hid (own_below O4.out B7.out)
  have X7 := Lib.hid (X4.out.below (B7.out.mono hs4))
  have Y7 := Lib.hid (Y4.out.below (B7.out.mono hs4))
  have C7 := Lib.hid (B4.out.trans (B7.out.mono (Nat.le_trans hs3 hs4)))
  have hs7 : w3.heap.size ≤ w7.heap.size := Nat.le_trans hs4 B7.out.size
  clear O4 X4 Y4 B4 B7 P4 Q4
  go_wp2_with fail
  go_loopw [10] (fun i wr => IncRel w3.heap.size n4 c4 A4 w7 i wr) (fun i _ => n4 - (intOf i).toNat)
  case atStart => exact ⟨0, _, Nat.zero_le _, rfl, O7.out, Below.refl _ _⟩
  case round =>
    obtain ⟨k, bs, hk, rfl, hown, hbel⟩ := hrel
    by_cases hlt : k < n4
    · obtain ⟨g, rfl, hg⟩ := own_head hown (by omega)
      obtain ⟨hcell, hfr⟩ := own_cell (j := k) hown hlt
      go_wp2
      go_roundw
      case rel =>
        obtain ⟨h1, h2⟩ := own_set (j := k) hown hbel _ (u8_inc (nth bs k)) hg
        exact ⟨k + 1, _, by omega, by go_num, h1, h2⟩
      case measure => simp [intOf]; omega
    · obtain rfl : k = n4 := by omega
      have XX := Lib.hid ((X7.out.below hbel).more (Nat.le_trans hs7 hbel.size))
      have YY := Lib.hid ((Y7.out.below hbel).more (Nat.le_trans hs7 hbel.size))
      have CC := Lib.hid (C7.out.trans (hbel.mono hs3))
      clear hown hbel X7 Y7 O7 C7
      have AA := Lib.hid (R0.out.to CC.out)
      have BB := Lib.hid (R1.out.to CC.out)
      go_wp2_with fail
      refine (wSame A1 A2 n1 n2 c1 c2 _ xs ys wr XX.out YY.out).mono ?_
      rintro e w' ⟨rfl, rfl⟩
      go_wp2_with fail
      refine (refSame a0 a1 len0 len1 cap0 cap1 _ xs ys wr AA.out BB.out (by omega) (by omega)).mono ?_
      rintro e w8 ⟨rfl, hq⟩
      have D8 : Hid (Below wr.heap.size wr w8) := by obtain ⟨q, rfl⟩ := hq; exact below_drewN (Below.refl _ _) q
      clear hq
      have X8 := Lib.hid (XX.out.to D8.out)
      have Y8 := Lib.hid (YY.out.to D8.out)
      have A8 := Lib.hid (AA.out.to D8.out)
      have B8 := Lib.hid (BB.out.to D8.out)
      have C8 := Lib.hid (CC.out.trans (D8.out.mono CC.out.size))
      clear XX YY AA BB CC D8
      generalize decide (xs = ys) = s
      go_wp2_with fail
      refine (wAhead A1 A2 n1 n2 c1 c2 _ xs ys w8 X8.out Y8.out).mono ?_
      rintro e w' ⟨rfl, rfl⟩
      go_wp2_with fail
      refine (refAhead a0 a1 len0 len1 cap0 cap1 _ xs ys w8 A8.out B8.out (by omega) (by omega)).mono ?_
      rintro e w9 ⟨rfl, hq⟩
      have D9 : Hid (Below w8.heap.size w8 w9) := by obtain ⟨q, rfl⟩ := hq; exact below_drewN (Below.refl _ _) q
      clear hq
      have X9 := Lib.hid (X8.out.to D9.out)
      have Y9 := Lib.hid (Y8.out.to D9.out)
      have A9 := Lib.hid (A8.out.to D9.out)
      have B9 := Lib.hid (B8.out.to D9.out)
      have C9 := Lib.hid (C8.out.trans (D9.out.mono C8.out.size))
      clear X8 Y8 A8 B8 C8 D9
      generalize decide (ord xs ys < 0) = s2
      go_wp2_with fail
      refine (wAhead A2 A1 n2 n1 c2 c1 _ ys xs w9 Y9.out X9.out).mono ?_
      rintro e w' ⟨rfl, rfl⟩
      go_wp2_with fail
      refine (refAhead a1 a0 len1 len0 cap1 cap0 _ ys xs w9 B9.out A9.out (by omega) (by omega)).mono ?_
      rintro e w10 ⟨rfl, hq⟩
      have D10 : Hid (Below w9.heap.size w9 w10) := by obtain ⟨q, rfl⟩ := hq; exact below_drewN (Below.refl _ _) q
      clear hq
      have X10 := Lib.hid (X9.out.to D10.out)
      have Y10 := Lib.hid (Y9.out.to D10.out)
      have A10 := Lib.hid (A9.out.to D10.out)
      have B10 := Lib.hid (B9.out.to D10.out)
      have C10 := Lib.hid (C9.out.trans (D10.out.mono C9.out.size))
      clear X9 Y9 A9 B9 C9 D10
      generalize decide (ord ys xs < 0) = s3
      go_wp2_with fail
      refine (refSameT A1 a0 n1 len0 c1 cap0 _ xs xs w10 rfl X10.out A10.out (by omega) (by omega)).mono ?_
      rintro e w11 ⟨rfl, hq⟩
      have D11 : Hid (Below w10.heap.size w10 w11) := by obtain ⟨q, rfl⟩ := hq; exact below_drewN (Below.refl _ _) q
      clear hq
      have Y11 := Lib.hid (Y10.out.to D11.out)
      have B11 := Lib.hid (B10.out.to D11.out)
      have C11 := Lib.hid (C10.out.trans (D11.out.mono C10.out.size))
      clear X10 Y10 A10 B10 C10 D11
      go_wp2_with fail
      refine (refSameT A2 a1 n2 len1 c2 cap1 _ ys ys w11 rfl Y11.out B11.out (by omega) (by omega)).mono ?_
      rintro e w12 ⟨rfl, hq⟩
      have C12 : Hid (Below w.heap.size w w12) := by obtain ⟨q, rfl⟩ := hq; exact below_drewN C11.out q
      clear hq Y11 B11 C11
      go_wp2_with fail
      refine (wCat none 0 0 [] w12 (RdS.nil _ _ _) (by decide) (by decide)).mono ?_
      rintro e w13 ⟨A13, n13, c13, rfl, hown13, hbel13⟩
      obtain rfl : n13 = 0 := (Rd.of_own hown13).1.symm
      have C13 := Lib.hid (C12.out.trans (hbel13.mono C12.out.size))
      clear hown13 hbel13 C12
      go_wp2_with fail
      go_ret
      exact ⟨rfl, C13.out⟩

set_option maxRecDepth 100000 in
theorem lifted (os : Os) (started : os.Started) (H : Type) (enc : TypeId × Value → H) :
    ReturnsInHanded {} Try.checked os 5 .any (Rows.wordsOrderSpec.pre6 enc Try.prog Try.f5 Rows.wordsOrderRow.domain false) (Rows.wordsOrderSpec.post enc Try.prog Try.f5 false true false false) := by
  refine returnsInHanded_of_change (C := Try.checked) own started (by kernel_rfl) Try.func5
    (ChangeSpec.witness6 (enc := enc) (C := Try.checked) false ⟨#[], #[.slice none 0 0, .slice none 0 0, .slice none 0 0], []⟩ 8 (by kernel_rfl) (by kernel_rfl) (by kernel_rfl) (by kernel_rfl)) ?_
  intro W base args ds gs before hval0 hW hcnd _
  have hval : ∀ (j : Nat) t v, Try.f5.params[j]? = some t → args[j]? = some v → Value.okWide Try.prog W .any base t v := hval0
  have hW' := hW
  obtain ⟨p, q, hA0, hV, rfl, hfz, hnd⟩ := hW
  have hA : DataW.TrodAll enc Try.prog W 0 (fun _ => true) true Try.f5.params.toList args.toList ds p := hA0
  rw [Try.params5] at hA hval
  obtain ⟨v0, vs0, d0, ds0, p0, q0, hargs, rfl, rfl, h0, r0⟩ := trodAll_cons hA
  obtain ⟨v1, vs1, d1, ds1, p1, q1, rfl, rfl, rfl, h1, r1⟩ := trodAll_cons r0
  obtain ⟨v2, vs2, d2, ds2, p2, q2, rfl, rfl, rfl, h2, r2⟩ := trodAll_cons r1
  obtain ⟨rfl, rfl, rfl⟩ := trodAll_nil r2
  obtain rfl : args = #[v0, v1, v2] := by cases args; simp_all
  obtain ⟨rfl, rfl⟩ := trodVars_none hV
  obtain ⟨a0, len0, cap0, rfl⟩ := okWide_slice Try.underlying23 (hval 0 23 v0 rfl rfl)
  have k0 := h0
  have lt0 : ∀ x ∈ p0, x.block < W.heap.size := by obtain ⟨m, hm⟩ := k0; exact DataW.trod_lt m _ _ _ hm
  obtain ⟨z0, w0⟩ : ∃ zs, IsRow .u8 W a0 len0 cap0 zs := by
    obtain ⟨fuel, hf⟩ := h0
    rcases open_ints Try.underlying23 Try.underlying5 (by kernel_rfl) hf with ⟨hcs, _⟩ | ⟨x, l, c, zs, hcs, _, hl, hm, hz, _, hcell, hwz⟩
    · simp [Value.cells] at hcs
      obtain ⟨rfl, rfl, rfl⟩ := hcs
      exact ⟨[], .inl ⟨rfl, rfl, rfl, rfl⟩⟩
    · simp [Value.cells] at hcs
      obtain ⟨rfl, rfl, rfl⟩ := hcs
      exact ⟨zs, .inr ⟨_, rfl, hl, hm, by simpa using hz, hcell, hwz⟩⟩
  obtain ⟨a1, len1, cap1, rfl⟩ := okWide_slice Try.underlying23 (hval 1 23 v1 rfl rfl)
  have k1 := h1
  have lt1 : ∀ x ∈ p1, x.block < W.heap.size := by obtain ⟨m, hm⟩ := k1; exact DataW.trod_lt m _ _ _ hm
  obtain ⟨z1, w1⟩ : ∃ zs, IsRow .u8 W a1 len1 cap1 zs := by
    obtain ⟨fuel, hf⟩ := h1
    rcases open_ints Try.underlying23 Try.underlying5 (by kernel_rfl) hf with ⟨hcs, _⟩ | ⟨x, l, c, zs, hcs, _, hl, hm, hz, _, hcell, hwz⟩
    · simp [Value.cells] at hcs
      obtain ⟨rfl, rfl, rfl⟩ := hcs
      exact ⟨[], .inl ⟨rfl, rfl, rfl, rfl⟩⟩
    · simp [Value.cells] at hcs
      obtain ⟨rfl, rfl, rfl⟩ := hcs
      exact ⟨zs, .inr ⟨_, rfl, hl, hm, by simpa using hz, hcell, hwz⟩⟩
  obtain ⟨a2, len2, cap2, rfl⟩ := okWide_slice Try.underlying23 (hval 2 23 v2 rfl rfl)
  have k2 := h2
  have lt2 : ∀ x ∈ p2, x.block < W.heap.size := by obtain ⟨m, hm⟩ := k2; exact DataW.trod_lt m _ _ _ hm
  obtain ⟨z2, w2⟩ : ∃ zs, IsRow .u8 W a2 len2 cap2 zs := by
    obtain ⟨fuel, hf⟩ := h2
    rcases open_ints Try.underlying23 Try.underlying5 (by kernel_rfl) hf with ⟨hcs, _⟩ | ⟨x, l, c, zs, hcs, _, hl, hm, hz, _, hcell, hwz⟩
    · simp [Value.cells] at hcs
      obtain ⟨rfl, rfl, rfl⟩ := hcs
      exact ⟨[], .inl ⟨rfl, rfl, rfl, rfl⟩⟩
    · simp [Value.cells] at hcs
      obtain ⟨rfl, rfl, rfl⟩ := hcs
      exact ⟨zs, .inr ⟨_, rfl, hl, hm, by simpa using hz, hcell, hwz⟩⟩
  clear hA0 hval0
  refine (walk a0 len0 cap0 z0 a1 len1 cap1 z1 a2 len2 cap2 z2 W w0 w1 w2).mono fun e W' ⟨he, bel⟩ => ?_
  subst he
  exact ⟨_, rfl, _, _, _, [], _, [], hW', trodAll_mk1 (shut_bool Try.underlying4 _), (trodAll_cons_mk (Below.trod laidOut (by kernel_rfl) (of_decide_eq_true (by kernel_rfl)) k0 bel lt0) (trodAll_cons_mk (Below.trod laidOut (by kernel_rfl) (of_decide_eq_true (by kernel_rfl)) k1 bel lt1) (trodAll_cons_mk (Below.trod laidOut (by kernel_rfl) (of_decide_eq_true (by kernel_rfl)) k2 bel lt2) trodAll_mk0))), rfl, bel.frame _, fun h => by cases h⟩

theorem over : Rows.wordsOrderRow.holds Try.pinned (OpenSpec.ofChange Rows.wordsOrderSpec) :=
  OpenClaim.holds_of_wide 5 Try.f5 rfl rfl rfl rfl rfl rfl rfl ⟨rfl, rfl, rfl, rfl, rfl⟩ rfl rfl rfl rfl rfl (by kernel_rfl) Try.func5 (by kernel_rfl)
    (of_decide_eq_true (by kernel_rfl)) (by unfold Func.isWrapper; first | (rw [if_pos (by decide +kernel)]; kernel_rfl) | (rw [if_neg (by decide +kernel)]; exact ⟨rfl, rfl⟩))
    (fun os started H enc _ => lifted os started H enc)


theorem proved : Rows.WordsOrderSaid := over
end Go.Proofs.Ytpknclidladncaa.wordsOrder
