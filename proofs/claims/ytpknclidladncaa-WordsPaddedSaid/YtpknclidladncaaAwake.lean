/- The chapter's examples, as the laws begin with them (citadellaw01.awake): it returns true. -/
import Derived.Test.YtpknclidladncaaNumW
import Derived.Test.YtpknclidladncaaCut
import Derived.Test.YtpknclidladncaaPad
import Derived.Deep.RegionHeld3
namespace Go.Proofs.Ytpknclidladncaa
open Go.RowKit
set_option linter.unusedVariables false

theorem numOf_enc {y n : Nat} (h1 : 1 ≤ n) (h8 : n ≤ 8) (hy : y < 256 ^ n) : numOf (enc y n) = y ∧ numOk (enc y n) = true := by
  refine ⟨?_, by simp [numOk, enc_len]; omega⟩
  unfold numOf
  rw [enc_len, if_neg (by omega), num_enc, Nat.mod_eq_of_lt hy]
theorem numOf_back {bs : List UInt8} {n : Nat} (hl : bs.length = n) (h1 : 1 ≤ n) (h8 : n ≤ 8) : numOf bs < 18446744073709551616 ∧ numOk bs = true ∧ enc (numOf bs) n = bs := by
  have e : numOf bs = num bs := by unfold numOf; rw [if_neg (by omega)]
  rw [e, ← hl]
  exact ⟨num_lt8 (by omega), by simp [numOk]; omega, enc_num bs⟩
theorem wrap_pow {n : Nat} (h : n < 8) : ∃ m : Nat, IntKind.u64.wrap ((2 : Int) ^ (8 * n)) = (m : Int) ∧ (1 : Int) ≤ (m : Int) ∧ Hid (m = 256 ^ n) := by
  have h7 : 256 ^ n ≤ 256 ^ 7 := Nat.pow_le_pow_right (by decide) (by omega)
  have e : 256 ^ 7 = 72057594037927936 := by decide
  have h0 : 0 < 256 ^ n := Nat.pow_pos (by decide)
  have hp : ((2 : Int) ^ (8 * n)) = ((256 ^ n : Nat) : Int) := by
    rw [Int.pow_mul, show ((2 : Int) ^ 8) = ((256 : Nat) : Int) from by decide, ← Int.natCast_pow]
  rw [hp]
  generalize 256 ^ n = m at *
  exact ⟨m, by rw [IntKind.wrap_u64]; omega, by omega, Lib.hid rfl⟩
/-- A row of constants, just laid. -/
theorem Rd.lit {w : World} (bs : List UInt8) (vs : List Value) (T : TypeId) (h : bs.map bval = vs) : Rd (w.alloc (.cells vs.toArray T)) (w.heap.size + 1) (some ⟨w.heap.size, 0, none⟩) vs.length bs := by
  subst h
  refine ⟨by simp, fun hn => ⟨w.heap.size, 0, rfl, by omega, fun j hj => ?_⟩⟩
  have hl : j < bs.length := by simpa using hj
  rw [World.cell?_alloc_at _ _ _ _ (by rfl), nth_of_lt hl]
  simp [hl, bval]

theorem chop_ex : chopI 2 [1, 2, 3, 4, 5] = [[1, 2], [3, 4], [5]] := by
  rw [chopI, if_neg (by decide), show (2 : Int).toNat = 2 from rfl, chop_cons (by decide) (by decide), chop_cons (by decide) (by decide), chop_cons (by decide) (by decide)]
  simp [chop_nil]

set_option maxHeartbeats 1000000 in
theorem awake (w : World) : Calls Try.prog 29 #[] w fun e w' => e = .returned (.bool true) ∧ Below w.heap.size w w' := by
  go_enter Try.func29, Try.ntmps29
  go_wp2_with fail
  have B1 := Lib.hid ((Below.refl w.heap.size w).alloc (Nat.le_refl _) (.cells #[.int .u8 1, .int .u8 0] 5))
  refine (wNumber _ 2 2 _ [1, 0] _ (Rd.lit [1, 0] [.int .u8 1, .int .u8 0] _ rfl) (by decide)).mono ?_
  rintro e w1 ⟨rfl, rfl⟩
  rw [show numOf [1, 0] = 256 from by decide, show numOk [1, 0] = true from by decide]
  generalize w.alloc (.cells #[.int .u8 1, .int .u8 0] 5) = w1 at *
  go_wp2_with fail
  refine (wNumber none 0 0 _ [] w1 (Rd.nil _ 0 _) (by decide)).mono ?_
  rintro e w' ⟨rfl, rfl⟩
  rw [show numOf [] = 0 from by decide, show numOk [] = false from by decide]
  go_wp2_with fail
  have B2 := Lib.hid (B1.out.alloc B1.out.size (.cells #[.int .u8 9, .int .u8 0, .int .u8 0, .int .u8 1, .int .u8 0] 5))
  refine (wLoad32 _ 5 5 _ 1 [9, 0, 0, 1, 0] _ (Rd.lit [9, 0, 0, 1, 0] [.int .u8 9, .int .u8 0, .int .u8 0, .int .u8 1, .int .u8 0] _ rfl) (by decide) (by decide) (by decide) (by decide)).mono ?_
  rintro e w' ⟨rfl, rfl⟩
  rw [show loadOf [9, 0, 0, 1, 0] 1 4 = 256 from by decide, show loadOk [9, 0, 0, 1, 0] 1 4 = true from by decide]
  generalize w1.alloc (.cells #[.int .u8 9, .int .u8 0, .int .u8 0, .int .u8 1, .int .u8 0] 5) = w2 at *
  clear B1
  go_wp2_with fail
  have B3 := Lib.hid (B2.out.alloc B2.out.size (.cells #[.int .u8 9, .int .u8 0, .int .u8 0, .int .u8 1, .int .u8 0] 5))
  refine (wLoad32 _ 5 5 _ 2 [9, 0, 0, 1, 0] _ (Rd.lit [9, 0, 0, 1, 0] [.int .u8 9, .int .u8 0, .int .u8 0, .int .u8 1, .int .u8 0] _ rfl) (by decide) (by decide) (by decide) (by decide)).mono ?_
  rintro e w' ⟨rfl, rfl⟩
  rw [show loadOf [9, 0, 0, 1, 0] 2 4 = 0 from by decide, show loadOk [9, 0, 0, 1, 0] 2 4 = false from by decide]
  generalize w2.alloc (.cells #[.int .u8 9, .int .u8 0, .int .u8 0, .int .u8 1, .int .u8 0] 5) = w3 at *
  clear B2
  go_wp2_with fail
  have B4 := Lib.hid (B3.out.alloc B3.out.size (.cells #[.int .u8 1, .int .u8 2, .int .u8 3, .int .u8 4, .int .u8 5] 5))
  have R4 := Lib.hid (Rd.lit (w := w3) [1, 2, 3, 4, 5] [.int .u8 1, .int .u8 2, .int .u8 3, .int .u8 4, .int .u8 5] 5 rfl)
  refine (wCut _ 5 5 2 [1, 2, 3, 4, 5] _ (by simpa using R4.out) (by decide) (by decide) (by decide) (by decide)).mono ?_
  generalize w3.alloc (.cells #[.int .u8 1, .int .u8 2, .int .u8 3, .int .u8 4, .int .u8 5] 5) = w4 at *
  clear R4 B3
  rintro e w5 ⟨A5, n5, c5, vs, rfl, hown5, hO, hbel5⟩
  rw [chop_ex] at hO
  have hS := OwnRows.rdS hown5 hO
  have B5 := Lib.hid (B4.out.trans (hbel5.mono B4.out.size))
  clear hbel5 B4 hO
  obtain rfl : n5 = 3 := hS.1.symm
  obtain ⟨b, o, rfl, hbo, hc⟩ := hS.2 (by decide)
  obtain ⟨P0, m0, d0, hc0, hr0⟩ := hc 0 (by decide)
  obtain ⟨P1, m1, d1, hc1, hr1⟩ := hc 1 (by decide)
  obtain ⟨P2, m2, d2, hc2, hr2⟩ := hc 2 (by decide)
  have R0 := Lib.hid hr0
  have R1 := Lib.hid hr1
  have R2 := Lib.hid hr2
  clear hr0 hr1 hr2 hc hS hown5
  rw [Nat.add_zero] at hc0
  go_wp2_with fail
  have hWA : Below w5.heap.size w5 ((w5.alloc (.cells #[.int .u8 5] 5)).drew) := ((Below.refl _ _).alloc (Nat.le_refl _) _).drew
  have rB : Rd ((w5.alloc (.cells #[.int .u8 5] 5)).drew) (w5.heap.size + 1) (some ⟨w5.heap.size, 0, none⟩) 1 [5] := (Rd.lit (w := w5) [5] [.int .u8 5] 5 rfl).drewN 1
  have S1 := Lib.hid (wSame P2 _ m2 1 d2 1 _ [5] [5] _ ((R2.out.below hWA).more (Nat.le_succ _)) rB)
  have S2 := Lib.hid (wSame P0 P1 m0 m1 d0 d1 _ [1, 2] [3, 4] _ (R0.out.below hWA) (R1.out.below hWA))
  rw [show decide (([5] : List UInt8) = [5]) = true from by decide] at S1
  rw [show decide (([1, 2] : List UInt8) = [3, 4]) = false from by decide] at S2
  have B6 := Lib.hid (B5.out.trans (hWA.mono B5.out.size))
  clear hWA rB R0 R1 R2
  go_region_held3 (fun w' => w'.cell? ⟨b, o, none⟩ = some (.slice P0 m0 d0) ∧ w'.cell? ⟨b, o + 1, none⟩ = some (.slice P1 m1 d1) ∧ w'.cell? ⟨b, o + 2, none⟩ = some (.slice P2 m2 d2)) (go_keep)
    (first | (go_at_call 26; (with_reducible refine S1.out.mono ?_); rintro e w' ⟨rfl, rfl⟩) | (go_at_call 26; (with_reducible refine S2.out.mono ?_); rintro e w' ⟨rfl, rfl⟩))
  generalize (w5.alloc (.cells #[.int .u8 5] 5)).drew = w6 at *
  clear S1 S2 B5 hc0 hc1 hc2
  go_wp2_with fail
  refine (wRow 258 3 w6 (by decide) (by decide) (by decide)).mono ?_
  rintro e w7 ⟨A7, n7, c7, rfl, hown7, hbel7⟩
  have X7 := Lib.hid (Rd.of_own hown7)
  have B7 := Lib.hid (B6.out.trans (hbel7.mono B6.out.size))
  clear hown7 hbel7 B6
  go_wp2_with fail
  have hW8 : Below w7.heap.size w7 (w7.alloc (.cells #[.int .u8 0, .int .u8 1, .int .u8 2] 5)) := (Below.refl _ _).alloc (Nat.le_refl _) _
  have S8 := wSame A7 _ n7 3 c7 3 _ (enc 258 3) [0, 1, 2] _ (X7.out.to hW8 |>.more (by simp)) (Rd.lit (w := w7) [0, 1, 2] [.int .u8 0, .int .u8 1, .int .u8 2] 5 rfl)
  rw [show decide (enc 258 3 = [0, 1, 2]) = true from by decide] at S8
  refine S8.mono ?_
  rintro e w' ⟨rfl, rfl⟩
  have B8 := Lib.hid (B7.out.trans (hW8.mono B7.out.size))
  clear hW8 S8 X7 B7
  generalize w7.alloc (.cells #[.int .u8 0, .int .u8 1, .int .u8 2] 5) = w8 at *
  go_wp2_with fail
  refine (wRow 258 1 w8 (by decide) (by decide) (by decide)).mono ?_
  rintro e w9 ⟨A9, n9, c9, rfl, hown9, hbel9⟩
  have X9 := Lib.hid (Rd.of_own hown9)
  have B9 := Lib.hid (B8.out.trans (hbel9.mono B8.out.size))
  clear hown9 hbel9 B8
  go_wp2_with fail
  have hW10 : Below w9.heap.size w9 (w9.alloc (.cells #[.int .u8 2] 5)) := (Below.refl _ _).alloc (Nat.le_refl _) _
  have S10 := wSame A9 _ n9 1 c9 1 _ (enc 258 1) [2] _ (X9.out.to hW10 |>.more (by simp)) (Rd.lit (w := w9) [2] [.int .u8 2] 5 rfl)
  rw [show decide (enc 258 1 = [2]) = true from by decide] at S10
  refine S10.mono ?_
  rintro e w' ⟨rfl, rfl⟩
  have B10 := Lib.hid (B9.out.trans (hW10.mono B9.out.size))
  clear hW10 S10 X9 B9
  generalize w9.alloc (.cells #[.int .u8 2] 5) = w10 at *
  go_wp2_with fail
  refine (wRowNo 5 0 w10 (by decide)).mono ?_
  rintro e w11 ⟨A11, n11, c11, rfl, hown11, hbel11⟩
  obtain rfl : n11 = 0 := (Rd.of_own hown11).1.symm
  have B11 := Lib.hid (B10.out.trans (hbel11.mono B10.out.size))
  clear hown11 hbel11 B10
  go_wp2_with fail
  have hW12 : Below w11.heap.size w11 (w11.alloc (.cells #[.int .u8 7] 5)) := (Below.refl _ _).alloc (Nat.le_refl _) _
  have B12 := Lib.hid (B11.out.trans (hW12.mono B11.out.size))
  have R12 := Lib.hid (Rd.lit (w := w11) [7] [.int .u8 7] 5 rfl)
  refine (wPadded _ 1 1 3 [7] _ (by simpa using R12.out) (by decide) (by decide) (by decide)).mono ?_
  generalize w11.alloc (.cells #[.int .u8 7] 5) = w12 at *
  clear R12 hW12 B11
  rintro e w13 ⟨A13, n13, c13, rfl, hown13, hbel13⟩
  have X13 := Lib.hid (Rd.of_own hown13)
  have B13 := Lib.hid (B12.out.trans (hbel13.mono B12.out.size))
  clear hown13 hbel13 B12
  go_wp2_with fail
  have hW14 : Below w13.heap.size w13 (w13.alloc (.cells #[.int .u8 7, .int .u8 0, .int .u8 0] 5)) := (Below.refl _ _).alloc (Nat.le_refl _) _
  have S14 := wSame A13 _ n13 3 c13 3 _ (padTo [7] 3) [7, 0, 0] _ (X13.out.to hW14 |>.more (by simp)) (Rd.lit (w := w13) [7, 0, 0] [.int .u8 7, .int .u8 0, .int .u8 0] 5 rfl)
  rw [show decide (padTo [7] 3 = [7, 0, 0]) = true from by decide] at S14
  refine S14.mono ?_
  rintro e w' ⟨rfl, rfl⟩
  have B14 := Lib.hid (B13.out.trans (hW14.mono B13.out.size))
  clear hW14 S14 X13 B13
  generalize w13.alloc (.cells #[.int .u8 7, .int .u8 0, .int .u8 0] 5) = w14 at *
  go_wp2_with fail
  have hV15 : Below (w14.alloc (.cells #[.int .u8 1, .int .u8 9] 5)).heap.size (w14.alloc (.cells #[.int .u8 1, .int .u8 9] 5)) ((w14.alloc (.cells #[.int .u8 1, .int .u8 9] 5)).alloc (.cells #[.int .u8 2] 5)) := (Below.refl _ _).alloc (Nat.le_refl _) _
  have hU15 : Below w14.heap.size w14 (w14.alloc (.cells #[.int .u8 1, .int .u8 9] 5)) := (Below.refl _ _).alloc (Nat.le_refl _) _
  have S15 := wAhead _ _ 2 1 2 1 _ [1, 9] [2] _ (((Rd.lit (w := w14) [1, 9] [.int .u8 1, .int .u8 9] 5 rfl).more (show w14.heap.size + 1 ≤ (w14.alloc (.cells #[.int .u8 1, .int .u8 9] 5)).heap.size by simp)).to hV15 |>.more (by simp)) (Rd.lit (w := (w14.alloc (.cells #[.int .u8 1, .int .u8 9] 5))) [2] [.int .u8 2] 5 rfl)
  rw [show decide (ord [1, 9] [2] < 0) = true from by decide] at S15
  have B15 := Lib.hid ((B14.out.trans (hU15.mono B14.out.size)).trans (hV15.mono (Nat.le_trans B14.out.size hU15.size)))
  refine (by simpa using S15 : Calls _ _ _ _ _).mono ?_
  rintro e w' ⟨rfl, rfl⟩
  clear hV15 hU15 S15 B14
  generalize (w14.alloc (.cells #[.int .u8 1, .int .u8 9] 5)).alloc (.cells #[.int .u8 2] 5) = w15 at *
  go_wp2_with fail
  have hV16 : Below (w15.alloc (.cells #[.int .u8 1] 5)).heap.size (w15.alloc (.cells #[.int .u8 1] 5)) ((w15.alloc (.cells #[.int .u8 1] 5)).alloc (.cells #[.int .u8 1, .int .u8 0] 5)) := (Below.refl _ _).alloc (Nat.le_refl _) _
  have hU16 : Below w15.heap.size w15 (w15.alloc (.cells #[.int .u8 1] 5)) := (Below.refl _ _).alloc (Nat.le_refl _) _
  have S16 := wAhead _ _ 1 2 1 2 _ [1] [1, 0] _ (((Rd.lit (w := w15) [1] [.int .u8 1] 5 rfl).more (show w15.heap.size + 1 ≤ (w15.alloc (.cells #[.int .u8 1] 5)).heap.size by simp)).to hV16 |>.more (by simp)) (Rd.lit (w := (w15.alloc (.cells #[.int .u8 1] 5))) [1, 0] [.int .u8 1, .int .u8 0] 5 rfl)
  rw [show decide (ord [1] [1, 0] < 0) = true from by decide] at S16
  have B16 := Lib.hid ((B15.out.trans (hU16.mono B15.out.size)).trans (hV16.mono (Nat.le_trans B15.out.size hU16.size)))
  refine (by simpa using S16 : Calls _ _ _ _ _).mono ?_
  rintro e w' ⟨rfl, rfl⟩
  clear hV16 hU16 S16 B15
  generalize (w15.alloc (.cells #[.int .u8 1] 5)).alloc (.cells #[.int .u8 1, .int .u8 0] 5) = w16 at *
  go_wp2_with fail
  have hV17 : Below (w16.alloc (.cells #[.int .u8 1, .int .u8 0] 5)).heap.size (w16.alloc (.cells #[.int .u8 1, .int .u8 0] 5)) ((w16.alloc (.cells #[.int .u8 1, .int .u8 0] 5)).alloc (.cells #[.int .u8 1] 5)) := (Below.refl _ _).alloc (Nat.le_refl _) _
  have hU17 : Below w16.heap.size w16 (w16.alloc (.cells #[.int .u8 1, .int .u8 0] 5)) := (Below.refl _ _).alloc (Nat.le_refl _) _
  have S17 := wAhead _ _ 2 1 2 1 _ [1, 0] [1] _ (((Rd.lit (w := w16) [1, 0] [.int .u8 1, .int .u8 0] 5 rfl).more (show w16.heap.size + 1 ≤ (w16.alloc (.cells #[.int .u8 1, .int .u8 0] 5)).heap.size by simp)).to hV17 |>.more (by simp)) (Rd.lit (w := (w16.alloc (.cells #[.int .u8 1, .int .u8 0] 5))) [1] [.int .u8 1] 5 rfl)
  rw [show decide (ord [1, 0] [1] < 0) = false from by decide] at S17
  have B17 := Lib.hid ((B16.out.trans (hU17.mono B16.out.size)).trans (hV17.mono (Nat.le_trans B16.out.size hU17.size)))
  refine (by simpa using S17 : Calls _ _ _ _ _).mono ?_
  rintro e w' ⟨rfl, rfl⟩
  clear hV17 hU17 S17 B16
  generalize (w16.alloc (.cells #[.int .u8 1, .int .u8 0] 5)).alloc (.cells #[.int .u8 1] 5) = w17 at *
  go_wp2_with fail
  go_ret
  exact ⟨rfl, B17.out⟩
end Go.Proofs.Ytpknclidladncaa
