/- Contracts of the program's small functions on words of 32 bits (sha): rotr, turned, shifted, chosen, majority. -/
import Derived.Test.YtopilgedcnbdaaaDoorTz
import Derived.Test.YtopilgedcnbdaaaDoorShaLawA
namespace Go.Proofs.YtopilgedcnbdaaaDoor
set_option maxRecDepth 1000000
set_option maxHeartbeats 8000000
open Go.RowKit
set_option linter.unusedVariables false
theorem low_bits (n : Nat) (h1 : 0 < n) (h2 : n < 32) : bits .and .u64 ((18446744073709551616 - n : Nat) : Int) 31 = ((32 - n : Nat) : Int) := by
 have h := u64_and_nat (18446744073709551616 - n) 31 (by omega) (by decide)
 rw [nat_mask5] at h
 refine h.trans ?_
 congr 1
 omega
theorem wRotl (x n : Nat) (w : World) (hx : x < 4294967296) (h1 : 0 < n) (h2 : n < 32) :
  Calls Tryd.prog 81 #[.int .u32 (x : Int), .int .i64 (-(n : Int))] w fun e w' => e = .returned (.int .u32 (rotr x n : Int)) ∧ w = w' := by
 obtain ⟨c, hc⟩ : ∃ c, c = 18446744073709551616 - n := ⟨_, rfl⟩
 obtain ⟨s, hs⟩ : ∃ s, s = 32 - n := ⟨_, rfl⟩
 have e1 : IntKind.u64.wrap (-(n : Int)) = (c : Int) := by rw [IntKind.wrap_u64]; omega
 have e2 : bits .and .u64 (c : Int) 31 = (s : Int) := by rw [hc, hs]; exact low_bits n h1 h2
 have e3 : (32 : Int) - (s : Int) = (n : Int) := by omega
 have e6 : bits .or .u32 ((x : Int) * 2 ^ s % 4294967296) ((x : Int) / 2 ^ n) = (rotr x n : Int) := by
  have a1 : (x : Int) * 2 ^ s % 4294967296 = ((x * 2 ^ s % 4294967296 : Nat) : Int) := by rw [Int.natCast_emod, Int.natCast_mul, Int.natCast_pow]; rfl
  have a2 : (x : Int) / 2 ^ n = ((x / 2 ^ n : Nat) : Int) := by rw [Int.natCast_ediv, Int.natCast_pow]; rfl
  rw [a1, a2, u32_or_nat _ _ (Nat.mod_lt _ (by decide)) (Nat.lt_of_le_of_lt (Nat.div_le_self _ _) hx), Nat.or_comm, hs, rot_join h2 h1 hx]
 have E6 := qH e6
 clear hc hs e6
 go_enter Tryd.func81, Tryd.ntmps81
 go_wp2
 go_ret
 exact ⟨ret_int E6.out, rfl⟩
theorem wRotr (x n : Nat) {z : Int} (hz : z = (n : Int)) (w : World) (hx : x < 4294967296) (h1 : 0 < n) (h2 : n < 32) :
  Calls Tryd.prog 73 #[.int .u32 (x : Int), .int .i64 z] w fun e w' => e = .returned (.int .u32 (rotr x n : Int)) ∧ w = w' := by
 subst hz
 have e1 : IntKind.i64.wrap (-(n : Int)) = -(n : Int) := IntWalk.i64_in _ (by omega)
 go_enter Tryd.func73, Tryd.ntmps73
 go_wp2_with fail
 refine (wRotl x n w hx h1 h2).mono ?_
 rintro e w' ⟨rfl, rfl⟩
 go_wp2_with fail
 go_ret
 exact ⟨rfl, rfl⟩
theorem wRotrZ {x : Nat} {z : Int} (n : Nat) (hz : z = (n : Int)) (q : Nat) (w : World) (hx : x < 4294967296) (h1 : 0 < n) (h2 : n < 32) :
  Calls Tryd.prog 73 #[.int .u32 (x : Int), .int .i64 z] (w.drewN q) fun e w'' => e = .returned (.int .u32 (rotr x n : Int)) ∧ ∃ m, w'' = w.drewN m :=
 (wRotr x n hz (w.drewN q) hx h1 h2).mono fun _ _ ⟨he, hw⟩ => ⟨he, q, hw.symm⟩
theorem xor3 {a b c : Nat} (ha : a < 4294967296) (hb : b < 4294967296) (hc : c < 4294967296) :
  bits .xor .u32 (bits .xor .u32 (a : Int) (b : Int)) (c : Int) = ((a ^^^ b ^^^ c : Nat) : Int) := u32_xors ha hb hc
theorem wTurned (x i j k : Nat) {zi zj zk : Int} (hi : zi = (i : Int)) (hj : zj = (j : Int)) (hk : zk = (k : Int)) (w : World) (hx : x < 4294967296) (hi1 : 0 < i ∧ i < 32) (hj1 : 0 < j ∧ j < 32) (hk1 : 0 < k ∧ k < 32) :
  Calls Tryd.prog 55 #[.int .u32 (x : Int), .int .i64 zi, .int .i64 zj, .int .i64 zk] w fun e w' => e = .returned (.int .u32 ((rotr x i ^^^ rotr x j ^^^ rotr x k : Nat) : Int)) ∧ w = w' := by
 subst hi; subst hj; subst hk
 go_enter Tryd.func55, Tryd.ntmps55
 go_wp2_with fail
 refine (wRotr x i rfl w hx hi1.1 hi1.2).mono ?_
 rintro e w' ⟨rfl, rfl⟩
 go_wp2_with fail
 refine (wRotr x j rfl w hx hj1.1 hj1.2).mono ?_
 rintro e w' ⟨rfl, rfl⟩
 go_wp2_with fail
 refine (wRotr x k rfl w hx hk1.1 hk1.2).mono ?_
 rintro e w' ⟨rfl, rfl⟩
 go_wp2_with fail
 go_ret
 exact ⟨ret_int (xor3 (rotr_lt _ _) (rotr_lt _ _) (rotr_lt _ _)), rfl⟩
theorem wShifted (x i j k : Nat) {zi zj zk : Int} (hi : zi = (i : Int)) (hj : zj = (j : Int)) (hk : zk = (k : Int)) (w : World) (hx : x < 4294967296) (hi1 : 0 < i ∧ i < 32) (hj1 : 0 < j ∧ j < 32) (hk1 : 0 < k ∧ k < 32) :
  Calls Tryd.prog 72 #[.int .u32 (x : Int), .int .i64 zi, .int .i64 zj, .int .i64 zk] w fun e w' => e = .returned (.int .u32 ((rotr x i ^^^ rotr x j ^^^ x / 2 ^ k : Nat) : Int)) ∧ ∃ q, w' = w.drewN q := by
 subst hi; subst hj; subst hk
 obtain ⟨i1, i2⟩ := hi1
 obtain ⟨j1, j2⟩ := hj1
 go_enter Tryd.func72, Tryd.ntmps72
 go_wp2_with fail
 go_quiet (first | (go_at_call 73; (with_reducible refine wRotrZ i ?_ _ _ hx ?_ ?_) <;> (first | (with_reducible rfl) | assumption)) | (go_at_call 73; (with_reducible refine wRotrZ j ?_ _ _ hx ?_ ?_) <;> (first | (with_reducible rfl) | assumption)))
 have a2 : (x : Int) / 2 ^ k = ((x / 2 ^ k : Nat) : Int) := by rw [Int.natCast_ediv, Int.natCast_pow]; rfl
 go_wp2_with fail
 go_ret
 exact ⟨ret_int (by rw [a2]; exact xor3 (rotr_lt _ _) (rotr_lt _ _) (Nat.lt_of_le_of_lt (Nat.div_le_self _ _) hx)), _, rfl⟩
theorem wChosen (e f g : Nat) (w : World) (he : e < 4294967296) (hf : f < 4294967296) (hg : g < 4294967296) :
  Calls Tryd.prog 56 #[.int .u32 (e : Int), .int .u32 (f : Int), .int .u32 (g : Int)] w fun e' w' => e' = .returned (.int .u32 ((chz e f g : Nat) : Int)) ∧ w = w' := by
 go_enter Tryd.func56, Tryd.ntmps56
 go_wp2
 go_ret
 exact ⟨ret_int (ch_val he hf hg), rfl⟩
theorem maj_or (a b c : Nat) : (a &&& b ||| a &&& c ||| b &&& c) = maj a b c := by
 unfold maj
 apply Nat.eq_of_testBit_eq
 intro i
 simp only [Nat.testBit_or, Nat.testBit_and, Nat.testBit_xor]
 cases a.testBit i <;> cases b.testBit i <;> cases c.testBit i <;> rfl
theorem wMajority (a b c : Nat) (w : World) (ha : a < 4294967296) (hb : b < 4294967296) (hc : c < 4294967296) :
  Calls Tryd.prog 57 #[.int .u32 (a : Int), .int .u32 (b : Int), .int .u32 (c : Int)] w fun e' w' => e' = .returned (.int .u32 ((maj a b c : Nat) : Int)) ∧ w = w' := by
 go_enter Tryd.func57, Tryd.ntmps57
 go_wp2
 go_ret
 refine ⟨ret_int ?_, rfl⟩
 rw [u32_and_nat _ _ ha hb, u32_and_nat _ _ ha hc, u32_and_nat _ _ hb hc, u32_or_nat _ _ (Nat.lt_of_le_of_lt Nat.and_le_left ha) (Nat.lt_of_le_of_lt Nat.and_le_left ha), u32_or_nat _ _ (Nat.or_lt_two_pow (n := 32) (Nat.lt_of_le_of_lt Nat.and_le_left ha) (Nat.lt_of_le_of_lt Nat.and_le_left ha)) (Nat.lt_of_le_of_lt Nat.and_le_left hb), maj_or]
end Go.Proofs.YtopilgedcnbdaaaDoor