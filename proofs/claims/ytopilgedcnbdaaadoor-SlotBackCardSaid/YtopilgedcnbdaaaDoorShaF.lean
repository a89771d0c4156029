/- The program's own constants (sha): Mul64, what is beyond a root, roots by bits. -/
import Derived.Test.YtopilgedcnbdaaaDoorTz
import Derived.Test.YtopilgedcnbdaaaDoorArrAt
import Derived.Lib.Mul64
import Derived.Shelf.Abstract
import Derived.Deep.LoopGhost
namespace Go.Proofs.YtopilgedcnbdaaaDoor
set_option maxRecDepth 1000000
set_option maxHeartbeats 8000000
open Go.RowKit
set_option linter.unusedVariables false
theorem half_prod {a b : Nat} (ha : a < 4294967296) (hb : b < 4294967296) : a * b ≤ 18446744065119617025 :=
 Nat.mul_le_mul (show a ≤ 4294967295 by omega) (show b ≤ 4294967295 by omega)
theorem mask32 {x : Nat} (hx : x < 18446744073709551616) : bits .and .u64 (x : Int) 4294967295 = ((x % 4294967296 : Nat) : Int) := by
 have h := u64_and_nat x 4294967295 hx (by decide)
 rw [Nat.and_two_pow_sub_one_eq_mod x 32] at h
 exact h
theorem halves {x y x1 x0 y1 y0 : Nat} (hx : x = x1 * 4294967296 + x0) (hy : y = y1 * 4294967296 + y0) :
  x * y = x1 * y1 * 18446744073709551616 + (x1 * y0 + x0 * y1) * 4294967296 + x0 * y0 := by
 rw [hx, hy]
 exact Lib.split_mul x1 x0 y1 y0 4294967296
theorem wMul64 (x y : Nat) (w : World) (hx : x < 18446744073709551616) (hy : y < 18446744073709551616) :
  Calls Tryd.prog 49 #[.int .u64 x, .int .u64 y] w fun e w' => e = .returned (.tuple #[.int .u64 ((x * y / 18446744073709551616 : Nat) : Int), .int .u64 ((x * y % 18446744073709551616 : Nat) : Int)]) ∧ w = w' := by
 have m1 := mask32 hx
 have m2 := mask32 hy
 obtain ⟨x0, hx0⟩ : ∃ q, x % 4294967296 = q := ⟨_, rfl⟩
 obtain ⟨x1, hx1⟩ : ∃ q, x / 4294967296 = q := ⟨_, rfl⟩
 obtain ⟨y0, hy0⟩ : ∃ q, y % 4294967296 = q := ⟨_, rfl⟩
 obtain ⟨y1, hy1⟩ : ∃ q, y / 4294967296 = q := ⟨_, rfl⟩
 rw [hx0] at m1
 rw [hy0] at m2
 have d1 : (x : Int) / 4294967296 = (x1 : Int) := by omega
 have d2 : (y : Int) / 4294967296 = (y1 : Int) := by omega
 have hxy := halves (x := x) (y := y) (x1 := x1) (x0 := x0) (y1 := y1) (y0 := y0) (by omega) (by omega)
 have b1 := half_prod (a := x0) (b := y0) (by omega) (by omega)
 have b2 := half_prod (a := x1) (b := y0) (by omega) (by omega)
 have b3 := half_prod (a := x0) (b := y1) (by omega) (by omega)
 have b4 := half_prod (a := x1) (b := y1) (by omega) (by omega)
 have c1 := (Int.natCast_mul x0 y0).symm
 have c2 := (Int.natCast_mul x1 y0).symm
 have c3 := (Int.natCast_mul x0 y1).symm
 have c4 := (Int.natCast_mul x1 y1).symm
 have c5 := (Int.natCast_mul x y).symm
 generalize x0 * y0 = p at *
 generalize x1 * y0 = a at *
 generalize x0 * y1 = b at *
 generalize x1 * y1 = c at *
 generalize x * y = m at *
 obtain ⟨t, ht⟩ : ∃ q, a + p / 4294967296 = q := ⟨_, rfl⟩
 have e1 : (a : Int) + (p : Int) / 4294967296 = (t : Int) := by omega
 have m3 := mask32 (x := t) (by omega)
 obtain ⟨t0, ht0⟩ : ∃ q, t % 4294967296 = q := ⟨_, rfl⟩
 obtain ⟨t1, ht1⟩ : ∃ q, t / 4294967296 = q := ⟨_, rfl⟩
 rw [ht0] at m3
 have d3 : (t : Int) / 4294967296 = (t1 : Int) := by omega
 obtain ⟨s, hs⟩ : ∃ q, t0 + b = q := ⟨_, rfl⟩
 have e2 : (t0 : Int) + (b : Int) = (s : Int) := by omega
 obtain ⟨u, hu⟩ : ∃ q, c + t1 = q := ⟨_, rfl⟩
 have e3 : (c : Int) + (t1 : Int) = (u : Int) := by omega
 obtain ⟨h, hh⟩ : ∃ q, u + s / 4294967296 = q := ⟨_, rfl⟩
 have e4 : (u : Int) + (s : Int) / 4294967296 = (h : Int) := by omega
 have hhi : h = m / 18446744073709551616 := by omega
 have f1 : p < 18446744073709551616 := by omega
 have f2 : a < 18446744073709551616 := by omega
 have f3 : t < 18446744073709551616 := by omega
 have f4 : b < 18446744073709551616 := by omega
 have f5 : s < 18446744073709551616 := by omega
 have f6 : c < 18446744073709551616 := by omega
 have f7 : u < 18446744073709551616 := by omega
 have f8 : h < 18446744073709551616 := by omega
 have H := qH hhi
 clear hx hy hxy b1 b2 b3 b4 ht ht0 ht1 hs hu hh hx0 hx1 hy0 hy1 hhi
 go_enter Tryd.func49, Tryd.ntmps49
 go_wp2
 rw [IntKind.wrap_u64, show (m : Int) % 18446744073709551616 = ((m % 18446744073709551616 : Nat) : Int) from by omega]
 go_ret2
 exact ⟨by rw [← H.out]; rfl, rfl⟩
def sqB (x p : Nat) : Bool := decide (p * 18446744073709551616 < x * x)
def cuB (x p : Nat) : Bool := decide (p * 79228162514264337593543950336 < x * x * x)
theorem wSquare (x p : Nat) (w : World) (hx : x < 34359738368) (hp : p < 4294967296) :
  Calls Tryd.prog 45 #[.int .u64 x, .int .u64 p] w fun e w' => e = .returned (.bool (sqB x p)) ∧ w = w' := by
 have HD : Hid (sqB x p = decide (p * 18446744073709551616 < x * x)) := rfl
 go_enter Tryd.func45, Tryd.ntmps45
 go_wp2_with fail
 refine (wMul64 x x w (by omega) (by omega)).mono ?_
 rintro e w' ⟨rfl, rfl⟩
 generalize x * x = m at *
 have HH : Hid (m = m / 18446744073709551616 * 18446744073709551616 + m % 18446744073709551616) := by show _ = _; omega
 have HL : Hid (m % 18446744073709551616 < 18446744073709551616) := Nat.mod_lt _ (by decide)
 generalize m / 18446744073709551616 = hi at *
 generalize m % 18446744073709551616 = lo at *
 go_wp2_with fail
 all_goals
  go_ret
  refine ⟨ret_bool ?_, rfl⟩
  rw [HD.out]
  have h1 := HH.out
  have h2 := HL.out
  clear HD HH HL
  rw [Bool.eq_iff_iff]
  simp only [Bool.or_eq_true, decide_eq_true_eq, true_iff]
  omega
theorem cube_parts {x hi lo c l2 m : Nat} (hx : x < 34359738368) (hm : x * x = m) (h1 : m = hi * 18446744073709551616 + lo) (h2 : lo < 18446744073709551616) (h3 : lo * x = c * 18446744073709551616 + l2) :
  x * x * x = (hi * x + c) * 18446744073709551616 + l2 ∧ hi * x ≤ 2199023255552 ∧ c ≤ 34359738368 := by
 have hm2 : m ≤ 34359738368 * 34359738368 := by rw [← hm]; exact Nat.mul_le_mul (by omega) (by omega)
 have hh : hi ≤ 64 := by omega
 have hhx : hi * x ≤ 64 * 34359738368 := Nat.mul_le_mul hh (by omega)
 have hlx : lo * x ≤ 18446744073709551616 * 34359738368 := Nat.mul_le_mul (by omega) (by omega)
 refine ⟨?_, by omega, by omega⟩
 rw [hm, h1, Nat.add_mul, Nat.mul_right_comm, h3, Nat.add_mul]
 omega
theorem wCube (x p : Nat) (w : World) (hx : x < 34359738368) (hp : p < 4294967296) :
  Calls Tryd.prog 37 #[.int .u64 x, .int .u64 p] w fun e w' => e = .returned (.bool (cuB x p)) ∧ w = w' := by
 have HD : Hid (cuB x p = decide (p * 79228162514264337593543950336 < x * x * x)) := rfl
 go_enter Tryd.func37, Tryd.ntmps37
 go_wp2_with fail
 refine (wMul64 x x w (by omega) (by omega)).mono ?_
 rintro e w' ⟨rfl, rfl⟩
 obtain ⟨m, hm⟩ : ∃ m, x * x = m := ⟨_, rfl⟩
 have HM := qH hm
 rw [hm]
 clear hm
 have HH : Hid (m = m / 18446744073709551616 * 18446744073709551616 + m % 18446744073709551616) := by show _ = _; omega
 have HL : Hid (m % 18446744073709551616 < 18446744073709551616) := Nat.mod_lt _ (by decide)
 generalize m / 18446744073709551616 = hi at *
 generalize m % 18446744073709551616 = lo at *
 go_wp2_with fail
 refine (wMul64 lo x w HL.out (by omega)).mono ?_
 rintro e w' ⟨rfl, rfl⟩
 obtain ⟨n, hn⟩ : ∃ n, lo * x = n := ⟨_, rfl⟩
 have HN := qH hn
 rw [hn]
 clear hn
 have HG : Hid (n = n / 18446744073709551616 * 18446744073709551616 + n % 18446744073709551616) := by show _ = _; omega
 have HL2 : Hid (n % 18446744073709551616 < 18446744073709551616) := Nat.mod_lt _ (by decide)
 generalize n / 18446744073709551616 = c at *
 generalize n % 18446744073709551616 = l2 at *
 obtain ⟨k1, k2, k3⟩ := cube_parts hx HM.out HH.out HL.out (HN.out.trans HG.out)
 have K := qH k1
 clear k1
 obtain ⟨q, hq⟩ : ∃ q, hi * x = q := ⟨_, rfl⟩
 have e1 : (hi : Int) * (x : Int) = (q : Int) := by rw [← hq]; exact (Int.natCast_mul _ _).symm
 rw [hq] at K k2
 obtain ⟨s, hs⟩ : ∃ s, s = p * 4294967296 := ⟨_, rfl⟩
 have hsh : Op.shift .shl .u64 (p : Int) .u64 32 = pure (.int .u64 (s : Int)) := by
  rw [shift_shl_any _ _ _ _ (by decide), show min (32 : Int).toNat IntKind.u64.bits = 32 from rfl, IntKind.wrap_u64, hs]
  congr 2
  omega
 have HS := qH hs
 clear hq HM HH HL HN HG hs
 go_wp2_with fail
 all_goals
  go_ret
  refine ⟨ret_bool ?_, rfl⟩
  rw [HD.out]
  have h1 := K.out
  have h2 := HL2.out
  have h3 := HS.out
  clear HD K HL2 e1 hx hsh HS
  generalize x * x * x = m3 at *
  rw [Bool.eq_iff_iff]
  simp only [decide_eq_true_eq, true_iff]
  omega
def rootN (beyond : Nat → Bool) : Nat → Nat → Nat
 | 0, r => r
 | n + 1, r => rootN beyond n (if beyond (r ||| 2 ^ n) then r else r ||| 2 ^ n)
def fracN (beyond : Nat → Nat → Bool) (p : Nat) : Nat := rootN (fun x => beyond x p) 35 0 % 4294967296
theorem half_pow (n : Nat) : 2 ^ (n + 1) / 2 = 2 ^ n := by
 rw [Nat.pow_succ]; omega
theorem root_or {r n : Nat} (hr : r < 34359738368) (hn : n < 35) : r ||| 2 ^ n < 34359738368 :=
 Nat.or_lt_two_pow (n := 35) hr (Nat.pow_lt_pow_right (by decide) hn)
theorem pow_bound {n : Nat} (hn : n < 35) : 2 ^ n ≤ 17179869184 := Nat.le_trans (Nat.pow_le_pow_right (by decide) (show n ≤ 34 by omega)) (by decide)
def FracRel (B : Nat → Bool) (X : Nat) (n : Nat) (x b : Value) : Prop :=
 ∃ r c : Nat, n ≤ 35 ∧ x = .int .u64 (r : Int) ∧ b = .int .u64 (c : Int) ∧ c = 2 ^ n / 2 ∧ r < 34359738368 ∧ rootN B n r = X
theorem wFraction (F : Nat) (B : Nat → Nat → Bool) (C : ∀ (x p : Nat) (w : World), x < 34359738368 → p < 4294967296 → Calls Tryd.prog F #[.int .u64 x, .int .u64 p] w fun e w' => e = .returned (.bool (B x p)) ∧ w = w')
  (hF : ∀ args w, (callFunc F args).run Tryd.prog w = .ok (.enter F args) w) (p : Nat) (w : World) (hp : p < 4294967296) :
  Calls Tryd.prog 36 #[.int .u64 p, .func (.func F) #[] #[]] w fun e w' => e = .returned (.int .u32 (fracN B p : Int)) ∧ w = w' := by
 have HC := qH C
 have HX : Hid (fracN B p = rootN (fun x => B x p) 35 0 % 4294967296) := rfl
 clear C
 obtain ⟨X, hX⟩ : ∃ X, rootN (fun x => B x p) 35 0 = X := ⟨_, rfl⟩
 have HR := qH hX
 rw [hX] at HX
 clear hX
 go_enter Tryd.func36, Tryd.ntmps36
 have HFF := qH hF
 go_wp2
 go_loopg [5, 6] 35 (fun n x b wr => FracRel (fun x => B x p) X n x b ∧ wr = w)
 case atStart => exact ⟨⟨0, 17179869184, by decide, rfl, rfl, by decide, by decide, HR.out⟩, rfl⟩
 case round =>
  obtain ⟨⟨r, c, hn, rfl, rfl, hc, hr, hX⟩, rfl⟩ := hrel
  have HRT := qH hX
  have HN := qH hn
  have HC2 := qH hc
  clear hX hn hc
  cases gk with
  | zero =>
   obtain rfl : c = 0 := by rw [HC2.out]
   go_wp2_with fail
   go_ret
   rw [HX.out, ← HRT.out]
   exact ⟨by show Ending.returned (Value.int IntKind.u32 ((r : Int) % 4294967296)) = _; rw [rootN]; exact ret_int (by omega), rfl⟩
  | succ n =>
   have hc2 : c = 2 ^ n := by rw [HC2.out, half_pow]
   have hcb : c ≤ 17179869184 := by rw [hc2]; exact pow_bound (by have := HN.out; omega)
   have hc0 : 0 < c := by rw [hc2]; exact Nat.pow_pos (by decide)
   have hor : bits .or .u64 (r : Int) (c : Int) = ((r ||| c : Nat) : Int) := u64_or_nat _ _ (by omega) (by omega)
   have hx : r ||| c < 34359738368 := by rw [hc2]; exact root_or hr (by have := HN.out; omega)
   have HCN := qH hc2
   have HSH : Hid ((c : Int) / 2 = ((2 ^ n / 2 : Nat) : Int)) := by show _ = _; rw [← hc2]; omega
   clear hc2 HC2
   go_wp2_with fail
   refine (HC.out (r ||| c) p wr hx hp).mono ?_
   rintro e w' ⟨rfl, rfl⟩
   have HST : Hid (rootN (fun x => B x p) (n + 1) r = rootN (fun x => B x p) n (if B (r ||| 2 ^ n) p then r else r ||| 2 ^ n)) := rfl
   rw [← HCN.out] at HST
   generalize B (r ||| c) p = b at *
   cases b
   all_goals
    go_wp2_with fail
    go_roundg n
    case measure => omega
    case rel => exact ⟨⟨_, 2 ^ n / 2, by have := HN.out; omega, rfl, by rw [HSH.out], rfl, by assumption, by rw [← HRT.out, HST.out]; rfl⟩, rfl⟩
theorem wFracSq (p : Nat) (w : World) (hp : p < 4294967296) :
  Calls Tryd.prog 36 #[.int .u64 p, .func (.func 45) #[] #[]] w fun e w' => e = .returned (.int .u32 (fracN sqB p : Int)) ∧ w = w' :=
 wFraction _ sqB (fun x p w hx hp => wSquare x p w hx hp) (enters_of Tryd.func45 (by kernel_rfl) rfl) p w hp
theorem wFracCu (p : Nat) (w : World) (hp : p < 4294967296) :
  Calls Tryd.prog 36 #[.int .u64 p, .func (.func 37) #[] #[]] w fun e w' => e = .returned (.int .u32 (fracN cuB p : Int)) ∧ w = w' :=
 wFraction _ cuB (fun x p w hx hp => wCube x p w hx hp) (enters_of Tryd.func37 (by kernel_rfl) rfl) p w hp
theorem prime_lt (j : Nat) : nx primeL j < 4294967296 := by
 by_cases h : j < 64
 ·have : ∀ j, j < 64 → nx primeL j < 4294967296 := by decide +kernel
  exact this j h
 ·have e : primeL.length ≤ j := by show 64 ≤ j; omega
  simp [nx, List.getD, List.getElem?_eq_none e]
theorem cube_at {j : Nat} (h : j < 64) : fracN cuB (nx primeL j) = nx shaK j := by
 have : ∀ j, j < 64 → fracN cuB (nx primeL j) = nx shaK j := by decide +kernel
 exact this j h
theorem square_at {j : Nat} (h : j < 8) : fracN sqB (nx primeL j) = nx shaF j := by
 have : ∀ j, j < 8 → fracN sqB (nx primeL j) = nx shaF j := by decide +kernel
 exact this j h
end Go.Proofs.YtopilgedcnbdaaaDoor