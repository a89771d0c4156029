/- The program's own constants (sha): Mul64, what is beyond a root, roots by bits. -/
import Derived.Test.YtbgcnhhdgnalgaaDoorArrAt
import Derived.Shelf.Bits.Mul64
import Derived.Deep.LoopGhost
namespace Go.Proofs.YtbgcnhhdgnalgaaDoor
open Go.RowKit
set_option linter.unusedVariables false

set_option maxRecDepth 100000 in
set_option maxHeartbeats 1000000 in
theorem wMul64 (x y : Nat) (w : World) (hx : x < 18446744073709551616) (hy : y < 18446744073709551616) :
    Calls Tryd.prog 51 #[.int .u64 x, .int .u64 y] w fun e w' => e = .returned (.tuple #[.int .u64 ((x * y / 18446744073709551616 : Nat) : Int), .int .u64 ((x * y % 18446744073709551616 : Nat) : Int)]) ∧ w = w' := by
  obtain ⟨bd, bt, bw, hhi⟩ := Lib.mul64_hi x y hx hy
  have ba := Lib.half_mul_le (a := x / 4294967296) (b := y / 4294967296) (by omega) (by omega)
  have bb := Lib.half_mul_le (a := x / 4294967296) (b := y % 4294967296) (by omega) (by omega)
  have bc := Lib.half_mul_le (a := x % 4294967296) (b := y / 4294967296) (by omega) (by omega)
  have ba' : x / 4294967296 * (y / 4294967296) < 18446744073709551616 := by omega
  have bb' : x / 4294967296 * (y % 4294967296) < 18446744073709551616 := by omega
  have bc' : x % 4294967296 * (y / 4294967296) < 18446744073709551616 := by omega
  have bh1 : x / 4294967296 * (y / 4294967296) + (x / 4294967296 * (y % 4294967296) + x % 4294967296 * (y % 4294967296) / 4294967296) / 4294967296 < 18446744073709551616 := by omega
  have bh : x / 4294967296 * (y / 4294967296) + (x / 4294967296 * (y % 4294967296) + x % 4294967296 * (y % 4294967296) / 4294967296) / 4294967296 + ((x / 4294967296 * (y % 4294967296) + x % 4294967296 * (y % 4294967296) / 4294967296) % 4294967296 + x % 4294967296 * (y / 4294967296)) / 4294967296 < 18446744073709551616 := by omega
  go_enter Tryd.func51, Tryd.ntmps51
  go_wp2
  simp only [Mul64.maskN x hx, Mul64.maskN y hy, Mul64.divN, Mul64.mulN, Mul64.addN, Mul64.wrapN _ bd, Mul64.wrapN _ bb', Mul64.wrapN _ bt, Mul64.maskN _ bt, Mul64.wrapN _ bc', Mul64.wrapN _ bw, Mul64.wrapN _ ba', Mul64.wrapN _ bh1, Mul64.wrapN _ bh, Mul64.wrapM (x * y)]
  rw [hhi]
  go_ret2
  exact ⟨rfl, rfl⟩

def sqB (x p : Nat) : Bool := decide (p * 18446744073709551616 < x * x)
def cuB (x p : Nat) : Bool := decide (p * 79228162514264337593543950336 < x * x * x)

set_option maxRecDepth 100000 in
set_option maxHeartbeats 1000000 in
theorem wSquare (x p : Nat) (w : World) (hx : x < 34359738368) (hp : p < 4294967296) :
    Calls Tryd.prog 35 #[.int .u64 x, .int .u64 p] w fun e w' => e = .returned (.bool (sqB x p)) ∧ w = w' := by
  have HD : Hid (sqB x p = decide (p * 18446744073709551616 < x * x)) := rfl
  go_enter Tryd.func35, Tryd.ntmps35
  go_wp2_with fail
  refine (wMul64 x x w (by omega) (by omega)).mono ?_
  rintro e w' ⟨rfl, rfl⟩
  generalize x * x = m at *
  have HH : Hid (m = m / 18446744073709551616 * 18446744073709551616 + m % 18446744073709551616) := by show _ = _; omega
  have HL : Hid (m % 18446744073709551616 < 18446744073709551616) := Nat.mod_lt _ (by decide)
  generalize m / 18446744073709551616 = hi at *
  generalize m % 18446744073709551616 = lo at *
  go_wp2_with fail
  all_goals
    go_ret
    refine ⟨ret_bool ?_, rfl⟩
    rw [HD.out]
    have h1 := HH.out
    have h2 := HL.out
    clear HD HH HL
    rw [Bool.eq_iff_iff]
    simp only [Bool.or_eq_true, decide_eq_true_eq, true_iff]
    omega

theorem cube_parts {x hi lo c l2 m : Nat} (hx : x < 34359738368) (hm : x * x = m) (h1 : m = hi * 18446744073709551616 + lo) (h2 : lo < 18446744073709551616) (h3 : lo * x = c * 18446744073709551616 + l2) :
    x * x * x = (hi * x + c) * 18446744073709551616 + l2 ∧ hi * x ≤ 2199023255552 ∧ c ≤ 34359738368 := by
  have hm2 : m ≤ 34359738368 * 34359738368 := by rw [← hm]; exact Nat.mul_le_mul (by omega) (by omega)
  have hh : hi ≤ 64 := by omega
  have hhx : hi * x ≤ 64 * 34359738368 := Nat.mul_le_mul hh (by omega)
  have hlx : lo * x ≤ 18446744073709551616 * 34359738368 := Nat.mul_le_mul (by omega) (by omega)
  refine ⟨?_, by omega, by omega⟩
  rw [hm, h1, Nat.add_mul, Nat.mul_right_comm, h3, Nat.add_mul]
  omega

set_option maxRecDepth 100000 in
set_option maxHeartbeats 1000000 in
theorem wCube (x p : Nat) (w : World) (hx : x < 34359738368) (hp : p < 4294967296) :
    Calls Tryd.prog 50 #[.int .u64 x, .int .u64 p] w fun e w' => e = .returned (.bool (cuB x p)) ∧ w = w' := by
  have HD : Hid (cuB x p = decide (p * 79228162514264337593543950336 < x * x * x)) := rfl
  go_enter Tryd.func50, Tryd.ntmps50
  go_wp2_with fail
  refine (wMul64 x x w (by omega) (by omega)).mono ?_
  rintro e w' ⟨rfl, rfl⟩
  obtain ⟨m, hm⟩ : ∃ m, x * x = m := ⟨_, rfl⟩
  have HM := Lib.hid hm
  rw [hm]
  clear hm
  have HH : Hid (m = m / 18446744073709551616 * 18446744073709551616 + m % 18446744073709551616) := by show _ = _; omega
  have HL : Hid (m % 18446744073709551616 < 18446744073709551616) := Nat.mod_lt _ (by decide)
  generalize m / 18446744073709551616 = hi at *
  generalize m % 18446744073709551616 = lo at *
  go_wp2_with fail
  refine (wMul64 lo x w HL.out (by omega)).mono ?_
  rintro e w' ⟨rfl, rfl⟩
  obtain ⟨n, hn⟩ : ∃ n, lo * x = n := ⟨_, rfl⟩
  have HN := Lib.hid hn
  rw [hn]
  clear hn
  have HG : Hid (n = n / 18446744073709551616 * 18446744073709551616 + n % 18446744073709551616) := by show _ = _; omega
  have HL2 : Hid (n % 18446744073709551616 < 18446744073709551616) := Nat.mod_lt _ (by decide)
  generalize n / 18446744073709551616 = c at *
  generalize n % 18446744073709551616 = l2 at *
  obtain ⟨k1, k2, k3⟩ := cube_parts hx HM.out HH.out HL.out (HN.out.trans HG.out)
  have K := Lib.hid k1
  clear k1
  obtain ⟨q, hq⟩ : ∃ q, hi * x = q := ⟨_, rfl⟩
  have e1 : (hi : Int) * (x : Int) = (q : Int) := by rw [← hq]; exact (Int.natCast_mul _ _).symm
  rw [hq] at K k2
  obtain ⟨s, hs⟩ : ∃ s, s = p * 4294967296 := ⟨_, rfl⟩
  have hsh : Op.shift .shl .u64 (p : Int) .u64 32 = pure (.int .u64 (s : Int)) := by
    rw [shift_shl_any _ _ _ _ (by decide), show min (32 : Int).toNat IntKind.u64.bits = 32 from rfl, IntKind.wrap_u64, hs]
    congr 2
    omega
  have HS := Lib.hid hs
  clear hq HM HH HL HN HG hs
  go_wp2_with fail
  all_goals
    go_ret
    refine ⟨ret_bool ?_, rfl⟩
    rw [HD.out]
    have h1 := K.out
    have h2 := HL2.out
    have h3 := HS.out
    clear HD K HL2 e1 hx hsh HS
    generalize x * x * x = m3 at *
    rw [Bool.eq_iff_iff]
    simp only [decide_eq_true_eq, true_iff]
    omega

/-- A root by its bits: n of them are still to be tried. -/
def rootN (beyond : Nat → Bool) : Nat → Nat → Nat
  | 0, r => r
  | n + 1, r => rootN beyond n (if beyond (r ||| 2 ^ n) then r else r ||| 2 ^ n)
def fracN (beyond : Nat → Nat → Bool) (p : Nat) : Nat := rootN (fun x => beyond x p) 35 0 % 4294967296
theorem half_pow (n : Nat) : 2 ^ (n + 1) / 2 = 2 ^ n := by
  rw [Nat.pow_succ]; omega
theorem root_or {r n : Nat} (hr : r < 34359738368) (hn : n < 35) : r ||| 2 ^ n < 34359738368 :=
  Nat.or_lt_two_pow (n := 35) hr (Nat.pow_lt_pow_right (by decide) hn)
theorem pow_bound {n : Nat} (hn : n < 35) : 2 ^ n ≤ 17179869184 := Nat.le_trans (Nat.pow_le_pow_right (by decide) (show n ≤ 34 by omega)) (by decide)
/-- A root, its bit. -/
def FracRel (B : Nat → Bool) (X : Nat) (n : Nat) (x b : Value) : Prop :=
  ∃ r c : Nat, n ≤ 35 ∧ x = .int .u64 (r : Int) ∧ b = .int .u64 (c : Int) ∧ c = 2 ^ n / 2 ∧ r < 34359738368 ∧ rootN B n r = X

set_option maxRecDepth 100000 in
set_option maxHeartbeats 1000000 in
theorem wFraction (F : Nat) (B : Nat → Nat → Bool) (C : ∀ (x p : Nat) (w : World), x < 34359738368 → p < 4294967296 → Calls Tryd.prog F #[.int .u64 x, .int .u64 p] w fun e w' => e = .returned (.bool (B x p)) ∧ w = w')
    (hF : ∀ args w, (callFunc F args).run Tryd.prog w = .ok (.enter F args) w) (p : Nat) (w : World) (hp : p < 4294967296) :
    Calls Tryd.prog 34 #[.int .u64 p, .func (.func F) #[] #[]] w fun e w' => e = .returned (.int .u32 (fracN B p : Int)) ∧ w = w' := by
  have HC := Lib.hid C
  have HX : Hid (fracN B p = rootN (fun x => B x p) 35 0 % 4294967296) := rfl
  clear C
  obtain ⟨X, hX⟩ : ∃ X, rootN (fun x => B x p) 35 0 = X := ⟨_, rfl⟩
  have HR := Lib.hid hX
  rw [hX] at HX
  clear hX
  go_enter Tryd.func34, Tryd.ntmps34
  have HFF := Lib.hid hF
  go_wp2
  go_loopg [5, 6] 35 (fun n x b wr => FracRel (fun x => B x p) X n x b ∧ wr = w)
  case atStart => exact ⟨⟨0, 17179869184, by decide, rfl, rfl, by decide, by decide, HR.out⟩, rfl⟩
  case round =>
    obtain ⟨⟨r, c, hn, rfl, rfl, hc, hr, hX⟩, rfl⟩ := hrel
    have HRT := Lib.hid hX
    have HN := Lib.hid hn
    have HC2 := Lib.hid hc
    clear hX hn hc
    cases gk with
    | zero =>
      obtain rfl : c = 0 := by rw [HC2.out]
      go_wp2_with fail
      go_ret
      rw [HX.out, ← HRT.out]
      exact ⟨by show Ending.returned (Value.int IntKind.u32 ((r : Int) % 4294967296)) = _; rw [rootN]; exact ret_int (by omega), rfl⟩
    | succ n =>
      have hc2 : c = 2 ^ n := by rw [HC2.out, half_pow]
      have hcb : c ≤ 17179869184 := by rw [hc2]; exact pow_bound (by have := HN.out; omega)
      have hc0 : 0 < c := by rw [hc2]; exact Nat.pow_pos (by decide)
      have hor : bits .or .u64 (r : Int) (c : Int) = ((r ||| c : Nat) : Int) := u64_or_nat _ _ (by omega) (by omega)
      have hx : r ||| c < 34359738368 := by rw [hc2]; exact root_or hr (by have := HN.out; omega)
      have HCN := Lib.hid hc2
      have HSH : Hid ((c : Int) / 2 = ((2 ^ n / 2 : Nat) : Int)) := by show _ = _; rw [← hc2]; omega
      clear hc2 HC2
      go_wp2_with fail
      refine (HC.out (r ||| c) p wr hx hp).mono ?_
      rintro e w' ⟨rfl, rfl⟩
      have HST : Hid (rootN (fun x => B x p) (n + 1) r = rootN (fun x => B x p) n (if B (r ||| 2 ^ n) p then r else r ||| 2 ^ n)) := rfl
      rw [← HCN.out] at HST
      generalize B (r ||| c) p = b at *
      cases b
      all_goals
        go_wp2_with fail
        go_roundg n
        case measure => omega
        case rel => exact ⟨⟨_, 2 ^ n / 2, by have := HN.out; omega, rfl, by rw [HSH.out], rfl, by assumption, by rw [← HRT.out, HST.out]; rfl⟩, rfl⟩

theorem wFracSq (p : Nat) (w : World) (hp : p < 4294967296) :
    Calls Tryd.prog 34 #[.int .u64 p, .func (.func 35) #[] #[]] w fun e w' => e = .returned (.int .u32 (fracN sqB p : Int)) ∧ w = w' :=
  wFraction _ sqB (fun x p w hx hp => wSquare x p w hx hp) (enters_of Tryd.func35 (by kernel_rfl) rfl) p w hp
theorem wFracCu (p : Nat) (w : World) (hp : p < 4294967296) :
    Calls Tryd.prog 34 #[.int .u64 p, .func (.func 50) #[] #[]] w fun e w' => e = .returned (.int .u32 (fracN cuB p : Int)) ∧ w = w' :=
  wFraction _ cuB (fun x p w hx hp => wCube x p w hx hp) (enters_of Tryd.func50 (by kernel_rfl) rfl) p w hp

theorem prime_lt (j : Nat) : nx primeL j < 4294967296 := by
  by_cases h : j < 64
  · have : ∀ j, j < 64 → nx primeL j < 4294967296 := by decide +kernel
    exact this j h
  · have e : primeL.length ≤ j := by show 64 ≤ j; omega
    simp [nx, List.getD, List.getElem?_eq_none e]
theorem cube_at {j : Nat} (h : j < 64) : fracN cuB (nx primeL j) = nx shaK j := by
  have : ∀ j, j < 64 → fracN cuB (nx primeL j) = nx shaK j := by decide +kernel
  exact this j h
theorem square_at {j : Nat} (h : j < 8) : fracN sqB (nx primeL j) = nx shaF j := by
  have : ∀ j, j < 8 → fracN sqB (nx primeL j) = nx shaF j := by decide +kernel
  exact this j h
end Go.Proofs.YtbgcnhhdgnalgaaDoor
