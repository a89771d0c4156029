/- Several texts in one (a claim has 60 files at most): Num, RefB, ShaM, ShaRefA, ShaRefN, ShaRefE, ShaRefT, ShaRefS, ShaRefC, HmacKit, Keep, HmacM, ShaLawA, HmacRef, Fld, FldW. -/
import Derived.Test.YtlmdidblgeeplaaGreatDoorTz
import Derived.Test.YtlmdidblgeeplaaGreatDoorPPadx
import Derived.Laws.BitsAllLaws
import Derived.Deep.RegionHeld3
import Derived.Deep.LoopGhost
import Derived.Deep.RegionLaw
import Derived.Deep.MidRow
import Derived.Deep.Slices
import Derived.Deep.Fields
import Derived.ChangeSame
import Derived.SizedLaws
namespace Go.Proofs.YtlmdidblgeeplaaGreatDoor
set_option maxRecDepth 1000000
set_option maxHeartbeats 8000000
set_option linter.unusedVariables false
set_option linter.unusedSimpArgs false
section
def num : List UInt8 → Nat
 | [] => 0
 | b :: bs => b.toNat * 256 ^ bs.length + num bs
def enc (x : Nat) : Nat → List UInt8
 | 0 => []
 | k + 1 => UInt8.ofNat (x / 256 ^ k) :: enc x k
theorem enc_len (x n : Nat) : (enc x n).length = n := by
 induction n with
 | zero => rfl
 | succ n ih => simp [enc, ih]
theorem num_lt : ∀ bs : List UInt8, num bs < 256 ^ bs.length
 | [] => by simp [num]
 | b :: bs => by
  have h := num_lt bs
  have hb := b.toNat_lt
  simp only [num, List.length_cons, Nat.pow_succ]
  have : b.toNat * 256 ^ bs.length + 256 ^ bs.length ≤ 256 * 256 ^ bs.length := by
   rw [← Nat.succ_mul]; exact Nat.mul_le_mul_right _ (by omega)
  omega
theorem num_snoc : ∀ (bs : List UInt8) (b : UInt8), num (bs ++ [b]) = num bs * 256 + b.toNat
 | [], b => by simp [num]
 | a :: bs, b => by
  simp only [List.cons_append, num, num_snoc bs b, List.length_append, List.length_cons, List.length_nil, Nat.pow_succ, Nat.add_mul, Nat.zero_add, Nat.mul_assoc]
  omega
theorem num_enc (x : Nat) : ∀ n, num (enc x n) = x % 256 ^ n
 | 0 => by simp [enc, num, Nat.mod_one]
 | n + 1 => by
  have h := Nat.mod_mul (x := x) (a := 256 ^ n) (b := 256)
  have e : (UInt8.ofNat (x / 256 ^ n)).toNat = x / 256 ^ n % 256 := UInt8.toNat_ofNat'
  simp only [enc, num, enc_len, num_enc x n, e]
  rw [Nat.pow_succ, h, Nat.mul_comm (256 ^ n)]
  omega
theorem num_inj : ∀ {a b : List UInt8}, a.length = b.length → num a = num b → a = b
 | [], [], _, _ => rfl
 | [], _ :: _, h, _ => by simp at h
 | _ :: _, [], h, _ => by simp at h
 | a :: xs, b :: ys, h, hn => by
  have hl : xs.length = ys.length := by simpa using h
  simp only [num, hl] at hn
  have h1 := num_lt xs
  have h2 := num_lt ys
  rw [hl] at h1
  have hab : a.toNat = b.toNat := by
   rcases Nat.lt_trichotomy a.toNat b.toNat with g | g | g
   ·have := Nat.mul_le_mul_right (256 ^ ys.length) (show a.toNat + 1 ≤ b.toNat from g)
    rw [Nat.add_mul] at this; omega
   ·exact g
   ·have := Nat.mul_le_mul_right (256 ^ ys.length) (show b.toNat + 1 ≤ a.toNat from g)
    rw [Nat.add_mul] at this; omega
  rw [hab] at hn
  rw [UInt8.toNat_inj.1 hab, num_inj hl (by omega)]
theorem enc_num (bs : List UInt8) : enc (num bs) bs.length = bs :=
 num_inj (enc_len _ _) (by rw [num_enc, Nat.mod_eq_of_lt (num_lt bs)])
theorem num_drop {bs : List UInt8} {k : Nat} (h : k < bs.length) : num (bs.drop k) = nth bs k * 256 ^ (bs.length - k - 1) + num (bs.drop (k + 1)) := by
 rw [List.drop_eq_getElem_cons h]
 simp only [num, nth_of_lt h, List.length_drop]
 rfl
theorem num_take {bs : List UInt8} {k : Nat} (h : k < bs.length) : num (bs.take (k + 1)) = num (bs.take k) * 256 + nth bs k := by
 rw [take_snoc_b h, num_snoc, nth_of_lt h]
theorem wrap_step (x u b : Nat) (hb : b < 256) :
  IntKind.u64.wrap ((x : Int) + IntKind.u64.wrap ((u : Int) * IntKind.u64.wrap (b : Int))) = (((x + u * b) % 18446744073709551616 : Nat) : Int) := by
 simp only [IntKind.wrap_u64]
 rw [show ((b : Int) % 18446744073709551616) = b from by omega, ← Int.natCast_mul]
 omega
theorem wrap_unit (u : Nat) : IntKind.u64.wrap ((u : Int) * 256) = ((u * 256 % 18446744073709551616 : Nat) : Int) := by
 simp only [IntKind.wrap_u64]
 omega
theorem pow_le8 {n : Nat} (h : n ≤ 8) : 256 ^ n ≤ 18446744073709551616 := Nat.le_trans (Nat.pow_le_pow_right (by decide) h) (by decide)
theorem num_lt8 {bs : List UInt8} (h : bs.length ≤ 8) : num bs < 18446744073709551616 := Nat.lt_of_lt_of_le (num_lt bs) (pow_le8 h)
theorem num_step {bs : List UInt8} {n i j : Nat} (hl : bs.length = n) (h8 : n ≤ 8) (hi : i = n - 1 - j) (hj : j < n) :
  (num (bs.drop (n - j)) + 256 ^ j % 18446744073709551616 * nth bs i) % 18446744073709551616 = num (bs.drop (n - (j + 1))) := by
 have e : n - (j + 1) = i := by omega
 have e2 : n - j = i + 1 := by omega
 have e3 : bs.length - i - 1 = j := by omega
 have h := num_drop (bs := bs) (k := i) (by omega)
 rw [e3] at h
 have hlt : num (bs.drop i) < 18446744073709551616 := num_lt8 (by simp; omega)
 rw [e, e2, h, Nat.add_mod, Nat.mod_mul_mod, ← Nat.add_mod, Nat.mul_comm (256 ^ j), Nat.add_comm]
 rw [h] at hlt
 exact Nat.mod_eq_of_lt hlt
theorem or_step (x b : Nat) (hx : x < 72057594037927936) (hb : b < 256) :
  bits BinOp.or IntKind.u64 (IntKind.u64.wrap ((x : Int) * 256)) (IntKind.u64.wrap (b : Int)) = ((x * 256 + b : Nat) : Int) := by
 rw [show IntKind.u64.wrap ((x : Int) * 256) = ((x * 256 : Nat) : Int) from by simp only [IntKind.wrap_u64]; omega,
  show IntKind.u64.wrap (b : Int) = (b : Int) from by simp only [IntKind.wrap_u64]; omega,
  u64_or_nat _ _ (by omega) (by omega), nat_join 8 _ _ (by omega) (by omega)]
theorem num_take_lt {bs : List UInt8} {n k : Nat} (hl : bs.length = n) (h8 : n ≤ 8) (hk : k < n) : num (bs.take k) < 72057594037927936 := by
 refine Nat.lt_of_lt_of_le (num_lt _) (Nat.le_trans (Nat.pow_le_pow_right (by decide) (show (bs.take k).length ≤ 7 by simp; omega)) (by decide))
theorem row_step {n k : Nat} (x : Nat) (hk : k < n) :
  (List.replicate (n - k) (0 : UInt8) ++ enc x k).set (n - 1 - k) (UInt8.ofNat (x / 256 ^ k)) = List.replicate (n - (k + 1)) 0 ++ enc x (k + 1) := by
 have e : n - k = (n - (k + 1)) + 1 := by omega
 have e2 : n - 1 - k = n - (k + 1) := by omega
 rw [e, e2, List.replicate_succ', List.append_assoc, List.set_append_right _ _ (by simp)]
 simp [enc]
theorem shr_byte (x k : Nat) : ((x : Int) / 2 ^ (8 * k) % 256) = ((UInt8.ofNat (x / 256 ^ k)).toNat : Int) := by
 rw [← u8_mod, Int.pow_mul, show ((2 : Int) ^ 8) = ((256 : Nat) : Int) from by decide, ← Int.natCast_pow, ← Int.natCast_ediv]
end
section
open Go.RowKit
def PutRel (B n : Nat) (w : World) (x : Nat) (y v i : Value) (wr : World) : Prop :=
 ∃ k : Nat, k ≤ n ∧ i = .int .i64 k ∧ y = .int .u64 ((x / 256 ^ k : Nat) : Int) ∧ wr.ownsRow B 5 1 v k ((enc x k).reverse.map bval) ∧ Below B w wr
def PutRel2 (B n : Nat) (w : World) (bs : List UInt8) (v i : Value) (wr : World) : Prop :=
 ∃ j : Nat, j ≤ n ∧ i = .int .i64 ((n : Int) - 1 - j) ∧ wr.ownsRow B 5 1 v j ((bs.take j).map bval) ∧ Below B w wr
theorem refPut (x n : Nat) (w : World) (hx : x < 18446744073709551616) (hn : n ≤ 8) :
  Calls Tryz.prog 148 #[.int .u64 (x : Int), .int .i64 (n : Int)] w fun e w' => RetB 5 w (enc x n) e w' := by
 go_enter Tryz.func148, Tryz.ntmps148
 go_wp2
 go_loopw [0, 5, 6] (fun y v i wr => PutRel w.heap.size n w x y v i wr) (fun _ _ i _ => n - (intOf i).toNat)
 case atStart => exact ⟨0, Nat.zero_le _, rfl, by simp, by simpa [enc] using World.ownsRow_nil w w.heap.size 5 1, Below.refl _ _⟩
 case round =>
  obtain ⟨k, hk, rfl, rfl, hown, hbel⟩ := hrel
  have hsz := hbel.size
  by_cases hlt : k < n
  ·have hq : x / 256 ^ k ≤ x := Nat.div_le_self _ _
   generalize hy : x / 256 ^ k = y at *
   have HY := qH hy
   clear hy
   go_wp2_with (at_builtin; refine wpList_push isU8 rfl _ _ rfl rfl rfl hown hbel hsz (by omega) (UInt8.ofNat y) (u8_mod y) ?_; intro v1 w1 hown1 hbel1 hsz1)
   go_roundw
   case rel => exact ⟨k + 1, by omega, by go_num, by rw [Nat.pow_succ, ← Nat.div_div_eq_div_mul, HY.out]; go_num, by simp only [enc, List.reverse_cons, HY.out]; exact hown1, hbel1⟩
   case measure => simp [intOf]; omega
  ·obtain rfl : k = n := by omega
   generalize hy : x / 256 ^ k = y at *
   clear hy
   obtain ⟨A, c, rfl⟩ := own_slice hown
   have HR := qH (Rd.of_own hown)
   clear hown
   obtain ⟨wo, rfl⟩ : ∃ wo : World, wo = wr := ⟨_, rfl⟩
   go_wp2
   go_loopw [7, 8] (fun v i wr => PutRel2 wo.heap.size k wo (enc x k) v i wr) (fun _ i _ => (intOf i + 1).toNat)
   case atStart => exact ⟨0, Nat.zero_le _, by go_num, by simpa using World.ownsRow_nil wo wo.heap.size 5 1, Below.refl _ _⟩
   case round =>
    obtain ⟨j, hj, rfl, hown, hbel2⟩ := hrel
    have hsz2 := hbel2.size
    by_cases hlt : j < k
    ·obtain ⟨i, hi⟩ : ∃ i, i = k - 1 - j := ⟨_, rfl⟩
     obtain ⟨b, o, rfl, hbo, hc⟩ := HR.out.2 (by omega)
     have hcell : wr.cell? ⟨b, o + i, none⟩ = some (.int .u8 (nth (enc x k).reverse i : Int)) := (hbel2.cell hbo).trans (hc i (by omega))
     clear hc
     have HI := qH hi
     have ei : ((k : Int) - 1 - j) = (i : Int) := by omega
     clear hi
     rw [ei]
     have hik : i < k := by have := HI.out; omega
     clear ei
     go_wp2_with (at_builtin; refine wpList_push isU8 rfl _ _ rfl rfl rfl hown hbel2 hsz2 (by omega) ((enc x k).reverse.getD i 0) rfl ?_; intro v1 w1 hown1 hbel1 hsz1)
     go_roundw
     case rel => exact ⟨j + 1, by omega, by rw [show (k : Int) - 1 - ((j + 1 : Nat) : Int) = (i : Int) - 1 from by have := HI.out; omega], by
      rw [take_snoc_getD (by rw [enc_len]; exact hlt), ← rev_getD (i := i) (by rw [enc_len]; have := HI.out; omega)]; exact hown1, hbel1⟩
     case measure => simp [intOf]
    ·obtain rfl : j = k := by omega
     rw [show (j : Int) - 1 - j = -1 from by omega]
     go_wp2
     go_ret
     refine RetB.mk (own_mono (by rw [List.take_of_length_le (by rw [enc_len]; exact Nat.le_refl _)] at hown; exact hown) hsz) (hbel.trans (hbel2.mono hsz))
def RNumRel (n : Nat) (bs : List UInt8) (x u i : Value) : Prop :=
 ∃ j : Nat, j ≤ n ∧ i = .int .i64 ((n : Int) - 1 - j) ∧ x = .int .u64 ((num (bs.drop (n - j)) : Nat) : Int) ∧ u = .int .u64 ((256 ^ j % 18446744073709551616 : Nat) : Int)
def numOf (bs : List UInt8) : Nat := if bs.length = 0 ∨ 8 < bs.length then 0 else num bs
def numOk (bs : List UInt8) : Bool := decide (0 < bs.length ∧ bs.length ≤ 8)
theorem refNumber (A : Option Addr) (n c B : Nat) (bs : List UInt8) (w : World) (ha : Rd w B A n bs) (hn : n ≤ 140737488355328) :
  Calls Tryz.prog 160 #[.slice A n c] w fun e w' => e = .returned (.tuple #[.int .u64 (numOf bs : Int), .bool (numOk bs)]) ∧ w = w' := by
 by_cases h0 : n = 0
 ·subst h0
  go_enter Tryz.func160, Tryz.ntmps160
  go_wp2
  go_ret2
  refine ⟨?_, rfl⟩
  have hl := ha.1
  rw [show numOf bs = 0 from by unfold numOf; rw [if_pos (by omega)], show numOk bs = false from by simp [numOk]; omega]
  rfl
 ·have h0' : ((n : Int) == 0) = false := by simp; omega
  by_cases h8 : 8 < n
  ·go_enter Tryz.func160, Tryz.ntmps160
   go_wp2
   go_ret2
   refine ⟨?_, rfl⟩
   have hl := ha.1
   rw [show numOf bs = 0 from by unfold numOf; rw [if_pos (by omega)], show numOk bs = false from by simp [numOk]; omega]
   rfl
  ·have HA := qH ha
   clear ha
   have H0 := qH h0'
   clear h0'
   go_enter Tryz.func160, Tryz.ntmps160
   have h0' := H0.out
   go_wp2
   clear h0'
   go_loop [4, 5, 6] (fun x u i => RNumRel n bs x u i) (fun _ _ i => (intOf i + 1).toNat)
   case atStart => exact ⟨0, Nat.zero_le _, by go_num, by rw [Nat.sub_zero, ← HA.out.1, List.drop_length]; rfl, rfl⟩
   case round =>
    obtain ⟨j, hj, rfl, rfl, rfl⟩ := hrel
    by_cases hlt : j < n
    ·obtain ⟨i, hi⟩ : ∃ i, i = n - 1 - j := ⟨_, rfl⟩
     obtain ⟨b, o, rfl, hbo, hc⟩ := HA.out.2 (by omega)
     have hcell : w.cell? ⟨b, o + i, none⟩ = some (.int .u8 (nth bs i : Int)) := hc i (by omega)
     clear hc
     have HI := qH hi
     have ei : ((n : Int) - 1 - j) = (i : Int) := by omega
     clear hi
     rw [ei]
     have hik : i < n := by have := HI.out; omega
     clear ei
     generalize hx : num (bs.drop (n - j)) = x
     generalize hu : 256 ^ j % 18446744073709551616 = u
     have HX := qH hx
     have HU := qH hu
     clear hx hu
     go_wp2
     go_round
     case rel =>
      rw [wrap_step _ _ _ (nth_lt _ _), wrap_unit]
      refine ⟨j + 1, by omega, by rw [show (n : Int) - 1 - ((j + 1 : Nat) : Int) = (i : Int) - 1 from by have := HI.out; omega], ?_, ?_⟩
      ·rw [← HX.out, ← HU.out, num_step HA.out.1 (by omega) HI.out hlt]
      ·rw [← HU.out, Nat.mod_mul_mod, Nat.pow_succ]
     case measure => simp [intOf]
    ·obtain rfl : j = n := by omega
     rw [show (j : Int) - 1 - j = -1 from by omega]
     go_wp2
     go_ret2
     refine ⟨?_, rfl⟩
     have hl := HA.out.1
     rw [show numOf bs = num bs from by unfold numOf; rw [if_neg (by omega)], show numOk bs = true from by simp [numOk]; omega]
     rfl
def loadOf (bs : List UInt8) (at_ : Int) (k : Nat) : Nat := if 0 ≤ at_ ∧ at_ + k ≤ bs.length then num ((bs.drop at_.toNat).take k) else 0
def loadOk (bs : List UInt8) (at_ : Int) (k : Nat) : Bool := decide (0 ≤ at_ ∧ at_ + k ≤ bs.length)
theorem loadOf_no {bs : List UInt8} {at_ : Int} {k : Nat} (h : ¬ (0 ≤ at_ ∧ at_ + k ≤ bs.length)) : loadOf bs at_ k = 0 ∧ loadOk bs at_ k = false := by
 exact ⟨if_neg h, decide_eq_false h⟩
theorem loadOf_yes {bs : List UInt8} {p k : Nat} (h : p + k ≤ bs.length) (hk : 0 < k) (h8 : k ≤ 8) :
  loadOf bs p k = numOf ((bs.take (p + k)).drop p) ∧ loadOk bs p k = true ∧ numOk ((bs.take (p + k)).drop p) = true := by
 have h' : (0 : Int) ≤ (p : Int) ∧ (p : Int) + k ≤ bs.length := by omega
 have hl : ((bs.take (p + k)).drop p).length = k := by simp; omega
 refine ⟨?_, ?_, ?_⟩
 ·simp only [loadOf, if_pos h', numOf, hl]
  rw [if_neg (by omega), Int.toNat_natCast, List.drop_take]
  congr 2; omega
 ·simp only [loadOk]; exact decide_eq_true h'
 ·simp only [numOk, hl]; exact decide_eq_true ⟨hk, h8⟩
theorem refLoad (A : Option Addr) (n c B : Nat) (p : Int) (k : Nat) (bs : List UInt8) (w : World) (ha : Rd w B A n bs) (hn : n ≤ c) (hc : c ≤ 9223372036854775807)
  (hp : -9223372036854775808 ≤ p) (hp' : p ≤ 9223372036854775807) (hk : 0 < k) (hk8 : k ≤ 8) :
  Calls Tryz.prog 184 #[.slice A n c, .int .i64 p, .int .i64 (k : Int)] w fun e w' => e = .returned (.tuple #[.int .u64 (loadOf bs p k : Int), .bool (loadOk bs p k)]) ∧ w = w' := by
 have hl : Hid (bs.length = n) := ha.1
 by_cases h0 : p < 0
 ·have hno := loadOf_no (bs := bs) (at_ := p) (k := k) (by omega)
  have HN := qH hno
  clear hno ha
  go_enter Tryz.func184, Tryz.ntmps184
  go_wp2
  go_ret2
  refine ⟨?_, rfl⟩
  rw [HN.out.1, HN.out.2]
  rfl
 ·by_cases h1 : (n : Int) - k < p
  ·have hno := loadOf_no (bs := bs) (at_ := p) (k := k) (by have := hl.out; omega)
   have HN := qH hno
   clear hno ha
   go_enter Tryz.func184, Tryz.ntmps184
   go_wp2
   go_ret2
   refine ⟨?_, rfl⟩
   rw [HN.out.1, HN.out.2]
   rfl
  ·obtain ⟨q, rfl⟩ := Int.eq_ofNat_of_zero_le (show 0 ≤ p by omega)
   obtain ⟨b, o, rfl, hb⟩ := ha.2 (by omega)
   have hcut := ha.cut (l := q) (k := q + k) (by omega) (by omega)
   rw [Nat.add_sub_cancel_left] at hcut
   have HC := qH hcut
   clear hcut
   have HY := qH (loadOf_yes (bs := bs) (p := q) (k := k) (by have := hl.out; omega) hk hk8)
   clear hb ha
   go_enter Tryz.func184, Tryz.ntmps184
   go_wp2_with fail
   refine (refNumber _ k (c - q) B _ w HC.out (by omega)).mono ?_
   rintro e w' ⟨rfl, rfl⟩
   go_wp2
   go_ret2
   refine ⟨?_, rfl⟩
   rw [HY.out.1, HY.out.2.1, ← HY.out.2.2]
   rfl
end
section
def rotr (x n : Nat) : Nat := (x / 2 ^ n + x * 2 ^ (32 - n)) % 4294967296
theorem rotr_lt (x n : Nat) : rotr x n < 4294967296 := Nat.mod_lt _ (by decide)
def sp (x : Nat) : Nat := rotr x 7 ^^^ rotr x 18 ^^^ x / 8
def sq (x : Nat) : Nat := rotr x 17 ^^^ rotr x 19 ^^^ x / 1024
def sE (x : Nat) : Nat := rotr x 6 ^^^ rotr x 11 ^^^ rotr x 25
def sA (x : Nat) : Nat := rotr x 2 ^^^ rotr x 13 ^^^ rotr x 22
def chz (e f g : Nat) : Nat := (e &&& f) ||| ((4294967295 - e) &&& g)
def maj (a b c : Nat) : Nat := (a &&& b) ^^^ (a &&& c) ^^^ (b &&& c)
def shaK : List Nat := [0x428a2f98, 0x71374491, 0xb5c0fbcf, 0xe9b5dba5, 0x3956c25b, 0x59f111f1, 0x923f82a4, 0xab1c5ed5, 0xd807aa98, 0x12835b01, 0x243185be, 0x550c7dc3, 0x72be5d74, 0x80deb1fe, 0x9bdc06a7, 0xc19bf174,
 0xe49b69c1, 0xefbe4786, 0x0fc19dc6, 0x240ca1cc, 0x2de92c6f, 0x4a7484aa, 0x5cb0a9dc, 0x76f988da, 0x983e5152, 0xa831c66d, 0xb00327c8, 0xbf597fc7, 0xc6e00bf3, 0xd5a79147, 0x06ca6351, 0x14292967,
 0x27b70a85, 0x2e1b2138, 0x4d2c6dfc, 0x53380d13, 0x650a7354, 0x766a0abb, 0x81c2c92e, 0x92722c85, 0xa2bfe8a1, 0xa81a664b, 0xc24b8b70, 0xc76c51a3, 0xd192e819, 0xd6990624, 0xf40e3585, 0x106aa070,
 0x19a4c116, 0x1e376c08, 0x2748774c, 0x34b0bcb5, 0x391c0cb3, 0x4ed8aa4a, 0x5b9cca4f, 0x682e6ff3, 0x748f82ee, 0x78a5636f, 0x84c87814, 0x8cc70208, 0x90befffa, 0xa4506ceb, 0xbef9a3f7, 0xc67178f2]
def shaF : List Nat := [0x6a09e667, 0xbb67ae85, 0x3c6ef372, 0xa54ff53a, 0x510e527f, 0x9b05688c, 0x1f83d9ab, 0x5be0cd19]
def nextW (blk : List UInt8) (ws : List Nat) : Nat :=
 if ws.length < 16 then num ((blk.drop (4 * ws.length)).take 4)
 else (nx ws (ws.length - 16) + nx ws (ws.length - 7) + sp (nx ws (ws.length - 15)) + sq (nx ws (ws.length - 2))) % 4294967296
def numsW (blk : List UInt8) : Nat → List Nat
 | 0 => []
 | i + 1 => numsW blk i ++ [nextW blk (numsW blk i)]
theorem numsW_len (blk : List UInt8) : ∀ i, (numsW blk i).length = i
 | 0 => rfl
 | i + 1 => by rw [numsW, List.length_append, numsW_len blk i]; rfl
theorem numsW_lt (blk : List UInt8) : ∀ i j, nx (numsW blk i) j < 4294967296
 | 0, j => by simp [numsW, nx]
 | i + 1, j => by
  rw [numsW]
  rcases Nat.lt_trichotomy j (numsW blk i).length with h | h | h
  ·rw [nx_left h]; exact numsW_lt blk i j
  ·subst h
   rw [nx_last]
   unfold nextW
   split
   ·refine Nat.lt_of_lt_of_le (num_lt _) ?_
    refine Nat.le_trans (Nat.pow_le_pow_right (by decide) (show _ ≤ 4 by simp; omega)) (by decide)
   ·exact Nat.mod_lt _ (by decide)
  ·have : (numsW blk i ++ [nextW blk (numsW blk i)]).length ≤ j := by simp; omega
   simp [nx, List.getD, List.getElem?_eq_none this]
structure HReg where
 a : Nat
 b : Nat
 c : Nat
 d : Nat
 e : Nat
 f : Nat
 g : Nat
 h : Nat
structure HReg.Ok (r : HReg) : Prop where
 a : r.a < 4294967296
 b : r.b < 4294967296
 c : r.c < 4294967296
 d : r.d < 4294967296
 e : r.e < 4294967296
 f : r.f < 4294967296
 g : r.g < 4294967296
 h : r.h < 4294967296
def rT (r : HReg) (k w : Nat) : Nat := (r.h + sE r.e + chz r.e r.f r.g + k + w) % 4294967296
def rU (r : HReg) : Nat := (sA r.a + maj r.a r.b r.c) % 4294967296
def rnd (k w : Nat) (r : HReg) : HReg :=
 { a := (rT r k w + rU r) % 4294967296, b := r.a, c := r.b, d := r.c, e := (r.d + rT r k w) % 4294967296, f := r.e, g := r.f, h := r.g }
theorem rnd_ok {k w : Nat} {r : HReg} (h : r.Ok) : (rnd k w r).Ok :=
 ⟨Nat.mod_lt _ (by decide), h.a, h.b, h.c, Nat.mod_lt _ (by decide), h.e, h.f, h.g⟩
def regs (s : List Nat) (ws : List Nat) : Nat → HReg
 | 0 => ⟨nx s 0, nx s 1, nx s 2, nx s 3, nx s 4, nx s 5, nx s 6, nx s 7⟩
 | i + 1 => rnd (nx shaK i) (nx ws i) (regs s ws i)
def Is8 (s : List Nat) : Prop := s.length = 8 ∧ ∀ j, nx s j < 4294967296
theorem regs_ok {s ws : List Nat} (h : Is8 s) : ∀ i, (regs s ws i).Ok
 | 0 => ⟨h.2 0, h.2 1, h.2 2, h.2 3, h.2 4, h.2 5, h.2 6, h.2 7⟩
 | i + 1 => rnd_ok (regs_ok h i)
def sumL (s : List Nat) (r : HReg) : List Nat :=
 [(nx s 0 + r.a) % 4294967296, (nx s 1 + r.b) % 4294967296, (nx s 2 + r.c) % 4294967296, (nx s 3 + r.d) % 4294967296, (nx s 4 + r.e) % 4294967296, (nx s 5 + r.f) % 4294967296, (nx s 6 + r.g) % 4294967296, (nx s 7 + r.h) % 4294967296]
def eatL (s : List Nat) (blk : List UInt8) : List Nat := sumL s (regs s (numsW blk 64) 64)
theorem is8_of (a b c d e f g h : Nat) (ha : a < 4294967296) (hb : b < 4294967296) (hc : c < 4294967296) (hd : d < 4294967296) (he : e < 4294967296) (hf : f < 4294967296) (hg : g < 4294967296) (hh : h < 4294967296) : Is8 [a, b, c, d, e, f, g, h] := by
 refine ⟨rfl, fun j => ?_⟩
 unfold nx
 match j with
 | 0 => exact ha
 | 1 => exact hb
 | 2 => exact hc
 | 3 => exact hd
 | 4 => exact he
 | 5 => exact hf
 | 6 => exact hg
 | 7 => exact hh
 | j + 8 => simp [List.getD]
theorem sumL_8 (s : List Nat) (r : HReg) : Is8 (sumL s r) :=
 is8_of _ _ _ _ _ _ _ _ (Nat.mod_lt _ (by decide)) (Nat.mod_lt _ (by decide)) (Nat.mod_lt _ (by decide)) (Nat.mod_lt _ (by decide)) (Nat.mod_lt _ (by decide)) (Nat.mod_lt _ (by decide)) (Nat.mod_lt _ (by decide)) (Nat.mod_lt _ (by decide))
theorem eatL_8 (s : List Nat) (blk : List UInt8) : Is8 (eatL s blk) := sumL_8 _ _
theorem shaF_8 : Is8 shaF := is8_of _ _ _ _ _ _ _ _ (by decide) (by decide) (by decide) (by decide) (by decide) (by decide) (by decide) (by decide)
def zerosOf (n : Nat) : Nat := (64 - (n + 9) % 64) % 64
def tailL (n : Nat) : List UInt8 := 128 :: List.replicate (zerosOf n) 0 ++ enc (8 * n) 8
theorem tailL_len (n : Nat) : (tailL n).length = zerosOf n + 9 := by simp [tailL, enc_len]
theorem tail_whole (n : Nat) : (n + (tailL n).length) % 64 = 0 := by rw [tailL_len]; unfold zerosOf; omega
def eatAll (s : List Nat) (bs : List UInt8) : Nat → List Nat
 | 0 => s
 | i + 1 => eatL (eatAll s bs i) ((bs.take (64 * i + 64)).drop (64 * i))
theorem eatAll_8 {s : List Nat} (h : Is8 s) (bs : List UInt8) : ∀ i, Is8 (eatAll s bs i)
 | 0 => h
 | _ + 1 => eatL_8 _ _
def printL (s : List Nat) : List UInt8 := (s.map fun x => enc x 4).flatten
def sumAll (bs : List UInt8) : List Nat := eatAll shaF (bs ++ tailL bs.length) ((bs.length + (tailL bs.length).length) / 64)
def shaL (bs : List UInt8) : List UInt8 := printL (sumAll bs)
theorem printL_len {s : List Nat} (h : s.length = 8) : (printL s).length = 32 := by
 match s, h with
 | [a, b, c, d, e, f, g, i], _ => simp [printL, enc_len]
theorem shaL_len (bs : List UInt8) : (shaL bs).length = 32 := printL_len (eatAll_8 shaF_8 _ _).1
theorem rot_join {x n : Nat} (h : n < 32) (hn : 0 < n) (hx : x < 4294967296) : (x / 2 ^ n) ||| (x * 2 ^ (32 - n) % 4294967296) = rotr x n := by
 have hp : 2 ^ n * 2 ^ (32 - n) = 4294967296 := by rw [← Nat.pow_add, show n + (32 - n) = 32 from by omega]
 have h1 : x / 2 ^ n < 2 ^ (32 - n) := by
  rw [Nat.div_lt_iff_lt_mul (Nat.pow_pos (by decide)), Nat.mul_comm, hp]; exact hx
 have h2 : x * 2 ^ (32 - n) % 4294967296 = (x % 2 ^ n) * 2 ^ (32 - n) := by
  rw [← hp, Nat.mul_mod_mul_right]
 have h3 : x = 2 ^ n * (x / 2 ^ n) + x % 2 ^ n := (Nat.div_add_mod x (2 ^ n)).symm
 have h4 : x * 2 ^ (32 - n) = 4294967296 * (x / 2 ^ n) + (x % 2 ^ n) * 2 ^ (32 - n) := by
  conv => lhs; rw [h3, Nat.add_mul, Nat.mul_right_comm, hp]
 have h5 : (x % 2 ^ n) * 2 ^ (32 - n) + 2 ^ (32 - n) ≤ 4294967296 := by
  have : x % 2 ^ n + 1 ≤ 2 ^ n := Nat.mod_lt _ (Nat.pow_pos (by decide))
  have := Nat.mul_le_mul_right (2 ^ (32 - n)) this
  rw [Nat.add_mul, hp] at this
  omega
 have h6 : rotr x n = (x % 2 ^ n) * 2 ^ (32 - n) + x / 2 ^ n := by
  unfold rotr
  rw [h4]
  generalize (x % 2 ^ n) * 2 ^ (32 - n) = r at *
  generalize x / 2 ^ n = q at *
  generalize 2 ^ (32 - n) = p at *
  omega
 rw [h2, h6, Nat.or_comm, Nat.mul_comm, ← Nat.two_pow_add_eq_or_of_lt h1]
end
section
open Go.RowKit
theorem isU32 : KT Tryz.prog 111 106 .u32 4 := ⟨Tryz.underlying111, by kernel_rfl, by decide⟩
theorem pow_lt32 {n : Nat} (h : n < 32) : 2 ^ n < 4294967296 := Nat.lt_of_le_of_lt (Nat.pow_le_pow_right (by decide) (show n ≤ 31 by omega)) (by decide)
theorem pow_int {n : Nat} (h : n < 32) : (2 : Int) ^ n % 4294967296 = ((2 ^ n : Nat) : Int) := by
 have h1 := pow_lt32 h
 have h2 : (2 : Int) ^ n = ((2 ^ n : Nat) : Int) := by norm_cast
 rw [h2]
 generalize 2 ^ n = p at h1 ⊢
 omega
theorem turn_val {x n : Nat} (h1 : 0 < n) (h2 : n < 32) :
  (((x : Int) / (2 ^ n % 4294967296) % 4294967296 + (x : Int) * (2 ^ (32 - n) % 4294967296) % 4294967296) % 4294967296) = (rotr x n : Int) := by
 rw [pow_int h2, pow_int (n := 32 - n) (by omega), ← Int.natCast_ediv, ← Int.natCast_mul]
 unfold rotr
 omega
theorem rTurn (x n : Nat) (w : World) (hx : x < 4294967296) (h1 : 0 < n) (h2 : n < 32) :
  Calls Tryz.prog 151 #[.int .u32 (x : Int), .int .u64 (n : Int)] w fun e w' => e = .returned (.int .u32 (rotr x n : Int)) ∧ w = w' := by
 have hv := qH (turn_val (x := x) h1 h2)
 have hz : ¬ ((2 : Int) ^ n % 4294967296 = 0) := by
  rw [pow_int h2]
  have := Nat.pow_pos (n := n) (show 0 < 2 by decide)
  generalize 2 ^ n = p at this ⊢
  omega
 go_enter Tryz.func151, Tryz.ntmps151
 go_wp2
 go_ret
 exact ⟨by rw [← hv.out]; rfl, rfl⟩
theorem wFirstRow (w : World) : Calls Tryz.prog 83 #[] w fun e w' => RetK .u32 106 w shaF e w' := by
 go_enter Tryz.func83, Tryz.ntmps83
 go_wp2
 go_ret
 exact RetK.mk (own_top (shaF.map (kv .u32)) 106 (Nat.le_refl _) (kvs_one _ _) (by decide)) ((Below.refl _ _).alloc (Nat.le_refl _) _)
theorem rTable (w : World) : Calls Tryz.prog 150 #[] w fun e w' => RetK .u32 106 w shaK e w' := by
 go_enter Tryz.func150, Tryz.ntmps150
 go_wp2
 go_ret
 exact RetK.mk (own_top (shaK.map (kv .u32)) 106 (Nat.le_refl _) (kvs_one _ _) (by decide)) ((Below.refl _ _).alloc (Nat.le_refl _) _)
end
section
open Go.RowKit
def NumsRel (B : Nat) (w : World) (blk : List UInt8) (v i : Value) (wr : World) : Prop :=
 ∃ k : Nat, k ≤ 64 ∧ i = .int .i64 (k : Int) ∧ wr.ownsRow B 106 1 v k ((numsW blk k).map (kv .u32)) ∧ Below B w wr
theorem loadOf_num {blk : List UInt8} {k : Nat} (hl : blk.length = 64) (hk : k < 16) : loadOf blk (4 * (k : Int)) 4 = nextW blk (numsW blk k) := by
 unfold loadOf nextW
 rw [numsW_len, if_pos (by omega), if_pos hk, show (4 * (k : Int)).toNat = 4 * k from by omega]
theorem nextW_lt (blk : List UInt8) (k : Nat) : nextW blk (numsW blk k) < 4294967296 := by
 have h := numsW_lt blk (k + 1) k
 rw [numsW] at h
 have e := nx_last (numsW blk k) (nextW blk (numsW blk k))
 rw [numsW_len] at e
 rw [e] at h; exact h
theorem u32_xors {a b c : Nat} (ha : a < 4294967296) (hb : b < 4294967296) (hc : c < 4294967296) :
  bits .xor .u32 (bits .xor .u32 (a : Int) (b : Int)) (c : Int) = ((a ^^^ b ^^^ c : Nat) : Int) := by
 rw [u32_xor_nat _ _ ha hb, u32_xor_nat _ _ (Nat.xor_lt_two_pow (n := 32) ha hb) hc]
theorem rNumbers (A : Option Addr) (c : Nat) (blk : List UInt8) (w : World) (ha : Rd w w.heap.size A 64 blk) (hc : 64 ≤ c) (hc' : c ≤ 9223372036854775807) :
  Calls Tryz.prog 149 #[.slice A 64 c] w fun e w' => RetK .u32 106 w (numsW blk 64) e w' := by
 have HA := qH ha
 clear ha
 go_enter Tryz.func149, Tryz.ntmps149
 go_wp2
 go_loopw [3, 4] (fun v i wr => NumsRel w.heap.size w blk v i wr) (fun _ i _ => 64 - (intOf i).toNat)
 case atStart => exact ⟨0, Nat.zero_le _, rfl, by simpa [numsW] using World.ownsRow_nil w w.heap.size 106 1, Below.refl _ _⟩
 case round =>
  obtain ⟨k, hk, rfl, hown, hbel⟩ := hrel
  have hsz := hbel.size
  have HK := qH hk
  clear hk
  by_cases h64 : (k : Int) < 64
  ·by_cases h16 : (k : Int) < 16
   ·have HN := qH (loadOf_num (blk := blk) (k := k) HA.out.1 (by omega))
    have HR := qH (HA.out.to hbel)
    have hw4 : IntKind.i64.wrap (4 * (k : Int)) = 4 * (k : Int) := IntWalk.i64_in _ (by omega)
    have hlt := nextW_lt blk k
    have HE : Hid (numsW blk (k + 1) = numsW blk k ++ [nextW blk (numsW blk k)]) := rfl
    have hmod : ((nextW blk (numsW blk k) : Nat) : Int) % 4294967296 = (nextW blk (numsW blk k) : Nat) := by omega
    have HO := qH hown
    have HB := qH hbel
    clear hown hbel hlt
    go_wp2_with fail
    refine (refLoad A 64 c _ (4 * (k : Int)) 4 blk wr HR.out hc hc' (by omega) (by omega) (by decide) (by decide)).mono ?_
    rintro e w' ⟨rfl, rfl⟩
    rw [HN.out]
    generalize nextW blk (numsW blk k) = y at *
    go_wp2_with (at_builtin; refine wpList_pushK isU32 rfl _ _ rfl rfl rfl HO.out HB.out hsz (by have := HK.out; omega) y rfl ?_; intro v1 w1 hown1 hbel1 hsz1)
    go_roundw
    case rel => exact ⟨k + 1, by omega, by go_num, by rw [HE.out]; exact hown1, hbel1⟩
    case measure => simp [intOf]; omega
   ·have hk16 : 16 ≤ k := by omega
    obtain ⟨A3, c3, rfl⟩ := own_slice hown
    obtain ⟨g, rfl, hg⟩ := own_head hown (by omega)
    obtain ⟨j15, e15⟩ : ∃ j : Nat, j = k - 15 := ⟨_, rfl⟩
    obtain ⟨j2, e2⟩ : ∃ j : Nat, j = k - 2 := ⟨_, rfl⟩
    obtain ⟨j16, e16⟩ : ∃ j : Nat, j = k - 16 := ⟨_, rfl⟩
    obtain ⟨j7, e7⟩ : ∃ j : Nat, j = k - 7 := ⟨_, rfl⟩
    have i15 : (k : Int) - 15 = (j15 : Int) := by omega
    have i2 : (k : Int) - 2 = (j2 : Int) := by omega
    have i16 : (k : Int) - 16 = (j16 : Int) := by omega
    have i7 : (k : Int) - 7 = (j7 : Int) := by omega
    have l15 : j15 < k := by omega
    have l2 : j2 < k := by omega
    have l16 : j16 < k := by omega
    have l7 : j7 < k := by omega
    have f15 := (own_cellK hown (j := j15) l15).1
    have f2 := (own_cellK hown (j := j2) l2).1
    have f16 := (own_cellK hown (j := j16) l16).1
    have f7 := (own_cellK hown (j := j7) l7).1
    have b15 := numsW_lt blk k j15
    have b2 := numsW_lt blk k j2
    have b16 := numsW_lt blk k j16
    have b7 := numsW_lt blk k j7
    have HW : Hid (nextW blk (numsW blk k) = (nx (numsW blk k) j16 + nx (numsW blk k) j7 + sp (nx (numsW blk k) j15) + sq (nx (numsW blk k) j2)) % 4294967296) := by
     show _ = _
     unfold nextW
     rw [numsW_len, if_neg (by omega), e15, e2, e16, e7]
    have HE : Hid (numsW blk (k + 1) = numsW blk k ++ [nextW blk (numsW blk k)]) := rfl
    have HO := qH hown
    have HB := qH hbel
    clear hown hbel e15 e2 e16 e7
    generalize nextW blk (numsW blk k) = y at *
    generalize nx (numsW blk k) j15 = x15 at *
    generalize nx (numsW blk k) j2 = x2 at *
    generalize nx (numsW blk k) j16 = x16 at *
    generalize nx (numsW blk k) j7 = x7 at *
    go_wp2
    go_quiet (fail)
    have HO := qH (own_drewN HO.out nq)
    have HB := qH (below_drewN HB.out nq)
    have f16 : (wr.drewN nq).cell? ⟨g, j16, none⟩ = some (.int .u32 (x16 : Int)) := f16
    have f7 : (wr.drewN nq).cell? ⟨g, j7, none⟩ = some (.int .u32 (x7 : Int)) := f7
    clear f15 f2
    generalize wr.drewN nq = wq at *
    have d8 : (x15 : Int) / 8 % 4294967296 = (x15 : Int) / 8 := by omega
    have d10 : (x2 : Int) / 1024 % 4294967296 = (x2 : Int) / 1024 := by omega
    have hp : bits .xor .u32 (bits .xor .u32 ((rotr x15 7 : Nat) : Int) ((rotr x15 18 : Nat) : Int)) ((x15 : Int) / 8) = ((sp x15 : Nat) : Int) :=
     u32_xors (rotr_lt x15 7) (rotr_lt x15 18) (show x15 / 8 < 4294967296 by omega)
    have hq : bits .xor .u32 (bits .xor .u32 ((rotr x2 17 : Nat) : Int) ((rotr x2 19 : Nat) : Int)) ((x2 : Int) / 1024) = ((sq x2 : Nat) : Int) :=
     u32_xors (rotr_lt x2 17) (rotr_lt x2 19) (show x2 / 1024 < 4294967296 by omega)
    generalize sp x15 = p at *
    generalize sq x2 = q at *
    have hy : IntKind.u32.wrap (IntKind.u32.wrap (IntKind.u32.wrap ((x16 : Int) + x7) + p) + q) = (y : Int) := by
     rw [HW.out]; simp only [IntKind.wrap_u32']; omega
    clear HW
    go_wp2_with fail
    refine (rTurn x15 7 _ b15 (by decide) (by decide)).mono ?_
    rintro e w' ⟨rfl, rfl⟩
    go_wp2_with fail
    refine (rTurn x15 18 _ b15 (by decide) (by decide)).mono ?_
    rintro e w' ⟨rfl, rfl⟩
    go_wp2_with fail
    refine (rTurn x2 17 _ b2 (by decide) (by decide)).mono ?_
    rintro e w' ⟨rfl, rfl⟩
    go_wp2_with fail
    refine (rTurn x2 19 _ b2 (by decide) (by decide)).mono ?_
    rintro e w' ⟨rfl, rfl⟩
    go_wp2_with fail
    have HKb : Hid ((wq.alloc (.cells #[.int .u32 (y : Int)] 106)).drew.heap[wq.heap.size]? = some (.cells #[.int .u32 (y : Int)] 106 (0, 0))) := heap_alloc_last wq _
    have HOb : Hid ((wq.alloc (.cells #[.int .u32 (y : Int)] 106)).drew.ownsRow w.heap.size 106 1 (.slice (some ⟨g, 0, none⟩) k c3) k ((numsW blk k).map (kv .u32))) := (HO.out.alloc _).drew
    have HBb : Hid (Below w.heap.size w (wq.alloc (.cells #[.int .u32 (y : Int)] 106)).drew) := (HB.out.alloc HB.out.size _).drew
    have w16 : IntKind.i64.wrap (j16 : Int) = (j16 : Int) := IntWalk.i64_in _ (by omega)
    have w7 : IntKind.i64.wrap (j7 : Int) = (j7 : Int) := IntWalk.i64_in _ (by omega)
    go_region_law (refine step_pushK isU32 rfl (.tmp 53) (.tmp 69) rfl rfl rfl HKb.out HOb.out HBb.out HBb.out.size (by omega) y rfl ?_; intro v1 w1 hown1 hbel1 hsz1)
    all_goals
     go_wp2
     go_roundw
     case rel => exact ⟨k + 1, by have := HK.out; omega, by go_num, by rw [HE.out]; exact hown1, hbel1⟩
     case measure => simp [intOf]; omega
  ·obtain rfl : k = 64 := by have := HK.out; omega
   go_wp2
   go_ret
   exact RetK.mk hown hbel
end
section
open Go.RowKit
theorem rTurnZ {x : Nat} {z : Int} (n : Nat) (hz : z = (n : Int)) (q : Nat) (w : World) (hx : x < 4294967296) (h1 : 0 < n) (h2 : n < 32) :
  Calls Tryz.prog 151 #[.int .u32 (x : Int), .int .u64 z] (w.drewN q) fun e w'' => e = .returned (.int .u32 (rotr x n : Int)) ∧ ∃ m, w'' = w.drewN m := by
 subst hz
 exact (rTurn x n (w.drewN q) hx h1 h2).mono fun _ _ ⟨he, hw⟩ => ⟨he, q, hw.symm⟩
theorem not_u32 {e : Nat} (he : e < 4294967296) : bits BinOp.xor IntKind.u32 (if IntKind.u32.signed = true then -1 else IntKind.u32.max) (e : Int) = ((4294967295 - e : Nat) : Int) := by
 have h1 : (if IntKind.u32.signed = true then (-1 : Int) else IntKind.u32.max) = ((4294967295 : Nat) : Int) := by decide
 rw [h1, u32_xor_nat _ _ (by decide) he]
 congr 1
 have h2 : (4294967295 : Nat) ^^^ e = 2 ^ 32 - (e + 1) := by
  apply Nat.eq_of_testBit_eq
  intro i
  rw [Nat.testBit_xor, show (4294967295 : Nat) = 2 ^ 32 - 1 from rfl, Nat.testBit_two_pow_sub_one, Nat.testBit_two_pow_sub_succ he]
  by_cases hi : i < 32
  ·simp [hi]
  ·have : e.testBit i = false := Nat.testBit_lt_two_pow (Nat.lt_of_lt_of_le he (Nat.pow_le_pow_right (n := 2) (by decide) (show 32 ≤ i by omega)))
   simp [hi, this]
 rw [h2]; omega
theorem ch_val {e f g : Nat} (he : e < 4294967296) (hf : f < 4294967296) (hg : g < 4294967296) :
  bits BinOp.or IntKind.u32 (bits BinOp.and IntKind.u32 (e : Int) (f : Int)) (bits BinOp.and IntKind.u32 (bits BinOp.xor IntKind.u32 (if IntKind.u32.signed = true then -1 else IntKind.u32.max) (e : Int)) (g : Int)) = ((chz e f g : Nat) : Int) := by
 rw [not_u32 he, u32_and_nat _ _ he hf, u32_and_nat _ _ (by omega) hg, u32_or_nat _ _ (Nat.lt_of_le_of_lt Nat.and_le_left he) (Nat.lt_of_le_of_lt Nat.and_le_right hg)]
 rfl
theorem t_val {h e f g k w : Nat} (hh : h < 4294967296) (he : e < 4294967296) (hf : f < 4294967296) (hg : g < 4294967296) :
  (((h : Int) + bits BinOp.xor IntKind.u32 (bits BinOp.xor IntKind.u32 ((rotr e 6 : Nat) : Int) ((rotr e 11 : Nat) : Int)) ((rotr e 25 : Nat) : Int) +
   bits BinOp.or IntKind.u32 (bits BinOp.and IntKind.u32 (e : Int) (f : Int)) (bits BinOp.and IntKind.u32 (bits BinOp.xor IntKind.u32 (if IntKind.u32.signed = true then -1 else IntKind.u32.max) (e : Int)) (g : Int)) + (k : Int)) % 4294967296 + (w : Int)) % 4294967296
   = (((h + sE e + chz e f g + k + w) % 4294967296 : Nat) : Int) := by
 rw [ch_val he hf hg, u32_xors (rotr_lt e 6) (rotr_lt e 11) (rotr_lt e 25)]
 unfold sE
 omega
theorem maj_val {a b c : Nat} (ha : a < 4294967296) (hb : b < 4294967296) (hc : c < 4294967296) :
  bits BinOp.xor IntKind.u32 (bits BinOp.xor IntKind.u32 (bits BinOp.and IntKind.u32 (a : Int) (b : Int)) (bits BinOp.and IntKind.u32 (a : Int) (c : Int))) (bits BinOp.and IntKind.u32 (b : Int) (c : Int)) = ((maj a b c : Nat) : Int) := by
 rw [u32_and_nat _ _ ha hb, u32_and_nat _ _ ha hc, u32_and_nat _ _ hb hc, u32_xors (Nat.lt_of_le_of_lt Nat.and_le_left ha) (Nat.lt_of_le_of_lt Nat.and_le_left ha) (Nat.lt_of_le_of_lt Nat.and_le_left hb)]
 rfl
theorem u_val {a b c t : Nat} (ha : a < 4294967296) (hb : b < 4294967296) (hc : c < 4294967296) :
  ((t : Int) + (bits BinOp.xor IntKind.u32 (bits BinOp.xor IntKind.u32 ((rotr a 2 : Nat) : Int) ((rotr a 13 : Nat) : Int)) ((rotr a 22 : Nat) : Int) +
   bits BinOp.xor IntKind.u32 (bits BinOp.xor IntKind.u32 (bits BinOp.and IntKind.u32 (a : Int) (b : Int)) (bits BinOp.and IntKind.u32 (a : Int) (c : Int))) (bits BinOp.and IntKind.u32 (b : Int) (c : Int))) % 4294967296) % 4294967296
   = (((t + (sA a + maj a b c) % 4294967296) % 4294967296 : Nat) : Int) := by
 rw [maj_val ha hb hc, u32_xors (rotr_lt a 2) (rotr_lt a 13) (rotr_lt a 22)]
 unfold sA
 omega
def RegIs (r : HReg) (a b c d e f g h : Value) : Prop :=
 a = .int .u32 (r.a : Int) ∧ b = .int .u32 (r.b : Int) ∧ c = .int .u32 (r.c : Int) ∧ d = .int .u32 (r.d : Int) ∧ e = .int .u32 (r.e : Int) ∧ f = .int .u32 (r.f : Int) ∧ g = .int .u32 (r.g : Int) ∧ h = .int .u32 (r.h : Int)
def EatRel (w : World) (s ws : List Nat) (a b c d e f g h i : Value) (wr : World) : Prop :=
 ∃ k : Nat, k ≤ 64 ∧ i = .int .i64 (k : Int) ∧ RegIs (regs s ws k) a b c d e f g h ∧ ∃ q, wr = w.drewN q
theorem rEat (A A' : Option Addr) (c d : Nat) (s : List Nat) (blk : List UInt8) (w : World) (hs : RdK .u32 w w.heap.size A 8 s) (hs8 : Is8 s) (ha : Rd w w.heap.size A' 64 blk) (hd : 64 ≤ d) (hd' : d ≤ 9223372036854775807) :
  Calls Tryz.prog 84 #[.slice A 8 c, .slice A' 64 d] w fun e w' => RetK .u32 106 w (eatL s blk) e w' := by
 have HS := qH hs
 have HA := qH ha
 clear hs ha
 go_enter Tryz.func84, Tryz.ntmps84
 go_wp2_with fail
 refine (rNumbers A' d blk w HA.out hd hd').mono ?_
 rintro e w1 ⟨A1, n1, c1, rfl, hown1, hb⟩
 have W := qH (RdK.of_own hown1)
 obtain rfl : n1 = 64 := by rw [← W.out.1, numsW_len]
 have B := qH hb
 replace HS := qH (HS.out.to hb)
 clear hown1 hb HA
 go_wp2_with fail
 refine (rTable w1).mono ?_
 rintro e w2 ⟨A2, n2, c2, rfl, hown2, hb⟩
 have T := qH (RdK.of_own hown2)
 obtain rfl : n2 = 64 := by rw [← T.out.1]; rfl
 replace W := qH (W.out.to hb)
 replace HS := qH (HS.out.to hb)
 replace B := qH (B.out.trans (hb.mono B.out.size))
 clear hown2 hb
 obtain ⟨b, o, rfl, hbo, hc⟩ := HS.out.2 (by decide)
 obtain ⟨b1, o1, rfl, hbo1, hc1⟩ := W.out.2 (by decide)
 obtain ⟨b2, o2, rfl, hbo2, hc2⟩ := T.out.2 (by decide)
 have f0 := hc 0 (by decide)
 rw [Nat.add_zero] at f0
 have f1 := hc 1 (by decide)
 have f2 := hc 2 (by decide)
 have f3 := hc 3 (by decide)
 have f4 := hc 4 (by decide)
 have f5 := hc 5 (by decide)
 have f6 := hc 6 (by decide)
 have f7 := hc 7 (by decide)
 have HC1 := qH hc1
 have HC2 := qH hc2
 clear hc hc1 hc2 hbo hbo1 hbo2
 go_wp2_with fail
 go_quiet (fail)
 go_wp2_with fail
 go_loopw [7, 8, 9, 10, 11, 12, 13, 14, 15] (fun a b c d e f g h i wr => EatRel w2 s (numsW blk 64) a b c d e f g h i wr) (fun _ _ _ _ _ _ _ _ i _ => 64 - (intOf i).toNat)
 case atStart => exact ⟨0, Nat.zero_le _, rfl, ⟨rfl, rfl, rfl, rfl, rfl, rfl, rfl, rfl⟩, _, rfl⟩
 case round =>
  obtain ⟨k, hk, rfl, ⟨rfl, rfl, rfl, rfl, rfl, rfl, rfl, rfl⟩, hq⟩ := hrel
  have HK := qH hk
  have HQ := qH hq
  clear hk hq
  by_cases h64 : (k : Int) < 64
  ·have RO := qH (regs_ok (ws := numsW blk 64) hs8 k)
   have HE : Hid (regs s (numsW blk 64) (k + 1) = rnd (nx shaK k) (nx (numsW blk 64) k) (regs s (numsW blk 64) k)) := rfl
   have g1 : wr.cell? ⟨b1, o1 + k, none⟩ = some (.int .u32 (nx (numsW blk 64) k : Int)) := by
    obtain ⟨q, rfl⟩ := HQ.out; exact HC1.out k (by omega)
   have g2 : wr.cell? ⟨b2, o2 + k, none⟩ = some (.int .u32 (nx shaK k : Int)) := by
    obtain ⟨q, rfl⟩ := HQ.out; exact HC2.out k (by omega)
   generalize regs s (numsW blk 64) k = r at *
   obtain ⟨a, b_, c_, d_, e_, f_, g_, h_⟩ := r
   generalize nx (numsW blk 64) k = wk at *
   generalize nx shaK k = kk at *
   have ha := RO.out.a
   have he := RO.out.e
   dsimp only at ha he
   go_wp2_with fail
   go_quiet (first | (go_at_call 151; (with_reducible refine rTurnZ 6 ?_ _ _ he ?_ ?_) <;> decide) | (go_at_call 151; (with_reducible refine rTurnZ 11 ?_ _ _ he ?_ ?_) <;> decide) | (go_at_call 151; (with_reducible refine rTurnZ 25 ?_ _ _ he ?_ ?_) <;> decide))
   have hh := RO.out.h
   have hf := RO.out.f
   have hg := RO.out.g
   have hb := RO.out.b
   have hc := RO.out.c
   dsimp only at hh hf hg hb hc
   rw [t_val hh he hf hg]
   generalize hz : wr.drewN nq = wz
   generalize htt : (h_ + sE e_ + chz e_ f_ g_ + kk + wk) % 4294967296 = tt
   have HZ := qH hz
   have HTT := qH htt
   clear hz htt g1 g2
   go_wp2_with fail
   refine (rTurn a 2 _ ha (by decide) (by decide)).mono ?_
   rintro e w' ⟨rfl, rfl⟩
   go_wp2_with fail
   refine (rTurn a 13 _ ha (by decide) (by decide)).mono ?_
   rintro e w' ⟨rfl, rfl⟩
   go_wp2_with fail
   refine (rTurn a 22 _ ha (by decide) (by decide)).mono ?_
   rintro e w' ⟨rfl, rfl⟩
   go_wp2_with fail
   go_roundw
   case rel =>
    rw [u_val ha hb hc]
    refine ⟨k + 1, by have := HK.out; omega, by go_num, ?_, ?_⟩
    ·rw [HE.out]
     refine ⟨?_, rfl, rfl, rfl, ?_, rfl, rfl, rfl⟩
     ·simp only [rnd, rT, rU, HTT.out]
     ·simp only [rnd, rT, HTT.out]; congr 1
    ·obtain ⟨q, rfl⟩ := HQ.out
     exact ⟨q + nq, by rw [← HZ.out, World.drewN_drewN]⟩
   case measure => simp [intOf]; omega
  ·obtain rfl : k = 64 := by have := HK.out; omega
   have RO := qH (regs_ok (ws := numsW blk 64) hs8 64)
   have h0 : wr.cell? ⟨b, o, none⟩ = some (.int .u32 (nx s 0 : Int)) := by obtain ⟨q, rfl⟩ := HQ.out; exact f0
   have h1 : wr.cell? ⟨b, o + 1, none⟩ = some (.int .u32 (nx s 1 : Int)) := by obtain ⟨q, rfl⟩ := HQ.out; exact f1
   have h2 : wr.cell? ⟨b, o + 2, none⟩ = some (.int .u32 (nx s 2 : Int)) := by obtain ⟨q, rfl⟩ := HQ.out; exact f2
   have h3 : wr.cell? ⟨b, o + 3, none⟩ = some (.int .u32 (nx s 3 : Int)) := by obtain ⟨q, rfl⟩ := HQ.out; exact f3
   have h4 : wr.cell? ⟨b, o + 4, none⟩ = some (.int .u32 (nx s 4 : Int)) := by obtain ⟨q, rfl⟩ := HQ.out; exact f4
   have h5 : wr.cell? ⟨b, o + 5, none⟩ = some (.int .u32 (nx s 5 : Int)) := by obtain ⟨q, rfl⟩ := HQ.out; exact f5
   have h6 : wr.cell? ⟨b, o + 6, none⟩ = some (.int .u32 (nx s 6 : Int)) := by obtain ⟨q, rfl⟩ := HQ.out; exact f6
   have h7 : wr.cell? ⟨b, o + 7, none⟩ = some (.int .u32 (nx s 7 : Int)) := by obtain ⟨q, rfl⟩ := HQ.out; exact f7
   have HL : Hid (eatL s blk = sumL s (regs s (numsW blk 64) 64)) := rfl
   have HB2 : Hid (Below w.heap.size w wr) := by obtain ⟨q, rfl⟩ := HQ.out; exact below_drewN B.out q
   clear f0 f1 f2 f3 f4 f5 f6 f7 HC1 HC2 B HQ
   generalize regs s (numsW blk 64) 64 = r at *
   obtain ⟨a, b_, c_, d_, e_, f_, g_, h_⟩ := r
   go_wp2_with fail
   go_region_held (fun w' => w'.cell? ⟨b, o, none⟩ = some (.int .u32 (nx s 0 : Int)) ∧ w'.cell? ⟨b, o + 1, none⟩ = some (.int .u32 (nx s 1 : Int)) ∧ w'.cell? ⟨b, o + 2, none⟩ = some (.int .u32 (nx s 2 : Int)) ∧ w'.cell? ⟨b, o + 3, none⟩ = some (.int .u32 (nx s 3 : Int)) ∧ w'.cell? ⟨b, o + 4, none⟩ = some (.int .u32 (nx s 4 : Int)) ∧ w'.cell? ⟨b, o + 5, none⟩ = some (.int .u32 (nx s 5 : Int)) ∧ w'.cell? ⟨b, o + 6, none⟩ = some (.int .u32 (nx s 6 : Int)) ∧ w'.cell? ⟨b, o + 7, none⟩ = some (.int .u32 (nx s 7 : Int))) (go_keep) (fail)
   go_wp2_with fail
   have hv : ∀ x y : Nat, IntKind.u32.wrap ((x : Int) + (y : Int)) = (((x + y) % 4294967296 : Nat) : Int) := fun x y => by
    rw [IntKind.wrap_u32']; omega
   simp only [hv]
   go_ret
   rw [HL.out]
   exact RetK.mk (own_top ((sumL s ⟨a, b_, c_, d_, e_, f_, g_, h_⟩).map (kv .u32)) 106 HB2.out.size (kvs_one _ _) (by simp [sumL])).drew (HB2.out.alloc HB2.out.size _).drew
end
section
open Go.RowKit
def PadRow (j : Nat) : List UInt8 := 128 :: List.replicate j 0
theorem padRow_snoc (j : Nat) : PadRow (j + 1) = PadRow j ++ [0] := by
 unfold PadRow; rw [List.replicate_succ', List.cons_append]
theorem rTail (n : Nat) (w : World) (hn : n ≤ 1000000000) :
  Calls Tryz.prog 82 #[.int .i64 (n : Int)] w fun e w' => RetB 5 w (tailL n) e w' := by
 have HT : Hid (tailL n = PadRow (zerosOf n) ++ enc (8 * n) 8) := rfl
 have HZ : Hid (zerosOf n = (64 - (n + 9) % 64) % 64) := rfl
 generalize zerosOf n = z at *
 obtain ⟨m8, hm8⟩ : ∃ m : Nat, m = 8 * n := ⟨_, rfl⟩
 have i8 : 8 * (n : Int) = (m8 : Int) := by omega
 have i64 : (m8 : Int) % 18446744073709551616 = (m8 : Int) := by omega
 have HM := qH hm8
 clear hm8
 have hz64 : z < 64 := by have := HZ.out; omega
 go_enter Tryz.func82, Tryz.ntmps82
 go_wp2
 go_loopg [3] z (fun g v wr => ∃ j : Nat, j + g = z ∧ wr.ownsRow w.heap.size 5 1 v (j + 1) ((PadRow j).map bval) ∧ Below w.heap.size w wr)
 case atStart => exact ⟨0, by omega, own_top [.int .u8 128] 5 (Nat.le_refl _) (by simp [Value.oneCell']) (by decide), (Below.refl _ _).alloc (Nat.le_refl _) _⟩
 case round =>
  obtain ⟨j, hj, hown, hbel⟩ := hrel
  have hsz := hbel.size
  obtain ⟨A, c, rfl⟩ := own_slice hown
  cases gk with
  | zero =>
   obtain rfl : j = z := by omega
   have h0 : ((n : Int) + ((j : Int) + 1) + 8) % 64 = 0 := by have := HZ.out; omega
   have R := qH (Rd.of_own hown)
   have B := qH hbel
   clear hown hbel
   go_wp2_with fail
   refine (refPut m8 8 wr (by have := HM.out; omega) (by decide)).mono ?_
   rintro e w1 ⟨A1, n1, c1, rfl, hown1, hb⟩
   have P := qH (Rd.of_own hown1)
   obtain rfl : n1 = 8 := by rw [← P.out.1, enc_len]
   clear hown1
   replace R := qH (R.out.to hb)
   replace B := qH (B.out.trans (hb.mono B.out.size))
   clear hb
   go_wp2_with fail
   refine (refCat A A1 (j + 1) 8 c c1 _ _ w1 R.out P.out (by omega)).mono ?_
   rintro e w2 ⟨A2, n2, c2, rfl, hown2, hb⟩
   have O := qH (RetB.from B.out (RetB.mk hown2 hb))
   clear hown2 hb
   go_wp2_with fail
   go_ret
   rw [HT.out, ← HM.out]
   exact O.out
  | succ g =>
   have h0 : ¬ (((n : Int) + ((j : Int) + 1) + 8) % 64 = 0) := by have := HZ.out; omega
   have HE := qH (padRow_snoc j)
   go_wp2_with (at_builtin; refine wpList_push isU8 rfl _ _ rfl rfl rfl hown hbel hsz (by omega) 0 rfl ?_; intro v1 w1 hown1 hbel1 hsz1)
   go_roundg g
   case measure => omega
   case rel => exact ⟨j + 1, by omega, by rw [HE.out]; exact hown1, hbel1⟩
def fillB (bs : List UInt8) (m : Nat) : List UInt8 := bs.take m ++ List.replicate (bs.length - m) 0
theorem fillB_len {bs : List UInt8} {m : Nat} (h : m ≤ bs.length) : (fillB bs m).length = bs.length := by simp [fillB]; omega
theorem fillB_zero (bs : List UInt8) : fillB bs 0 = List.replicate bs.length 0 := by simp [fillB]
theorem fillB_all (bs : List UInt8) : fillB bs bs.length = bs := by simp [fillB]
theorem fillB_set {bs : List UInt8} {m : Nat} (h : m < bs.length) : (fillB bs m).set m (bs.getD m 0) = fillB bs (m + 1) := by
 unfold fillB
 rw [List.set_append_right _ _ (by simp; omega), take_snoc_getD h, show bs.length - m = (bs.length - (m + 1)) + 1 from by omega, List.replicate_succ]
 simp [Nat.min_eq_left (Nat.le_of_lt h)]
theorem printL_at : ∀ (s : List Nat) (k j : Nat), k < s.length → j < 4 → (printL s).getD (4 * k + j) 0 = (enc (nx s k) 4).getD j 0
 | [], _, _, h, _ => by simp at h
 | x :: s, 0, j, _, hj => by
  simp only [printL, List.map_cons, List.flatten_cons, Nat.mul_zero, Nat.zero_add, nx, List.getD_cons_zero]
  simp only [List.getD]
  rw [List.getElem?_append_left (by rw [enc_len]; exact hj)]
 | x :: s, k + 1, j, h, hj => by
  have ih := printL_at s k j (by simpa using h) hj
  simp only [printL, List.map_cons, List.flatten_cons, nx, List.getD_cons_succ] at ih ⊢
  rw [← ih]
  simp only [List.getD]
  rw [List.getElem?_append_right (by rw [enc_len]; omega), enc_len, show 4 * (k + 1) + j - 4 = 4 * k + j from by omega]
theorem arrB_zeros (n : Nat) : arrB (List.replicate n 0) = Array.replicate n (Value.int .u8 0) := by
 unfold arrB
 rw [List.map_replicate]
 exact List.toArray_replicate ..
theorem tag_info : (Tryz.prog.info? 23).map (fun i => (i.zero, i.size)) = some (some (.agg (Array.replicate 32 (.int .u8 0))), 32) := by kernel_rfl
def zeros32 : List UInt8 := List.replicate 32 0
theorem tag_zero (w : World) : (zeroValue 23).run Tryz.prog w = .ok (.agg (arrB zeros32)) w := by
 rw [zeros32, arrB_zeros]; exact (zero_of_info tag_info).1 w
theorem tag_size {bs : List UInt8} (h : bs.length = 32) : (Tryz.prog.info? 23).map (·.size) = some (arrB bs).size := by
 rw [arrB_size, h]; exact (zero_of_info tag_info).2
def TagAt (w : World) (g : Nat) (bs : List UInt8) : Prop := bs.length = 32 ∧ w.heap[g]? = some (.cells (arrB bs) 23 (0, 0))
theorem TagAt.below {w w' : World} {g : Nat} {bs : List UInt8} (h : TagAt w g bs) (hb : Below w.heap.size w w') : TagAt w' g bs := by
 refine ⟨h.1, ?_⟩
 have hlt := heap_at_lt h.2
 rw [hb.block g hlt]; exact h.2
theorem TagAt.cell {w : World} {g j : Nat} {bs : List UInt8} (h : TagAt w g bs) (hj : j < 32) : w.cell? ⟨g, j, none⟩ = some (.int .u8 (nth bs j : Int)) ∧ w.frozen? ⟨g, j, none⟩ = false := by
 refine ⟨?_, by simp [World.frozen?, h.2]⟩
 rw [cell_of_row _ _ j _ _ (0, 0) h.2]
 exact arrB_at (by rw [h.1]; exact hj)
theorem TagAt.set {w : World} {g j : Nat} {bs : List UInt8} (h : TagAt w g bs) (y : UInt8) : TagAt (w.setCell ⟨g, j, none⟩ (.int .u8 (y.toNat : Int))) g (bs.set j y) := by
 refine ⟨by rw [List.length_set]; exact h.1, ?_⟩
 rw [heap_setCell_same _ _ _ _ _ _ h.2, arrB_set]
theorem TagAt.other {w : World} {g : Nat} {bs : List UInt8} (h : TagAt w g bs) (a : Addr) (v : Value) (hne : g ≠ a.block) : TagAt (w.setCell a v) g bs :=
 ⟨h.1, (Below.heap_setCell w a v g hne).trans h.2⟩
theorem two_tags (w : World) (bs : List UInt8) (h : bs.length = 32) : TagAt ((w.alloc (.cells (arrB bs) 23)).alloc (.cells (arrB bs) 23)) w.heap.size bs ∧ TagAt ((w.alloc (.cells (arrB bs) 23)).alloc (.cells (arrB bs) 23)) (w.heap.size + 1) bs :=
 ⟨⟨h, (two_blocks w _ _ _).1⟩, ⟨h, (two_blocks w _ _ _).2⟩⟩
def PrintRel (w : World) (out : List UInt8) (i : Value) (wr : World) : Prop :=
 ∃ k : Nat, k ≤ 8 ∧ i = .int .i64 (k : Int) ∧ TagAt wr w.heap.size zeros32 ∧ TagAt wr (w.heap.size + 1) (fillB out (4 * k)) ∧ Below w.heap.size w wr
def PrintRel2 (w : World) (out : List UInt8) (k gz : Nat) (row : List UInt8) (i : Value) (wr : World) : Prop :=
 ∃ j : Nat, j ≤ 4 ∧ i = .int .i64 (j : Int) ∧ TagAt wr w.heap.size zeros32 ∧ TagAt wr (w.heap.size + 1) (fillB out (4 * k + j)) ∧ Rd wr (gz + 1) (some ⟨gz, 0, none⟩) 4 row ∧ Below w.heap.size w wr
theorem rPrint (A : Option Addr) (c : Nat) (s : List Nat) (w : World) (hs : RdK .u32 w w.heap.size A 8 s) (hs8 : Is8 s) :
  Calls Tryz.prog 85 #[.slice A 8 c] w fun e w' => e = .returned (.agg (arrB (printL s))) ∧ Below w.heap.size w w' := by
 have HS := qH hs
 have HL := qH (printL_len hs8.1)
 have HZ := qH (tag_zero)
 have hz := tag_zero
 clear hs
 go_enter Tryz.func85, Tryz.ntmps85
 go_wp2
 clear hz
 go_loopw [4, 6] (fun i _ wr => PrintRel w (printL s) i wr) (fun i _ _ => 8 - (intOf i).toNat)
 case atStart =>
  have h := two_tags w zeros32 rfl
  refine ⟨0, Nat.zero_le _, rfl, h.1, ?_, ((Below.refl _ _).alloc (Nat.le_refl _) _).alloc (by simp) _⟩
  rw [Nat.mul_zero, fillB_zero, HL.out]; exact h.2
 case round =>
  obtain ⟨k, hk, rfl, h0, h1, hb⟩ := hrel
  have T0 := qH h0
  have T1 := qH h1
  have B := qH hb
  have HK := qH hk
  clear h0 h1 hb hk
  by_cases h8 : (k : Int) < 8
  ·obtain ⟨b, o, rfl, hbo, hc⟩ := HS.out.2 (by decide)
   have hcell : wr.cell? ⟨b, o + k, none⟩ = some (.int .u32 (nx s k : Int)) := (B.out.cell hbo).trans (hc k (by omega))
   have hlt := hs8.2 k
   clear hc
   have h64 : (nx s k : Int) % 18446744073709551616 = (nx s k : Int) := by omega
   go_wp2_with fail
   refine (refPut (nx s k) 4 wr (by omega) (by decide)).mono ?_
   rintro e w1 ⟨A1, n1, c1, rfl, hown1, hb⟩
   have R := qH (Rd.of_own hown1)
   obtain rfl : n1 = 4 := by rw [← R.out.1, enc_len]
   obtain ⟨gz, rfl, hgz⟩ := own_head hown1 (by decide)
   have hgz2 : w.heap.size + 1 < gz := Nat.lt_of_lt_of_le (heap_at_lt T1.out.2) hgz
   have HG := qH hgz2
   have T0' := qH (T0.out.below hb)
   have T1' := qH (T1.out.below hb)
   have R' : Hid (Rd w1 (gz + 1) (some ⟨gz, 0, none⟩) 4 (enc (nx s k) 4)) := by
    refine ⟨R.out.1, fun _ => ⟨gz, 0, rfl, by omega, fun j hj => ?_⟩⟩
    exact R.out.at hj
   have HP : Hid (∀ j, j < 4 → (printL s).getD (4 * k + j) 0 = (enc (nx s k) 4).getD j 0) := fun j hj => printL_at s k j (by rw [hs8.1]; omega) hj
   replace B := qH (B.out.trans (hb.mono B.out.size))
   clear hb
   clear hown1 R T0 T1 hgz hgz2 hcell h64 hlt
   generalize enc (nx s k) 4 = row at *
   go_wp2_with fail
   go_loopw [6] (fun i wr => PrintRel2 w (printL s) k gz row i wr) (fun i _ => 4 - (intOf i).toNat)
   case atStart => exact ⟨0, Nat.zero_le _, rfl, T0'.out, T1'.out, R'.out, B.out⟩
   case round =>
    obtain ⟨j, hj, rfl, h0, h1, hr, hb⟩ := hrel
    have T0 := qH h0
    have T1 := qH h1
    have R := qH hr
    have B := qH hb
    have HJ := qH hj
    clear h0 h1 hr hb hj
    by_cases h4 : (j : Int) < 4
    ·obtain ⟨k4, hk4⟩ : ∃ m : Nat, m = 4 * k := ⟨_, rfl⟩
     obtain ⟨q, hq⟩ : ∃ m : Nat, m = 4 * k + j := ⟨_, rfl⟩
     have e1 : 4 * (k : Int) = (k4 : Int) := by omega
     have e2 : (k4 : Int) + (j : Int) = (q : Int) := by omega
     have hq32 : (q : Int) < 32 := by omega
     have HQ := qH hq
     clear hk4 hq
     obtain ⟨hcell, hfr⟩ := T1.out.cell (j := q) (by omega)
     have hrow := R.out.at (j := j) (by omega)
     rw [Nat.zero_add] at hrow
     have HN : Hid ((nth row j : Int) = ((row.getD j 0).toNat : Int)) := rfl
     go_wp2_with fail
     go_roundw
     case rel =>
      rw [HN.out]
      refine ⟨j + 1, by omega, by go_num, T0.out.other _ _ (by show w.heap.size ≠ w.heap.size + 1; omega), ?_, R.out.setOther _ _ (by show gz ≠ w.heap.size + 1; have := HG.out; omega), B.out.setCell (by show w.heap.size ≤ w.heap.size + 1; omega) _⟩
      have h := T1.out.set (j := q) (row.getD j 0)
      rw [← HP.out j (by omega), ← HQ.out, fillB_set (by rw [HL.out, HQ.out]; omega), HQ.out] at h
      rw [← HP.out j (by omega), ← HQ.out, HQ.out, show 4 * k + (j + 1) = 4 * k + j + 1 from by omega]
      exact h
     case measure => simp [intOf]; omega
    ·obtain rfl : j = 4 := by have := HJ.out; omega
     go_wp2_with fail
     go_roundw
     case rel => exact ⟨k + 1, by omega, by go_num, T0.out, by rw [show 4 * (k + 1) = 4 * k + 4 from by omega]; exact T1.out, B.out⟩
     case measure => simp [intOf]; omega
  ·obtain rfl : k = 8 := by have := HK.out; omega
   have hfull : fillB (printL s) (4 * 8) = printL s := by
    have := fillB_all (printL s)
    rw [HL.out] at this; exact this
   rw [hfull] at T1
   have S1 := qH (tag_size HL.out)
   have E1 : Hid ((arrB zeros32).size = (arrB (printL s)).size) := by
    show _ = _
    rw [arrB_size, arrB_size, HL.out]; rfl
   go_wp2_with (first | (refine wpList_load_row rfl 23 _ rfl (w.heap.size + 1) rfl 23 (arrB (printL s)) (0, 0) _ T1.out.2 Tryz.underlying23 rfl S1.out ?_) | (refine wpList_store_row rfl 23 _ _ rfl w.heap.size (arrB (printL s)) rfl rfl 23 (arrB zeros32) T0.out.2 S1.out E1.out (arrB_one _) ?_))
   (try simp only [Exit.inBlock, Exit.then])
   refine bodyPost_ret (v := .agg (arrB (printL s))) ?_ rfl ⟨rfl, below_setRow B.out (Nat.le_refl _) _⟩
   exact results_cell_row rfl _ _ w.heap.size 23 (arrB (printL s)) (0, 0) _ rfl (setRow_heap _ _ _ _ _ _ T0.out.2) Tryz.underlying23 rfl S1.out
end
section
open Go.RowKit
def SumRel (w1 : World) (all : List UInt8) (m : Nat) (s i : Value) (wr : World) : Prop :=
 ∃ (k : Nat) (A : Option Addr) (c : Nat), k ≤ m ∧ i = .int .i64 ((64 * k : Nat) : Int) ∧ s = .slice A 8 c ∧ RdK .u32 wr wr.heap.size A 8 (eatAll shaF all k) ∧ Below w1.heap.size w1 wr
theorem rSum (A : Option Addr) (n c : Nat) (bs : List UInt8) (w : World) (ha : Rd w w.heap.size A n bs) (hn : n ≤ 1000000000) :
  Calls Tryz.prog 34 #[.slice A n c] w fun e w' => e = .returned (.agg (arrB (shaL bs))) ∧ Below w.heap.size w w' := by
 have hz := tag_zero
 have HR : Hid (shaL bs = printL (sumAll bs)) := rfl
 have HU : Hid (sumAll bs = eatAll shaF (bs ++ tailL bs.length) ((bs.length + (tailL bs.length).length) / 64)) := rfl
 have hl := ha.1
 have htl := tail_whole n
 have htl2 := tailL_len n
 have hzo : zerosOf n < 64 := by unfold zerosOf; omega
 rw [hl] at HU
 generalize hm : (n + (tailL n).length) / 64 = m at *
 have hL : n + (tailL n).length = 64 * m := by omega
 have T0 : Hid (TagAt (w.alloc (.cells (arrB zeros32) 23)) w.heap.size zeros32) := ⟨rfl, heap_alloc_last w _⟩
 have B : Hid (Below w.heap.size w (w.alloc (.cells (arrB zeros32) 23))) := (Below.refl _ _).alloc (Nat.le_refl _) _
 have R := qH (ha.grow (.cells (arrB zeros32) 23))
 have HLl := qH hL
 have HLb := qH hl
 have hln : (tailL n).length ≤ 100 := by omega
 have HT := qH hln
 clear ha htl htl2 hzo hm hL hl hln
 go_enter Tryz.func34, Tryz.ntmps34
 go_wp2_with fail
 clear hz
 generalize w.alloc (.cells (arrB zeros32) 23) = w0 at *
 refine (rTail n w0 hn).mono ?_
 rintro e w1 ⟨A1, n1, c1, rfl, hown1, hb⟩
 have P := qH (Rd.of_own hown1)
 have hn1 : n1 ≤ 100 := by rw [← P.out.1]; exact HT.out
 replace T0 := qH (T0.out.below hb)
 clear hown1
 replace R := qH (R.out.to hb)
 replace B := qH (B.out.trans (hb.mono B.out.size))
 clear hb
 go_wp2_with fail
 refine (refCat A A1 n n1 c c1 bs _ w1 R.out P.out (by omega)).mono ?_
 rintro e w2 ⟨A2, n2, c2, rfl, hown2, hb⟩
 have M := qH (Rd.of_own hown2)
 obtain ⟨hc2, hc2'⟩ := own_cap hown2
 have hn2 : n2 = 64 * m := by rw [← M.out.1, List.length_append, HLb.out]; exact HLl.out
 have HN2 := qH hn2
 replace T0 := qH (T0.out.below hb)
 clear hown2 P hn2
 replace B := qH (B.out.trans (hb.mono B.out.size))
 clear hb
 go_wp2_with fail
 refine (wFirstRow w2).mono ?_
 rintro e w3 ⟨A3, n3, c3, rfl, hown3, hb⟩
 have F := qH (RdK.of_own hown3)
 obtain rfl : n3 = 8 := by rw [← F.out.1]; rfl
 replace T0 := qH (T0.out.below hb)
 clear hown3
 replace M := qH (M.out.to hb)
 replace B := qH (B.out.trans (hb.mono B.out.size))
 clear hb
 generalize bs ++ tailL n = all at *
 go_wp2_with fail
 go_loopw [4, 5] (fun s i wr => SumRel w3 all m s i wr) (fun _ i _ => n2 - (intOf i).toNat)
 case atStart => exact ⟨0, A3, c3, Nat.zero_le _, rfl, rfl, F.out, Below.refl _ _⟩
 case round =>
  obtain ⟨k, A4, c4, hk, rfl, rfl, hs, hb⟩ := hrel
  have S := qH hs
  have BT := qH hb
  have M' := qH (M.out.to hb)
  obtain ⟨p, hp⟩ : ∃ p : Nat, p = 64 * k := ⟨_, rfl⟩
  rw [← hp]
  have HP := qH hp
  have HK := qH hk
  have H8 := qH (eatAll_8 shaF_8 all k)
  clear hs hb hk hp
  by_cases hlt : p < n2
  ·have hkm : k < m := by have := HP.out; have := HN2.out; omega
   have hp64 : p + 64 ≤ n2 := by have := HP.out; have := HN2.out; omega
   obtain ⟨A5, c5, s5, hr5, hc5, hc5'⟩ := slice_lh isU8 A2 (l := p) (h := p + 64) (by omega) hp64 hc2
   replace s5 := s5 .i64 .i64
   rw [show p + 64 - p = 64 from by omega] at s5 hr5 hc5
   have e1 : ((p + 64 : Nat) : Int) = (p : Int) + 64 := by omega
   rw [e1] at s5
   have R5 := qH (hr5 _ _ _ M'.out)
   have HE : Hid (eatAll shaF all (k + 1) = eatL (eatAll shaF all k) ((all.take (p + 64)).drop p)) := by rw [HP.out]; rfl
   have HKM := qH hkm
   clear hr5 e1 hkm
   go_wp2_with fail
   refine (rEat A4 A5 c4 c5 _ _ wr S.out H8.out R5.out hc5 (by omega)).mono ?_
   rintro e w4 ⟨A6, n6, c6, rfl, hown6, hb⟩
   have F6 := qH (RdK.of_own hown6)
   rw [← HE.out] at F6
   obtain rfl : n6 = 8 := by rw [← F6.out.1]; exact (eatAll_8 shaF_8 all (k + 1)).1
   have BT' := qH (BT.out.trans (hb.mono BT.out.size))
   clear hown6 hb
   go_wp2_with fail
   go_roundw
   case rel => exact ⟨k + 1, A6, c6, HKM.out, by have := HP.out; rw [show 64 * (k + 1) = p + 64 from by omega]; go_num, rfl, F6.out, BT'.out⟩
   case measure => simp [intOf]; omega
  ·obtain rfl : k = m := by have := HP.out; have := HN2.out; have := HK.out; omega
   have T1 := qH (T0.out.below BT.out)
   have B1 := qH (B.out.trans (BT.out.mono B.out.size))
   clear T0 B BT M'
   go_wp2_with fail
   refine (rPrint A4 c4 _ wr S.out H8.out).mono ?_
   rintro e w5 ⟨rfl, hb⟩
   rw [← HU.out, ← HR.out]
   have T2 := qH (T1.out.below hb)
   have B2 := qH (B1.out.trans (hb.mono B1.out.size))
   have S1 := qH (tag_size (shaL_len bs))
   have E1 : Hid ((arrB zeros32).size = (arrB (shaL bs)).size) := by
    show _ = _
    rw [arrB_size, arrB_size, shaL_len]; rfl
   clear hb
   go_wp2_with (refine wpList_store_row rfl 23 _ _ rfl w.heap.size (arrB (shaL bs)) rfl rfl 23 (arrB zeros32) T2.out.2 S1.out E1.out (arrB_one _) ?_)
   (try simp only [Exit.inBlock, Exit.then])
   refine bodyPost_ret (v := .agg (arrB (shaL bs))) ?_ rfl ⟨rfl, below_setRow B2.out (Nat.le_refl _) _⟩
   exact results_cell_row rfl _ _ w.heap.size 23 (arrB (shaL bs)) (0, 0) _ rfl (setRow_heap _ _ _ _ _ _ T2.out.2) Tryz.underlying23 rfl S1.out
end
section
open Go.RowKit
theorem TagAt.range {w : World} {g : Nat} {bs : List UInt8} (h : TagAt w g bs) : w.rangeAt g 0 (bs.map bval) := fun j v hv => by
 rw [Nat.zero_add, cell_of_row _ _ j _ _ (0, 0) h.2]
 simpa [arrB] using hv
theorem TagAt.rd {w : World} {g : Nat} {bs : List UInt8} (h : TagAt w g bs) : Rd w w.heap.size (some ⟨g, 0, none⟩) 32 bs :=
 ⟨h.1, fun _ => ⟨g, 0, rfl, heap_at_lt h.2, fun j hj => by rw [Nat.zero_add]; exact (h.cell hj).1⟩⟩
theorem TagAt.setRow {w : World} {g : Nat} {old bs : List UInt8} (h : TagAt w g old) (hl : bs.length = 32) : TagAt (w.setRow g (arrB bs)) g bs := ⟨hl, setRow_heap _ _ _ _ _ _ h.2⟩
end
section
open Go.RowKit
theorem OwR.tag {w : World} {B g : Nat} {bs : List UInt8} (h : TagAt w g bs) (hg : B ≤ g) : OwR w B (some ⟨g, 0, none⟩) 32 bs :=
 ⟨h.rd, fun _ => ⟨g, 0, rfl, hg, fun j hj => by rw [Nat.zero_add]; exact (h.cell hj).2⟩⟩
end
section
end
section
def shortL (k : List UInt8) : List UInt8 := if k.length ≤ 64 then k else shaL k
theorem shortL_len (k : List UInt8) : (shortL k).length ≤ 64 := by
 unfold shortL
 split
 ·assumption
 ·rw [shaL_len]; decide
def maskL (k : List UInt8) (x : UInt8) : List UInt8 := (List.range 64).map fun i => (shortL k).getD i 0 ^^^ x
theorem maskL_len (k : List UInt8) (x : UInt8) : (maskL k x).length = 64 := by simp [maskL]
def hmacL (k b : List UInt8) : List UInt8 := shaL (maskL k 92 ++ shaL (maskL k 54 ++ b))
theorem hmacL_len (k b : List UInt8) : (hmacL k b).length = 32 := shaL_len _
def formL (label : List UInt8) (l : List Nat) : List UInt8 := label ++ [0] ++ (l.map fun x => enc x 8).flatten
theorem formL_len (label : List UInt8) (l : List Nat) : (formL label l).length = label.length + 1 + 8 * l.length := by
 unfold formL
 rw [List.length_append, List.length_append]
 have : ∀ l : List Nat, ((l.map fun x => enc x 8).flatten).length = 8 * l.length := by
  intro l
  induction l with
  | nil => rfl
  | cons x l ih => rw [List.map_cons, List.flatten_cons, List.length_append, enc_len, ih, List.length_cons]; omega
 rw [this]; rfl
def maskN (s : List UInt8) (x : UInt8) (n : Nat) : List UInt8 := (List.range n).map fun i => s.getD i 0 ^^^ x
theorem maskN_succ (s : List UInt8) (x : UInt8) (n : Nat) : maskN s x (n + 1) = maskN s x n ++ [s.getD n 0 ^^^ x] := by
 unfold maskN
 rw [List.range_succ, List.map_append]; rfl
theorem maskN_all (k : List UInt8) (x : UInt8) : maskN (shortL k) x 64 = maskL k x := rfl
def u64N (x : Int) : Nat := (x % 18446744073709551616).toNat
theorem u64N_lt (x : Int) : u64N x < 18446744073709551616 := by unfold u64N; omega
theorem u64N_eq (x : Int) : x % 18446744073709551616 = (u64N x : Int) := by unfold u64N; omega
def formI (label : List UInt8) (l : List Int) : List UInt8 := formL label (l.map u64N)
theorem formI_nil (label : List UInt8) : formI label [] = label ++ [0] := by simp [formI, formL]
theorem formI_snoc (label : List UInt8) (l : List Int) (x : Int) : formI label (l ++ [x]) = formI label l ++ enc (u64N x) 8 := by
 simp [formI, formL]
theorem formI_len (label : List UInt8) (l : List Int) : (formI label l).length = label.length + 1 + 8 * l.length := by
 unfold formI
 rw [formL_len, List.length_map]
end
section
open Go.RowKit
def arrN (k : IntKind) (xs : List Nat) : Array Value := (xs.map (kv k)).toArray
theorem arrN_size (k : IntKind) (xs : List Nat) : (arrN k xs).size = xs.length := by simp [arrN]
theorem arrN_at {k : IntKind} {xs : List Nat} {j : Nat} (h : j < xs.length) : (arrN k xs)[j]? = some (.int k (nx xs j : Int)) := by
 simp [arrN, h, nx_of_lt h, kv]
theorem arrN_one (k : IntKind) (xs : List Nat) : (arrN k xs).all (·.oneCell') = true := by
 rw [Array.all_eq_true]
 intro i hi
 simp [arrN, kv]
 rfl
end
section
open Go.RowKit
def TbRel (w : World) (t : List UInt8) (v i : Value) (wr : World) : Prop :=
 ∃ k : Nat, k ≤ 32 ∧ i = .int .i64 (k : Int) ∧ wr.ownsRow (w.heap.size + 1) 5 1 v k ((t.take k).map bval) ∧ wr.heap[w.heap.size]? = some (.cells (arrB t) 23 (0, 0)) ∧ Below (w.heap.size + 1) (w.alloc (.cells (arrB t) 23)) wr
theorem rTagBytes (t : List UInt8) (w : World) (hl : t.length = 32) :
  Calls Tryz.prog 89 #[.agg (arrB t)] w fun e w' => RetB 5 w t e w' := by
 have HS := qH hl
 clear hl
 go_enter Tryz.func89, Tryz.ntmps89
 go_wp2
 go_loopw [3, 4] (fun v i wr => TbRel w t v i wr) (fun _ i _ => 32 - (intOf i).toNat)   -- the slots: look at ops.sh
 case atStart => exact ⟨0, Nat.zero_le _, rfl, by simpa using World.ownsRow_nil _ _ 5 1, heap_alloc_last w _, Below.refl _ _⟩
 case round =>
  obtain ⟨k, hk, rfl, hown, hh, hb⟩ := hrel
  have HO := qH hown
  have HH := qH hh
  have HB := qH hb
  have HK := qH hk
  have hsz : w.heap.size + 1 ≤ wr.heap.size := by have := hb.size; simpa using this
  clear hown hh hb hk
  by_cases h32 : (k : Int) < 32
  ·have hcell : wr.cell? ⟨w.heap.size, k, none⟩ = some (.int .u8 (nth t k : Int)) := by
    rw [cell_of_row _ _ k _ _ (0, 0) HH.out]
    exact arrB_at (by rw [HS.out]; omega)
   have HE := qH (take_snoc_getD (bs := t) (k := k) (by rw [HS.out]; omega))
   have HN : Hid ((nth t k : Int) = ((t.getD k 0).toNat : Int)) := rfl
   go_wp2_with (at_builtin; refine wpList_push isU8 rfl _ _ rfl rfl rfl HO.out HB.out hsz (by have := HK.out; omega) (t.getD k 0) HN.out ?_; intro v1 w1 hown1 hbel1 hsz1)
   go_roundw
   case rel =>
    refine ⟨k + 1, by omega, by go_num, by rw [HE.out]; exact hown1, ?_, hbel1⟩
    rw [hbel1.block _ (Nat.lt_succ_self _)]; exact heap_alloc_last w _
   case measure => simp [intOf]; omega
  ·obtain rfl : k = 32 := by have := HK.out; omega
   have e : t.take 32 = t := List.take_of_length_le (by rw [HS.out]; exact Nat.le_refl _)
   have h := HO.out
   rw [e] at h
   have h1 := qH (own_mono h (Nat.le_succ _))
   have h2 : Hid (Below w.heap.size w wr) := ((Below.refl w.heap.size w).alloc (Nat.le_refl _) _).trans (HB.out.mono (Nat.le_succ _))
   clear h e
   go_wp2
   go_ret
   exact RetB.mk h1.out h2.out
theorem rShort (A : Option Addr) (n c : Nat) (k : List UInt8) (w : World) (ha : Rd w w.heap.size A n k) (hn : n ≤ 1000000000) :
  Calls Tryz.prog 163 #[.slice A n c] w fun e w' => RetB 5 w (shortL k) e w' := by
 have HA := qH ha
 clear ha
 by_cases h64 : n ≤ 64
 ·have HE : Hid (shortL k = k) := if_pos (by rw [HA.out.1]; exact h64)
  go_enter Tryz.func163, Tryz.ntmps163
  go_wp2_with fail
  refine (refCopy A n c k w HA.out (by omega)).mono ?_
  rintro e w1 h
  rw [← HE.out] at h
  have H := qH h
  obtain ⟨A1, n1, c1, rfl, _, _⟩ := h
  go_wp2_with fail
  go_ret
  exact H.out
 ·have HE : Hid (shortL k = shaL k) := if_neg (by rw [HA.out.1]; exact h64)
  go_enter Tryz.func163, Tryz.ntmps163
  go_wp2_with fail
  refine (rSum A n c k w HA.out hn).mono ?_
  rintro e w1 ⟨rfl, hb⟩
  have B := qH hb
  go_wp2_with fail
  refine (rTagBytes (shaL k) w1 (shaL_len k)).mono ?_
  rintro e w2 h
  rw [← HE.out] at h
  have H := qH (RetB.from B.out h)
  obtain ⟨A1, n1, c1, rfl, _, _⟩ := h
  go_wp2_with fail
  go_ret
  exact H.out
def MaskRel (w1 : World) (s : List UInt8) (x : UInt8) (v i : Value) (wr : World) : Prop :=
 ∃ k : Nat, k ≤ 64 ∧ i = .int .i64 (k : Int) ∧ wr.ownsRow w1.heap.size 5 1 v k ((maskN s x k).map bval) ∧ Below w1.heap.size w1 wr
theorem rMasked (A : Option Addr) (n c : Nat) (k : List UInt8) (x : UInt8) (w : World) (ha : Rd w w.heap.size A n k) (hn : n ≤ 1000000000) :
  Calls Tryz.prog 119 #[.slice A n c, .int .u8 (x.toNat : Int)] w fun e w' => RetB 5 w (maskL k x) e w' := by
 have HE := qH (maskN_all k x)
 have HL := qH (shortL_len k)
 go_enter Tryz.func119, Tryz.ntmps119
 go_wp2_with fail
 refine (rShort A n c k w ha hn).mono ?_
 rintro e w1 ⟨A1, n1, c1, rfl, hown1, hb⟩
 have R := qH (Rd.of_own hown1)
 obtain ⟨hcp, hcp'⟩ := own_cap hown1
 have B := qH hb
 clear hown1 hb ha
 generalize shortL k = s at *
 have hn1 : n1 ≤ 64 := by rw [← R.out.1]; exact HL.out
 have HN1 := qH hn1
 go_wp2_with fail
 go_loopw [6, 7, 8] (fun v i _ wr => MaskRel w1 s x v i wr) (fun _ i _ _ => 64 - (intOf i).toNat)
 case atStart => exact ⟨0, Nat.zero_le _, rfl, by simpa [maskN] using World.ownsRow_nil w1 w1.heap.size 5 1, Below.refl _ _⟩
 case round =>
  obtain ⟨j, hj, rfl, hown, hb⟩ := hrel
  have HO := qH hown
  have HB := qH hb
  have HJ := qH hj
  have hsz := hb.size
  have HM := qH (maskN_succ s x j)
  clear hown hb hj
  by_cases h64 : (j : Int) < 64
  ·by_cases h1 : (j : Int) < (n1 : Int)
   ·obtain ⟨b, o, rfl, hbo, hc⟩ := R.out.2 (by omega)
    have hcell : wr.cell? ⟨b, o + j, none⟩ = some (.int .u8 (nth s j : Int)) := (HB.out.cell hbo).trans (hc j (by omega))
    clear hc
    have hx := xor_u8 (s.getD j 0) x
    change bits .xor .u8 (nth s j : Int) _ = _ at hx
    generalize s.getD j 0 ^^^ x = y at *
    go_wp2_with (at_builtin; refine wpList_push isU8 rfl _ _ rfl rfl rfl HO.out HB.out hsz (by omega) y rfl ?_; intro v1 w2 hown1 hbel1 hsz1)
    go_roundw
    case rel => exact ⟨j + 1, by omega, by go_num, by rw [HM.out]; exact hown1, hbel1⟩
    case measure => simp [intOf]; omega
   ·have hx := xor_u8 0 x
    have e0 : s.getD j 0 = 0 := by simp [List.getD, List.getElem?_eq_none (show s.length ≤ j by rw [R.out.1]; omega)]
    rw [e0] at HM
    change bits .xor .u8 (0 : Int) _ = _ at hx
    generalize (0 : UInt8) ^^^ x = y at *
    clear e0
    go_wp2_with (at_builtin; refine wpList_push isU8 rfl _ _ rfl rfl rfl HO.out HB.out hsz (by omega) y rfl ?_; intro v1 w2 hown1 hbel1 hsz1)
    go_roundw
    case rel => exact ⟨j + 1, by omega, by go_num, by rw [HM.out]; exact hown1, hbel1⟩
    case measure => simp [intOf]; omega
  ·obtain rfl : j = 64 := by have := HJ.out; omega
   go_wp2_with fail
   go_ret
   have h := RetB.mk HO.out HB.out
   rw [HE.out] at h
   exact h.from B.out
end
section
open Go.RowKit Go.ChangeShapes Go.WideShapes Go.Deep
structure Fld where
 what : Int
 x : UInt8
 n : Int
 is : Bool
 b : List UInt8
 t : List UInt8
theorem rangeAt_below {w w' : World} {B b o : Nat} {cs : List Value} (h : w.rangeAt b o cs) (hb : Below B w w') (hlt : b < B) : w'.rangeAt b o cs := fun j v hv => (hb.cell (by exact hlt)).trans (h j v hv)
section
variable {H : Type} {enc : TypeId × Value → H} {W : World} {base : Nat} {held : Bool}
end
end
section
open Go.RowKit
def flagB (b : Bool) : UInt8 := if b then 1 else 0
theorem rIntB (n : Int) (w : World) : Calls Tryz.prog 86 #[.int .i64 n] w fun e w' => RetB 5 w (enc (u64N n) 8) e w' := by
 have h64 : IntKind.u64.wrap n = (u64N n : Int) := by rw [← u64N_eq]; simp only [IntKind.wrap_u64]
 have HL := qH (u64N_lt n)
 go_enter Tryz.func86, Tryz.ntmps86
 go_wp2_with fail
 refine (refPut (u64N n) 8 w HL.out (by decide)).mono ?_
 rintro e w1 h
 have H := qH h
 obtain ⟨A1, n1, c1, rfl, _, _⟩ := h
 go_wp2_with fail
 go_ret
 exact H.out
theorem rFlagB (b : Bool) (w : World) : Calls Tryz.prog 152 #[.bool b] w fun e w' => RetB 5 w [flagB b] e w' := by
 have h1 := fun (z : Int) => own_top (w := w) (B := w.heap.size) [.int .u8 z] 5 (Nat.le_refl _) (fun u hu => by simp at hu; subst hu; rfl) (by simp)
 have hb := fun (z : Int) => (Below.refl w.heap.size w).alloc (Nat.le_refl _) (.cells #[.int .u8 z] 5)
 have H1 := qH h1
 have HB := qH hb
 clear h1 hb
 go_enter Tryz.func152, Tryz.ntmps152
 cases b
 ·go_wp2
  go_ret
  exact ⟨_, _, _, rfl, H1.out 0, HB.out 0⟩
 ·go_wp2
  go_ret
  exact ⟨_, _, _, rfl, H1.out 1, HB.out 1⟩
theorem rBytesB (A : Option Addr) (m c : Nat) (bs : List UInt8) (w : World) (ha : Rd w w.heap.size A m bs) (hm : m ≤ 1000000000) :
  Calls Tryz.prog 87 #[.slice A m c] w fun e w' => RetB 5 w (enc m 4 ++ bs) e w' := by
 have HA := qH ha
 have h64 : IntKind.u64.wrap (m : Int) = (m : Int) := by simp only [IntKind.wrap_u64]; omega
 have HL := qH (enc_len m 4)
 clear ha
 go_enter Tryz.func87, Tryz.ntmps87
 go_wp2_with fail
 refine (refPut m 4 w (by omega) (by decide)).mono ?_
 rintro e w1 ⟨A1, n1, c1, rfl, hown1, hb⟩
 have U := qH (Rd.of_own hown1)
 obtain rfl : n1 = 4 := (Rd.of_own hown1).1.symm.trans HL.out
 have B := qH hb
 replace HA := qH (HA.out.to hb)
 clear hown1 hb
 go_wp2_with fail
 refine (refCat A1 A 4 m c1 c _ bs w1 U.out HA.out (by omega)).mono ?_
 rintro e w2 h
 have H := qH (RetB.from B.out h)
 obtain ⟨A2, n2, c2, rfl, _, _⟩ := h
 go_wp2_with fail
 go_ret
 exact H.out
theorem rTagB (t : List UInt8) (w : World) (hl : t.length = 32) : Calls Tryz.prog 36 #[.agg (arrB t)] w fun e w' => RetB 5 w t e w' := by
 have S1 := qH (tag_size hl)
 have B : Hid (Below w.heap.size w (w.alloc (.cells (arrB t) 23))) := (Below.refl _ _).alloc (Nat.le_refl _) _
 go_enter Tryz.func36, Tryz.ntmps36
 go_wp2_with (refine wpList_load_row rfl 23 _ rfl w.heap.size rfl 23 (arrB t) (0, 0) _ (heap_alloc_last w _) Tryz.underlying23 rfl S1.out ?_)
 refine (rTagBytes t _ hl).mono ?_
 rintro e w1 h
 have H := qH (RetB.from B.out h)
 obtain ⟨A1, n1, c1, rfl, _, _⟩ := h
 go_wp2_with fail
 go_ret
 exact H.out
end
end Go.Proofs.YtlmdidblgeeplaaGreatDoor