/- Contracts of the document's own number functions (citadelref01): Put, Number, Load. -/
import Derived.Test.YtopilgedcnbdaaaGreatDoorTz
import Derived.Test.YtopilgedcnbdaaaGreatDoorRefA
import Derived.Test.YtopilgedcnbdaaaGreatDoorNum
namespace Go.Proofs.YtopilgedcnbdaaaGreatDoor
set_option maxRecDepth 1000000
set_option maxHeartbeats 8000000
open Go.RowKit
set_option linter.unusedVariables false
def PutRel (B n : Nat) (w : World) (x : Nat) (y v i : Value) (wr : World) : Prop :=
 ∃ k : Nat, k ≤ n ∧ i = .int .i64 k ∧ y = .int .u64 ((x / 256 ^ k : Nat) : Int) ∧ wr.ownsRow B 5 1 v k ((enc x k).reverse.map bval) ∧ Below B w wr
def PutRel2 (B n : Nat) (w : World) (bs : List UInt8) (v i : Value) (wr : World) : Prop :=
 ∃ j : Nat, j ≤ n ∧ i = .int .i64 ((n : Int) - 1 - j) ∧ wr.ownsRow B 5 1 v j ((bs.take j).map bval) ∧ Below B w wr
theorem refPut (x n : Nat) (w : World) (hx : x < 18446744073709551616) (hn : n ≤ 8) :
  Calls Tryz.prog 61 #[.int .u64 (x : Int), .int .i64 (n : Int)] w fun e w' => RetB 5 w (enc x n) e w' := by
 go_enter Tryz.func61, Tryz.ntmps61
 go_wp2
 go_loopw [0, 5, 6] (fun y v i wr => PutRel w.heap.size n w x y v i wr) (fun _ _ i _ => n - (intOf i).toNat)
 case atStart => exact ⟨0, Nat.zero_le _, rfl, by simp, by simpa [enc] using World.ownsRow_nil w w.heap.size 5 1, Below.refl _ _⟩
 case round =>
  obtain ⟨k, hk, rfl, rfl, hown, hbel⟩ := hrel
  have hsz := hbel.size
  by_cases hlt : k < n
  ·have hq : x / 256 ^ k ≤ x := Nat.div_le_self _ _
   generalize hy : x / 256 ^ k = y at *
   have HY := qH hy
   clear hy
   go_wp2_with (at_builtin; refine wpList_push isU8 rfl _ _ rfl rfl rfl hown hbel hsz (by omega) (UInt8.ofNat y) (u8_mod y) ?_; intro v1 w1 hown1 hbel1 hsz1)
   go_roundw
   case rel => exact ⟨k + 1, by omega, by go_num, by rw [Nat.pow_succ, ← Nat.div_div_eq_div_mul, HY.out]; go_num, by simp only [enc, List.reverse_cons, HY.out]; exact hown1, hbel1⟩
   case measure => simp [intOf]; omega
  ·obtain rfl : k = n := by omega
   generalize hy : x / 256 ^ k = y at *
   clear hy
   obtain ⟨A, c, rfl⟩ := own_slice hown
   have HR := qH (Rd.of_own hown)
   clear hown
   obtain ⟨wo, rfl⟩ : ∃ wo : World, wo = wr := ⟨_, rfl⟩
   go_wp2
   go_loopw [7, 8] (fun v i wr => PutRel2 wo.heap.size k wo (enc x k) v i wr) (fun _ i _ => (intOf i + 1).toNat)
   case atStart => exact ⟨0, Nat.zero_le _, by go_num, by simpa using World.ownsRow_nil wo wo.heap.size 5 1, Below.refl _ _⟩
   case round =>
    obtain ⟨j, hj, rfl, hown, hbel2⟩ := hrel
    have hsz2 := hbel2.size
    by_cases hlt : j < k
    ·obtain ⟨i, hi⟩ : ∃ i, i = k - 1 - j := ⟨_, rfl⟩
     obtain ⟨b, o, rfl, hbo, hc⟩ := HR.out.2 (by omega)
     have hcell : wr.cell? ⟨b, o + i, none⟩ = some (.int .u8 (nth (enc x k).reverse i : Int)) := (hbel2.cell hbo).trans (hc i (by omega))
     clear hc
     have HI := qH hi
     have ei : ((k : Int) - 1 - j) = (i : Int) := by omega
     clear hi
     rw [ei]
     have hik : i < k := by have := HI.out; omega
     clear ei
     go_wp2_with (at_builtin; refine wpList_push isU8 rfl _ _ rfl rfl rfl hown hbel2 hsz2 (by omega) ((enc x k).reverse.getD i 0) rfl ?_; intro v1 w1 hown1 hbel1 hsz1)
     go_roundw
     case rel => exact ⟨j + 1, by omega, by rw [show (k : Int) - 1 - ((j + 1 : Nat) : Int) = (i : Int) - 1 from by have := HI.out; omega], by
      rw [take_snoc_getD (by rw [enc_len]; exact hlt), ← rev_getD (i := i) (by rw [enc_len]; have := HI.out; omega)]; exact hown1, hbel1⟩
     case measure => simp [intOf]
    ·obtain rfl : j = k := by omega
     rw [show (j : Int) - 1 - j = -1 from by omega]
     go_wp2
     go_ret
     refine RetB.mk (own_mono (by rw [List.take_of_length_le (by rw [enc_len]; exact Nat.le_refl _)] at hown; exact hown) hsz) (hbel.trans (hbel2.mono hsz))
def RNumRel (n : Nat) (bs : List UInt8) (x u i : Value) : Prop :=
 ∃ j : Nat, j ≤ n ∧ i = .int .i64 ((n : Int) - 1 - j) ∧ x = .int .u64 ((num (bs.drop (n - j)) : Nat) : Int) ∧ u = .int .u64 ((256 ^ j % 18446744073709551616 : Nat) : Int)
def numOf (bs : List UInt8) : Nat := if bs.length = 0 ∨ 8 < bs.length then 0 else num bs
def numOk (bs : List UInt8) : Bool := decide (0 < bs.length ∧ bs.length ≤ 8)
theorem refNumber (A : Option Addr) (n c B : Nat) (bs : List UInt8) (w : World) (ha : Rd w B A n bs) (hn : n ≤ 140737488355328) :
  Calls Tryz.prog 83 #[.slice A n c] w fun e w' => e = .returned (.tuple #[.int .u64 (numOf bs : Int), .bool (numOk bs)]) ∧ w = w' := by
 by_cases h0 : n = 0
 ·subst h0
  go_enter Tryz.func83, Tryz.ntmps83
  go_wp2
  go_ret2
  refine ⟨?_, rfl⟩
  have hl := ha.1
  rw [show numOf bs = 0 from by unfold numOf; rw [if_pos (by omega)], show numOk bs = false from by simp [numOk]; omega]
  rfl
 ·have h0' : ((n : Int) == 0) = false := by simp; omega
  by_cases h8 : 8 < n
  ·go_enter Tryz.func83, Tryz.ntmps83
   go_wp2
   go_ret2
   refine ⟨?_, rfl⟩
   have hl := ha.1
   rw [show numOf bs = 0 from by unfold numOf; rw [if_pos (by omega)], show numOk bs = false from by simp [numOk]; omega]
   rfl
  ·have HA := qH ha
   clear ha
   have H0 := qH h0'
   clear h0'
   go_enter Tryz.func83, Tryz.ntmps83
   have h0' := H0.out
   go_wp2
   clear h0'
   go_loop [4, 5, 6] (fun x u i => RNumRel n bs x u i) (fun _ _ i => (intOf i + 1).toNat)
   case atStart => exact ⟨0, Nat.zero_le _, by go_num, by rw [Nat.sub_zero, ← HA.out.1, List.drop_length]; rfl, rfl⟩
   case round =>
    obtain ⟨j, hj, rfl, rfl, rfl⟩ := hrel
    by_cases hlt : j < n
    ·obtain ⟨i, hi⟩ : ∃ i, i = n - 1 - j := ⟨_, rfl⟩
     obtain ⟨b, o, rfl, hbo, hc⟩ := HA.out.2 (by omega)
     have hcell : w.cell? ⟨b, o + i, none⟩ = some (.int .u8 (nth bs i : Int)) := hc i (by omega)
     clear hc
     have HI := qH hi
     have ei : ((n : Int) - 1 - j) = (i : Int) := by omega
     clear hi
     rw [ei]
     have hik : i < n := by have := HI.out; omega
     clear ei
     generalize hx : num (bs.drop (n - j)) = x
     generalize hu : 256 ^ j % 18446744073709551616 = u
     have HX := qH hx
     have HU := qH hu
     clear hx hu
     go_wp2
     go_round
     case rel =>
      rw [wrap_step _ _ _ (nth_lt _ _), wrap_unit]
      refine ⟨j + 1, by omega, by rw [show (n : Int) - 1 - ((j + 1 : Nat) : Int) = (i : Int) - 1 from by have := HI.out; omega], ?_, ?_⟩
      ·rw [← HX.out, ← HU.out, num_step HA.out.1 (by omega) HI.out hlt]
      ·rw [← HU.out, Nat.mod_mul_mod, Nat.pow_succ]
     case measure => simp [intOf]
    ·obtain rfl : j = n := by omega
     rw [show (j : Int) - 1 - j = -1 from by omega]
     go_wp2
     go_ret2
     refine ⟨?_, rfl⟩
     have hl := HA.out.1
     rw [show numOf bs = num bs from by unfold numOf; rw [if_neg (by omega)], show numOk bs = true from by simp [numOk]; omega]
     rfl
def loadOf (bs : List UInt8) (at_ : Int) (k : Nat) : Nat := if 0 ≤ at_ ∧ at_ + k ≤ bs.length then num ((bs.drop at_.toNat).take k) else 0
def loadOk (bs : List UInt8) (at_ : Int) (k : Nat) : Bool := decide (0 ≤ at_ ∧ at_ + k ≤ bs.length)
theorem loadOf_no {bs : List UInt8} {at_ : Int} {k : Nat} (h : ¬ (0 ≤ at_ ∧ at_ + k ≤ bs.length)) : loadOf bs at_ k = 0 ∧ loadOk bs at_ k = false := by
 exact ⟨if_neg h, decide_eq_false h⟩
theorem loadOf_yes {bs : List UInt8} {p k : Nat} (h : p + k ≤ bs.length) (hk : 0 < k) (h8 : k ≤ 8) :
  loadOf bs p k = numOf ((bs.take (p + k)).drop p) ∧ loadOk bs p k = true ∧ numOk ((bs.take (p + k)).drop p) = true := by
 have h' : (0 : Int) ≤ (p : Int) ∧ (p : Int) + k ≤ bs.length := by omega
 have hl : ((bs.take (p + k)).drop p).length = k := by simp; omega
 refine ⟨?_, ?_, ?_⟩
 ·simp only [loadOf, if_pos h', numOf, hl]
  rw [if_neg (by omega), Int.toNat_natCast, List.drop_take]
  congr 2; omega
 ·simp only [loadOk]; exact decide_eq_true h'
 ·simp only [numOk, hl]; exact decide_eq_true ⟨hk, h8⟩
theorem refLoad (A : Option Addr) (n c B : Nat) (p : Int) (k : Nat) (bs : List UInt8) (w : World) (ha : Rd w B A n bs) (hn : n ≤ c) (hc : c ≤ 9223372036854775807)
  (hp : -9223372036854775808 ≤ p) (hp' : p ≤ 9223372036854775807) (hk : 0 < k) (hk8 : k ≤ 8) :
  Calls Tryz.prog 72 #[.slice A n c, .int .i64 p, .int .i64 (k : Int)] w fun e w' => e = .returned (.tuple #[.int .u64 (loadOf bs p k : Int), .bool (loadOk bs p k)]) ∧ w = w' := by
 have hl : Hid (bs.length = n) := ha.1
 by_cases h0 : p < 0
 ·have hno := loadOf_no (bs := bs) (at_ := p) (k := k) (by omega)
  have HN := qH hno
  clear hno ha
  go_enter Tryz.func72, Tryz.ntmps72
  go_wp2
  go_ret2
  refine ⟨?_, rfl⟩
  rw [HN.out.1, HN.out.2]
  rfl
 ·by_cases h1 : (n : Int) - k < p
  ·have hno := loadOf_no (bs := bs) (at_ := p) (k := k) (by have := hl.out; omega)
   have HN := qH hno
   clear hno ha
   go_enter Tryz.func72, Tryz.ntmps72
   go_wp2
   go_ret2
   refine ⟨?_, rfl⟩
   rw [HN.out.1, HN.out.2]
   rfl
  ·obtain ⟨q, rfl⟩ := Int.eq_ofNat_of_zero_le (show 0 ≤ p by omega)
   obtain ⟨b, o, rfl, hb⟩ := ha.2 (by omega)
   have hcut := ha.cut (l := q) (k := q + k) (by omega) (by omega)
   rw [Nat.add_sub_cancel_left] at hcut
   have HC := qH hcut
   clear hcut
   have HY := qH (loadOf_yes (bs := bs) (p := q) (k := k) (by have := hl.out; omega) hk hk8)
   clear hb ha
   go_enter Tryz.func72, Tryz.ntmps72
   go_wp2_with fail
   refine (refNumber _ k (c - q) B _ w HC.out (by omega)).mono ?_
   rintro e w' ⟨rfl, rfl⟩
   go_wp2
   go_ret2
   refine ⟨?_, rfl⟩
   rw [HY.out.1, HY.out.2.1, ← HY.out.2.2]
   rfl
end Go.Proofs.YtopilgedcnbdaaaGreatDoor