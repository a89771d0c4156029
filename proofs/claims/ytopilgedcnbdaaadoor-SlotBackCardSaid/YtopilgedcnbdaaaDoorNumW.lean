/- Contracts of the program's number functions (words): Row, Number, load, Load32, Load64, Put32, Put64. -/
import Derived.Test.YtopilgedcnbdaaaDoorTz
import Derived.Test.YtopilgedcnbdaaaDoorRefB
namespace Go.Proofs.YtopilgedcnbdaaaDoor
set_option maxRecDepth 1000000
set_option maxHeartbeats 8000000
open Go.RowKit
set_option linter.unusedVariables false
def NumRel (n : Nat) (bs : List UInt8) (x i : Value) : Prop :=
 ∃ k : Nat, k ≤ n ∧ i = .int .i64 (k : Int) ∧ x = .int .u64 ((num (bs.take k) : Nat) : Int)
theorem wNumber (A : Option Addr) (n c B : Nat) (bs : List UInt8) (w : World) (ha : Rd w B A n bs) (hn : n ≤ 140737488355328) :
  Calls Tryd.prog 83 #[.slice A n c] w fun e w' => e = .returned (.tuple #[.int .u64 (numOf bs : Int), .bool (numOk bs)]) ∧ w = w' := by
 by_cases h0 : n < 1
 ·go_enter Tryd.func83, Tryd.ntmps83
  go_wp2
  go_ret2
  refine ⟨?_, rfl⟩
  have hl := ha.1
  rw [show numOf bs = 0 from by unfold numOf; rw [if_pos (by omega)], show numOk bs = false from by simp [numOk]; omega]
  rfl
 ·by_cases h8 : 8 < n
  ·go_enter Tryd.func83, Tryd.ntmps83
   go_wp2
   go_ret2
   refine ⟨?_, rfl⟩
   have hl := ha.1
   rw [show numOf bs = 0 from by unfold numOf; rw [if_pos (by omega)], show numOk bs = false from by simp [numOk]; omega]
   rfl
  ·have HA := qH ha
   clear ha
   go_enter Tryd.func83, Tryd.ntmps83
   go_wp2
   go_loop [4, 17] (fun x i => NumRel n bs x i) (fun _ i => n - (intOf i).toNat)
   case atStart => exact ⟨0, Nat.zero_le _, rfl, rfl⟩
   case round =>
    obtain ⟨k, hk, rfl, rfl⟩ := hrel
    by_cases hlt : k < n
    ·obtain ⟨b, o, rfl, hbo, hc⟩ := HA.out.2 (by omega)
     have hcell : w.cell? ⟨b, o + k, none⟩ = some (.int .u8 (nth bs k : Int)) := hc k (by omega)
     clear hc
     generalize hx : num (bs.take k) = x
     have HX := qH hx
     clear hx
     go_wp2
     go_round
     case rel =>
      rw [or_step x _ (by rw [← HX.out]; exact num_take_lt HA.out.1 (by omega) hlt) (nth_lt _ _)]
      exact ⟨k + 1, by omega, by go_num, by rw [num_take (by rw [HA.out.1]; exact hlt), HX.out]⟩
     case measure => simp [intOf]; omega
    ·obtain rfl : k = n := by omega
     go_wp2
     go_ret2
     refine ⟨?_, rfl⟩
     have hl := HA.out.1
     rw [show numOf bs = num bs from by unfold numOf; rw [if_neg (by omega)], show numOk bs = true from by simp [numOk]; omega, List.take_of_length_le (by omega)]
     rfl
def RowRel (B g n x : Nat) (w : World) (i : Value) (wr : World) : Prop :=
 ∃ k : Nat, k ≤ n ∧ i = .int .i64 (k : Int) ∧ wr.ownsRow B 5 1 (.slice (some ⟨g, 0, none⟩) n n) n ((List.replicate (n - k) 0 ++ enc x k).map bval) ∧ Below B w wr
theorem wRow (x n : Nat) (w : World) (hx : x < 18446744073709551616) (h1 : 1 ≤ n) (h8 : n ≤ 8) :
  Calls Tryd.prog 58 #[.int .u64 (x : Int), .int .i64 (n : Int)] w fun e w' => RetB 5 w (enc x n) e w' := by
 go_enter Tryd.func58, Tryd.ntmps58
 go_wp2_with (at_make; refine wpList_makeB isU8 rfl _ _ rfl n rfl rfl rfl rfl (by omega) (Below.refl w.heap.size w) (Nat.le_refl _) ?_; intro w0 hown0 hbel0 hsz0)
 have hg : w.heap.size ≤ w.heap.size := Nat.le_refl _
 go_loopw [16] (fun i wr => RowRel w.heap.size w.heap.size n x w i wr) (fun i _ => n - (intOf i).toNat)
 case atStart => exact ⟨0, Nat.zero_le _, rfl, by simpa [enc] using hown0, hbel0⟩
 case round =>
  obtain ⟨k, hk, rfl, hown, hbel⟩ := hrel
  have hsz := hbel.size
  by_cases hlt : k < n
  ·obtain ⟨hcell, hfr⟩ := own_cell (j := n - 1 - k) hown (by omega)
   have hk8 : (0 : Int) ≤ 8 * (k : Int) := by omega
   have hk64 : 8 * (k : Int) < 64 := by omega
   go_wp2
   go_roundw
   case rel =>
    obtain ⟨h2, h3⟩ := own_set (j := n - 1 - k) hown hbel _ (shr_byte x k) (Nat.le_refl _)
    exact ⟨k + 1, by omega, by go_num, by rw [← row_step x hlt]; exact h2, h3⟩
   case measure => simp [intOf]; omega
  ·obtain rfl : k = n := by omega
   go_wp2
   go_ret
   exact RetB.mk (by simpa using hown) hbel
theorem wRowNo (x n : Int) (w : World) (hn : n < 1 ∨ 8 < n) :
  Calls Tryd.prog 58 #[.int .u64 x, .int .i64 n] w fun e w' => RetB 5 w [] e w' := by
 rcases hn with hn | hn
 ·go_enter Tryd.func58, Tryd.ntmps58
  go_wp2
  go_ret
  exact RetB.mk (n := 0) (World.ownsRow_nil w _ _ _) (Below.refl _ _)
 ·have hn' : ¬ n < 1 := by omega
  go_enter Tryd.func58, Tryd.ntmps58
  go_wp2
  go_ret
  exact RetB.mk (n := 0) (World.ownsRow_nil w _ _ _) (Below.refl _ _)
theorem wload (A : Option Addr) (n c B : Nat) (p : Int) (k : Nat) (bs : List UInt8) (w : World) (ha : Rd w B A n bs) (hn : n ≤ c) (hc : c ≤ 9223372036854775807)
  (hp : -9223372036854775808 ≤ p) (hp' : p ≤ 9223372036854775807) (hk : 0 < k) (hk8 : k ≤ 8) :
  Calls Tryd.prog 80 #[.slice A n c, .int .i64 p, .int .i64 (k : Int)] w fun e w' => e = .returned (.tuple #[.int .u64 (loadOf bs p k : Int), .bool (loadOk bs p k)]) ∧ w = w' := by
 have hl : Hid (bs.length = n) := ha.1
 by_cases h0 : p < 0
 ·have hno := loadOf_no (bs := bs) (at_ := p) (k := k) (by omega)
  have HN := qH hno
  clear hno ha
  go_enter Tryd.func80, Tryd.ntmps80
  go_wp2
  go_ret2
  refine ⟨?_, rfl⟩
  rw [HN.out.1, HN.out.2]
  rfl
 ·by_cases h1 : (n : Int) - k < p
  ·have hno := loadOf_no (bs := bs) (at_ := p) (k := k) (by have := hl.out; omega)
   have HN := qH hno
   clear hno ha
   go_enter Tryd.func80, Tryd.ntmps80
   go_wp2
   go_ret2
   refine ⟨?_, rfl⟩
   rw [HN.out.1, HN.out.2]
   rfl
  ·obtain ⟨q, rfl⟩ := Int.eq_ofNat_of_zero_le (show 0 ≤ p by omega)
   obtain ⟨b, o, rfl, hb⟩ := ha.2 (by omega)
   have hcut := ha.cut (l := q) (k := q + k) (by omega) (by omega)
   rw [Nat.add_sub_cancel_left] at hcut
   have HC := qH hcut
   clear hcut
   have HY := qH (loadOf_yes (bs := bs) (p := q) (k := k) (by have := hl.out; omega) hk hk8)
   clear hb ha
   go_enter Tryd.func80, Tryd.ntmps80
   go_wp2_with fail
   refine (wNumber _ k (c - q) B _ w HC.out (by omega)).mono ?_
   rintro e w' ⟨rfl, rfl⟩
   go_wp2
   go_ret2
   refine ⟨?_, rfl⟩
   rw [HY.out.1, HY.out.2.1, ← HY.out.2.2]
   rfl
theorem loadOf_lt (bs : List UInt8) (p : Int) (k : Nat) : loadOf bs p k < 256 ^ k := by
 unfold loadOf
 split
 ·exact Nat.lt_of_lt_of_le (num_lt _) (Nat.pow_le_pow_right (by decide) (by simp; omega))
 ·exact Nat.pow_pos (by decide)
theorem wLoad32 (A : Option Addr) (n c B : Nat) (p : Int) (bs : List UInt8) (w : World) (ha : Rd w B A n bs) (hn : n ≤ c) (hc : c ≤ 9223372036854775807)
  (hp : -9223372036854775808 ≤ p) (hp' : p ≤ 9223372036854775807) :
  Calls Tryd.prog 71 #[.slice A n c, .int .i64 p] w fun e w' => e = .returned (.tuple #[.int .u32 (loadOf bs p 4 : Int), .bool (loadOk bs p 4)]) ∧ w = w' := by
 have hlt := loadOf_lt bs p 4
 have HA := qH ha
 clear ha
 go_enter Tryd.func71, Tryd.ntmps71
 go_wp2_with fail
 refine (wload A n c B p 4 bs w HA.out hn hc hp hp' (by decide) (by decide)).mono ?_
 rintro e w' ⟨rfl, rfl⟩
 generalize hy : loadOf bs p 4 = y at *
 have HY := qH hy
 clear hy
 go_wp2
 go_ret2
 exact ⟨by rw [HY.out]; rfl, rfl⟩
theorem wPut32 (x : Nat) (w : World) (hx : x < 4294967296) :
  Calls Tryd.prog 46 #[.int .u32 (x : Int)] w fun e w' => RetB 5 w (enc x 4) e w' := by
 go_enter Tryd.func46, Tryd.ntmps46
 go_wp2_with fail
 refine (wRow x 4 w (by omega) (by decide) (by decide)).mono ?_
 rintro e w1 ⟨A1, n1, c1, rfl, hown, hbel⟩
 go_wp2
 go_ret
 exact RetB.mk hown hbel
theorem wPut64 (x : Nat) (w : World) (hx : x < 18446744073709551616) :
  Calls Tryd.prog 48 #[.int .u64 (x : Int)] w fun e w' => RetB 5 w (enc x 8) e w' := by
 go_enter Tryd.func48, Tryd.ntmps48
 go_wp2_with fail
 refine (wRow x 8 w hx (by decide) (by decide)).mono ?_
 rintro e w1 ⟨A1, n1, c1, rfl, hown, hbel⟩
 go_wp2
 go_ret
 exact RetB.mk hown hbel
end Go.Proofs.YtopilgedcnbdaaaDoor