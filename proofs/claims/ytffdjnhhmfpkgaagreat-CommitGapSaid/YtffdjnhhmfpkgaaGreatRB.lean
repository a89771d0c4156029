/- Several texts in one (a claim has 60 files at most): NumW, CrcW, Slice. -/
import Derived.Test.YtffdjnhhmfpkgaaGreatTz
import Derived.Test.YtffdjnhhmfpkgaaGreatR0
import Derived.Test.YtffdjnhhmfpkgaaGreatR4
import Derived.Deep.WholeRow
namespace Go.Proofs.YtffdjnhhmfpkgaaGreat
set_option maxRecDepth 1000000
set_option maxHeartbeats 8000000
set_option linter.unusedVariables false
set_option linter.unusedSimpArgs false
section
open Go.RowKit
def NumRel (n : Nat) (bs : List UInt8) (x i : Value) : Prop :=
 ∃ k : Nat, k ≤ n ∧ i = .int .i64 (k : Int) ∧ x = .int .u64 ((num (bs.take k) : Nat) : Int)
theorem wNumber (A : Option Addr) (n c B : Nat) (bs : List UInt8) (w : World) (ha : Rd w B A n bs) (hn : n ≤ 140737488355328) :
  Calls Tryz.prog 150 #[.slice A n c] w fun e w' => e = .returned (.tuple #[.int .u64 (numOf bs : Int), .bool (numOk bs)]) ∧ w = w' := by
 by_cases h0 : n < 1
 ·go_enter Tryz.func150, Tryz.ntmps150
  go_wp2
  go_ret2
  refine ⟨?_, rfl⟩
  have hl := ha.1
  rw [show numOf bs = 0 from by unfold numOf; rw [if_pos (by omega)], show numOk bs = false from by simp [numOk]; omega]
  rfl
 ·by_cases h8 : 8 < n
  ·go_enter Tryz.func150, Tryz.ntmps150
   go_wp2
   go_ret2
   refine ⟨?_, rfl⟩
   have hl := ha.1
   rw [show numOf bs = 0 from by unfold numOf; rw [if_pos (by omega)], show numOk bs = false from by simp [numOk]; omega]
   rfl
  ·have HA := qH ha
   clear ha
   go_enter Tryz.func150, Tryz.ntmps150
   go_wp2
   go_loop [4, 17] (fun x i => NumRel n bs x i) (fun _ i => n - (intOf i).toNat)
   case atStart => exact ⟨0, Nat.zero_le _, rfl, rfl⟩
   case round =>
    obtain ⟨k, hk, rfl, rfl⟩ := hrel
    by_cases hlt : k < n
    ·obtain ⟨b, o, rfl, hbo, hc⟩ := HA.out.2 (by omega)
     have hcell : w.cell? ⟨b, o + k, none⟩ = some (.int .u8 (nth bs k : Int)) := hc k (by omega)
     clear hc
     generalize hx : num (bs.take k) = x
     have HX := qH hx
     clear hx
     go_wp2
     go_round
     case rel =>
      rw [or_step x _ (by rw [← HX.out]; exact num_take_lt HA.out.1 (by omega) hlt) (nth_lt _ _)]
      exact ⟨k + 1, by omega, by go_num, by rw [num_take (by rw [HA.out.1]; exact hlt), HX.out]⟩
     case measure => simp [intOf]; omega
    ·obtain rfl : k = n := by omega
     go_wp2
     go_ret2
     refine ⟨?_, rfl⟩
     have hl := HA.out.1
     rw [show numOf bs = num bs from by unfold numOf; rw [if_neg (by omega)], show numOk bs = true from by simp [numOk]; omega, List.take_of_length_le (by omega)]
     rfl
def RowRel (B g n x : Nat) (w : World) (i : Value) (wr : World) : Prop :=
 ∃ k : Nat, k ≤ n ∧ i = .int .i64 (k : Int) ∧ wr.ownsRow B 5 1 (.slice (some ⟨g, 0, none⟩) n n) n ((List.replicate (n - k) 0 ++ enc x k).map bval) ∧ Below B w wr
theorem wRow (x n : Nat) (w : World) (hx : x < 18446744073709551616) (h1 : 1 ≤ n) (h8 : n ≤ 8) :
  Calls Tryz.prog 115 #[.int .u64 (x : Int), .int .i64 (n : Int)] w fun e w' => RetB 5 w (enc x n) e w' := by
 go_enter Tryz.func115, Tryz.ntmps115
 go_wp2_with (at_make; refine wpList_makeB isU8 rfl _ _ rfl n rfl rfl rfl rfl (by omega) (Below.refl w.heap.size w) (Nat.le_refl _) ?_; intro w0 hown0 hbel0 hsz0)
 have hg : w.heap.size ≤ w.heap.size := Nat.le_refl _
 go_loopw [16] (fun i wr => RowRel w.heap.size w.heap.size n x w i wr) (fun i _ => n - (intOf i).toNat)
 case atStart => exact ⟨0, Nat.zero_le _, rfl, by simpa [enc] using hown0, hbel0⟩
 case round =>
  obtain ⟨k, hk, rfl, hown, hbel⟩ := hrel
  have hsz := hbel.size
  by_cases hlt : k < n
  ·obtain ⟨hcell, hfr⟩ := own_cell (j := n - 1 - k) hown (by omega)
   have hk8 : (0 : Int) ≤ 8 * (k : Int) := by omega
   have hk64 : 8 * (k : Int) < 64 := by omega
   go_wp2
   go_roundw
   case rel =>
    obtain ⟨h2, h3⟩ := own_set (j := n - 1 - k) hown hbel _ (shr_byte x k) (Nat.le_refl _)
    exact ⟨k + 1, by omega, by go_num, by rw [← row_step x hlt]; exact h2, h3⟩
   case measure => simp [intOf]; omega
  ·obtain rfl : k = n := by omega
   go_wp2
   go_ret
   exact RetB.mk (by simpa using hown) hbel
theorem wRowNo (x n : Int) (w : World) (hn : n < 1 ∨ 8 < n) :
  Calls Tryz.prog 115 #[.int .u64 x, .int .i64 n] w fun e w' => RetB 5 w [] e w' := by
 rcases hn with hn | hn
 ·go_enter Tryz.func115, Tryz.ntmps115
  go_wp2
  go_ret
  exact RetB.mk (n := 0) (World.ownsRow_nil w _ _ _) (Below.refl _ _)
 ·have hn' : ¬ n < 1 := by omega
  go_enter Tryz.func115, Tryz.ntmps115
  go_wp2
  go_ret
  exact RetB.mk (n := 0) (World.ownsRow_nil w _ _ _) (Below.refl _ _)
theorem wload (A : Option Addr) (n c B : Nat) (p : Int) (k : Nat) (bs : List UInt8) (w : World) (ha : Rd w B A n bs) (hn : n ≤ c) (hc : c ≤ 9223372036854775807)
  (hp : -9223372036854775808 ≤ p) (hp' : p ≤ 9223372036854775807) (hk : 0 < k) (hk8 : k ≤ 8) :
  Calls Tryz.prog 135 #[.slice A n c, .int .i64 p, .int .i64 (k : Int)] w fun e w' => e = .returned (.tuple #[.int .u64 (loadOf bs p k : Int), .bool (loadOk bs p k)]) ∧ w = w' := by
 have hl : Hid (bs.length = n) := ha.1
 by_cases h0 : p < 0
 ·have hno := loadOf_no (bs := bs) (at_ := p) (k := k) (by omega)
  have HN := qH hno
  clear hno ha
  go_enter Tryz.func135, Tryz.ntmps135
  go_wp2
  go_ret2
  refine ⟨?_, rfl⟩
  rw [HN.out.1, HN.out.2]
  rfl
 ·by_cases h1 : (n : Int) - k < p
  ·have hno := loadOf_no (bs := bs) (at_ := p) (k := k) (by have := hl.out; omega)
   have HN := qH hno
   clear hno ha
   go_enter Tryz.func135, Tryz.ntmps135
   go_wp2
   go_ret2
   refine ⟨?_, rfl⟩
   rw [HN.out.1, HN.out.2]
   rfl
  ·obtain ⟨q, rfl⟩ := Int.eq_ofNat_of_zero_le (show 0 ≤ p by omega)
   obtain ⟨b, o, rfl, hb⟩ := ha.2 (by omega)
   have hcut := ha.cut (l := q) (k := q + k) (by omega) (by omega)
   rw [Nat.add_sub_cancel_left] at hcut
   have HC := qH hcut
   clear hcut
   have HY := qH (loadOf_yes (bs := bs) (p := q) (k := k) (by have := hl.out; omega) hk hk8)
   clear hb ha
   go_enter Tryz.func135, Tryz.ntmps135
   go_wp2_with fail
   refine (wNumber _ k (c - q) B _ w HC.out (by omega)).mono ?_
   rintro e w' ⟨rfl, rfl⟩
   go_wp2
   go_ret2
   refine ⟨?_, rfl⟩
   rw [HY.out.1, HY.out.2.1, ← HY.out.2.2]
   rfl
theorem loadOf_lt (bs : List UInt8) (p : Int) (k : Nat) : loadOf bs p k < 256 ^ k := by
 unfold loadOf
 split
 ·exact Nat.lt_of_lt_of_le (num_lt _) (Nat.pow_le_pow_right (by decide) (by simp; omega))
 ·exact Nat.pow_pos (by decide)
theorem wLoad32 (A : Option Addr) (n c B : Nat) (p : Int) (bs : List UInt8) (w : World) (ha : Rd w B A n bs) (hn : n ≤ c) (hc : c ≤ 9223372036854775807)
  (hp : -9223372036854775808 ≤ p) (hp' : p ≤ 9223372036854775807) :
  Calls Tryz.prog 148 #[.slice A n c, .int .i64 p] w fun e w' => e = .returned (.tuple #[.int .u32 (loadOf bs p 4 : Int), .bool (loadOk bs p 4)]) ∧ w = w' := by
 have hlt := loadOf_lt bs p 4
 have HA := qH ha
 clear ha
 go_enter Tryz.func148, Tryz.ntmps148
 go_wp2_with fail
 refine (wload A n c B p 4 bs w HA.out hn hc hp hp' (by decide) (by decide)).mono ?_
 rintro e w' ⟨rfl, rfl⟩
 generalize hy : loadOf bs p 4 = y at *
 have HY := qH hy
 clear hy
 go_wp2
 go_ret2
 exact ⟨by rw [HY.out]; rfl, rfl⟩
theorem wLoad64 (A : Option Addr) (n c B : Nat) (p : Int) (bs : List UInt8) (w : World) (ha : Rd w B A n bs) (hn : n ≤ c) (hc : c ≤ 9223372036854775807)
  (hp : -9223372036854775808 ≤ p) (hp' : p ≤ 9223372036854775807) :
  Calls Tryz.prog 124 #[.slice A n c, .int .i64 p] w fun e w' => e = .returned (.tuple #[.int .u64 (loadOf bs p 8 : Int), .bool (loadOk bs p 8)]) ∧ w = w' := by
 have HA := qH ha
 clear ha
 go_enter Tryz.func124, Tryz.ntmps124
 go_wp2_with fail
 refine (wload A n c B p 8 bs w HA.out hn hc hp hp' (by decide) (by decide)).mono ?_
 rintro e w' ⟨rfl, rfl⟩
 go_wp2
 go_ret2
 exact ⟨rfl, rfl⟩
theorem wPut32 (x : Nat) (w : World) (hx : x < 4294967296) :
  Calls Tryz.prog 116 #[.int .u32 (x : Int)] w fun e w' => RetB 5 w (enc x 4) e w' := by
 go_enter Tryz.func116, Tryz.ntmps116
 go_wp2_with fail
 refine (wRow x 4 w (by omega) (by decide) (by decide)).mono ?_
 rintro e w1 ⟨A1, n1, c1, rfl, hown, hbel⟩
 go_wp2
 go_ret
 exact RetB.mk hown hbel
theorem wPut64 (x : Nat) (w : World) (hx : x < 18446744073709551616) :
  Calls Tryz.prog 92 #[.int .u64 (x : Int)] w fun e w' => RetB 5 w (enc x 8) e w' := by
 go_enter Tryz.func92, Tryz.ntmps92
 go_wp2_with fail
 refine (wRow x 8 w hx (by decide) (by decide)).mono ?_
 rintro e w1 ⟨A1, n1, c1, rfl, hown, hbel⟩
 go_wp2
 go_ret
 exact RetB.mk hown hbel
end
section
open Go.RowKit
theorem and_one {y : Nat} (hy : y < 4294967296) : bits .and .u32 (y : Int) 1 = ((y % 2 : Nat) : Int) := by
 rw [← nat_mask1]; exact u32_and_nat y 1 hy (by decide)
theorem wEffect (z : Nat) (w : World) (hz : z < 4294967296) :
  Calls Tryz.prog 151 #[.int .u32 (z : Int)] w fun e w' => e = .returned (.int .u32 (bitN 8 z : Int)) ∧ w = w' := by
 have HZ := qH hz
 clear hz
 go_enter Tryz.func151, Tryz.ntmps151
 go_wp2
 go_loop [0, 4] (fun x i => BitRel z x i) (fun _ i => 8 - (intOf i).toNat)
 case atStart => exact ⟨0, Nat.zero_le _, rfl, rfl⟩
 case round =>
  obtain ⟨j, hj, rfl, rfl⟩ := hrel
  by_cases hlt2 : j < 8
  ·have HT := qH (bitN_snoc j z)
   have HQ : Hid (bitN j z < 4294967296) := bitN_lt j HZ.out
   generalize bitN j z = q at *
   have hpoly := xor_poly HQ.out
   have hhalf := half q HQ.out
   have hone := and_one HQ.out
   by_cases hodd : q % 2 = 1
   ·rw [hodd] at hone
    go_wp2
    go_round
    case rel => exact ⟨j + 1, by omega, by go_num, by rw [HT.out, bit1, if_pos hodd]⟩
    case measure => simp [intOf]; omega
   ·rw [show q % 2 = 0 from by omega] at hone
    go_wp2
    go_round
    case rel => exact ⟨j + 1, by omega, by go_num, by rw [HT.out, bit1, if_neg hodd]; first | rfl | simp⟩
    case measure => simp [intOf]; omega
  ·obtain rfl : j = 8 := by omega
   go_wp2
   go_ret
   exact ⟨rfl, rfl⟩
def tabN (n k : Nat) : Array Value := Array.ofFn (n := n) fun j => if j.val < k then Value.int .u32 ((bitN 8 j.val : Nat) : Int) else Value.int .u32 0
theorem tabN_size (n k : Nat) : (tabN n k).size = n := by simp [tabN]
theorem tabN_zero (n : Nat) : tabN n 0 = Array.replicate n (Value.int .u32 0) := by
 apply Array.ext
 ·simp [tabN]
 ·intro i h1 h2; simp [tabN]
theorem tabN_set {n k : Nat} (h : k < n) : (tabN n k).setIfInBounds k (Value.int .u32 ((bitN 8 k : Nat) : Int)) = tabN n (k + 1) := by
 apply Array.ext
 ·simp [tabN]
 ·intro i h1 h2
  rw [Array.getElem_setIfInBounds (by simpa using h1)]
  simp only [tabN, Array.getElem_ofFn]
  by_cases hi : k = i
  ·subst hi; simp
  ·rw [if_neg hi]
   by_cases h3 : i < k
   ·rw [if_pos h3, if_pos (by omega)]
   ·rw [if_neg h3, if_neg (by omega)]
theorem tabN_at {n j k : Nat} (h : j < k) (hn : j < n) : (tabN n k)[j]? = some (Value.int .u32 ((bitN 8 j : Nat) : Int)) := by
 simp [tabN, h, hn]
theorem tabN_one (n k : Nat) : (tabN n k).all (·.oneCell') = true := by
 rw [Array.all_eq_true]
 intro i hi
 simp only [tabN, Array.getElem_ofFn]
 split <;> rfl
def tabC (k : Nat) : Array Value := tabN 256 k
theorem tabC_size (k : Nat) : (tabC k).size = 256 := tabN_size 256 k
theorem tabC_zero : tabC 0 = Array.replicate 256 (Value.int .u32 0) := tabN_zero 256
theorem tabC_set {k : Nat} (h : k < 256) : (tabC k).setIfInBounds k (Value.int .u32 ((bitN 8 k : Nat) : Int)) = tabC (k + 1) := tabN_set h
theorem tabC_at {j : Nat} (h : j < 256) : (tabC 256)[j]? = some (Value.int .u32 ((bitN 8 j : Nat) : Int)) := tabN_at h h
theorem tabC_one (k : Nat) : (tabC k).all (·.oneCell') = true := tabN_one 256 k
theorem tab_info : (Tryz.prog.info? 165).map (fun i => (i.zero, i.size)) = some (some (.agg (Array.replicate 256 (.int .u32 0))), 256) := by kernel_rfl
theorem tab_zero (w : World) : (zeroValue 165).run Tryz.prog w = .ok (.agg (tabC 0)) w := by
 rw [tabC_zero]; exact (zero_of_info tab_info).1 w
theorem tab_size : (Tryz.prog.info? 165).map (·.size) = some 256 := (zero_of_info tab_info).2
def TabRel (w : World) (i : Value) (wr : World) : Prop :=
 ∃ k : Nat, k ≤ 256 ∧ i = .int .i64 (k : Int) ∧ wr = (w.alloc (.cells (tabC 0) 165)).alloc (.cells (tabC k) 165)
theorem wEffects (w : World) :
  Calls Tryz.prog 136 #[] w fun e w' => e = .returned (.agg (tabC 256)) ∧ Below w.heap.size w w' := by
 have hz := tab_zero
 go_enter Tryz.func136, Tryz.ntmps136
 go_wp2
 go_loopw [3] (fun i wr => TabRel w i wr) (fun i _ => 256 - (intOf i).toNat)
 case atStart => exact ⟨0, Nat.zero_le _, rfl, rfl⟩
 case round =>
  obtain ⟨k, hk, rfl, rfl⟩ := hrel
  by_cases hlt : k < 256
  ·have hk32 : (k : Int) % 4294967296 = (k : Int) := by omega
   have hltI : (k : Int) < 256 := by omega
   have HK := qH hlt
   have HK2 := qH hk
   clear hlt hk
   go_wp2_with fail
   refine (wEffect k _ (by have := HK.out; omega)).mono ?_
   rintro e w' ⟨rfl, rfl⟩
   have hcell : (tabC k)[k]? = some ((tabC k)[k]'(by rw [tabC_size]; exact HK.out)) := Array.getElem?_eq_getElem _
   generalize (tabC k)[k]'(by rw [tabC_size]; exact HK.out) = v0 at hcell
   have hset := tabC_set HK.out
   go_wp2_with fail
   go_roundw
   case rel => exact ⟨k + 1, by have := HK.out; omega, by go_num, rfl⟩
   case measure => simp [intOf]; omega
  ·obtain rfl : k = 256 := by omega
   have h0 := (two_blocks w (tabC 0) (tabC 256) 165).1
   have h1 := (two_blocks w (tabC 0) (tabC 256) 165).2
   have hB : Below w.heap.size w ((w.alloc (.cells (tabC 0) 165)).alloc (.cells (tabC 256) 165)) := ((Below.refl _ _).alloc (Nat.le_refl _) _).alloc (by simp) _
   have H0 := qH h0
   have H1 := qH h1
   have HB := qH hB
   have HS : Hid ((Tryz.prog.info? 165).map (·.size) = some (tabC 256).size) := by
    show _ = _
    rw [tabC_size]; exact tab_size
   have HE : Hid ((tabC 0).size = (tabC 256).size) := by
    show _ = _
    rw [tabC_size, tabC_size]
   clear h0 h1 hB
   generalize (w.alloc (.cells (tabC 0) 165)).alloc (.cells (tabC 256) 165) = w2 at *
   go_wp2_with (first | (refine wpList_load_row rfl 165 _ rfl (w.heap.size + 1) rfl 165 (tabC 256) (0, 0) _ H1.out Tryz.underlying165 rfl HS.out ?_) | (refine wpList_store_row rfl 165 _ _ rfl w.heap.size (tabC 256) rfl rfl 165 (tabC 0) H0.out HS.out HE.out (tabC_one _) ?_))
   (try simp only [Exit.inBlock, Exit.then])
   refine bodyPost_ret (v := .agg (tabC 256)) ?_ rfl ⟨rfl, below_setRow HB.out (Nat.le_refl _) _⟩
   exact results_cell_row rfl _ _ w.heap.size 165 (tabC 256) (0, 0) _ rfl (setRow_heap _ _ _ _ _ _ H0.out) Tryz.underlying165 rfl HS.out
def CrAddRel (n c : Nat) (bs : List UInt8) (x i : Value) : Prop :=
 ∃ k : Nat, k ≤ n ∧ i = .int .i64 (k : Int) ∧ x = .int .u32 ((raw c (bs.take k) : Nat) : Int)
theorem tab_step {y b : Nat} (hb : b < 256) : y / 256 ^^^ bitN 8 ((y % 256) ^^^ b) = bitN 8 (y ^^^ b) := by
 rw [byte_table (y ^^^ b), Nat.xor_comm]
 have e : (y ^^^ b) % 256 = (y % 256) ^^^ b := by
  rw [show (256 : Nat) = 2 ^ 8 from rfl, Nat.xor_mod_two_pow, Nat.mod_eq_of_lt (show b < 2 ^ 8 from hb)]
 have e2 : (y ^^^ b) / 256 = y / 256 := by
  rw [show (256 : Nat) = 2 ^ 8 from rfl, Nat.xor_div_two_pow, Nat.div_eq_of_lt (show b < 2 ^ 8 from hb), Nat.xor_zero]
 rw [e, e2]
theorem low_xor {y b : Nat} (hb : b < 256) : bits .xor .u8 ((y : Int) % 256) (b : Int) = ((y % 256 ^^^ b : Nat) : Int) := by
 rw [show (y : Int) % 256 = ((y % 256 : Nat) : Int) from by omega]
 exact u8_xor_nat _ _ (by omega) hb
theorem high_xor {y t : Nat} (hy : y < 4294967296) (ht : t < 4294967296) : bits .xor .u32 ((y : Int) / 256) (t : Int) = ((y / 256 ^^^ t : Nat) : Int) := u32_xor_nat (y / 256) t (by omega) ht
theorem crAdd (A : Option Addr) (n c x : Nat) (bs : List UInt8) (w : World) (ha : Rd w w.heap.size A n bs) (hn : n ≤ 140737488355328) (hx : x < 4294967296) :
  Calls Tryz.prog 125 #[.int .u32 (x : Int), .slice A n c] w fun e w' => e = .returned (.int .u32 (crcAdd x bs : Int)) ∧ Below w.heap.size w w' := by
 have HA := qH ha
 clear ha
 have hz := tab_zero
 have HM : Hid (x ^^^ crcM < 4294967296) := Nat.xor_lt_two_pow (n := 32) hx (by decide)
 have HE : Hid (crcAdd x bs = raw (x ^^^ crcM) bs ^^^ crcM) := rfl
 have HO := qH (xor_ones hx)
 have HS : Hid ((Tryz.prog.info? 165).map (·.size) = some (tabC 256).size) := by
  show _ = _
  rw [tabC_size]; exact tab_size
 go_enter Tryz.func125, Tryz.ntmps125
 go_wp2_with fail
 refine (wEffects w).mono ?_
 rintro e w1 ⟨rfl, hbel⟩
 have HE0 : Hid ((tabC 0).size = (tabC 256).size) := by
  show _ = _
  rw [tabC_size, tabC_size]
 have hones := HO.out
 go_wp2_with (refine wpList_store_row rfl 165 _ _ rfl w1.heap.size (tabC 256) rfl rfl 165 (tabC 0) (heap_alloc_last w1 _) HS.out HE0.out (tabC_one _) ?_; rw [World.setRow_alloc_new])
 clear hones
 have hsz := hbel.size
 have HB : Hid (Below w.heap.size w (w1.alloc (.cells (tabC 256) 165))) := hbel.alloc hsz _
 have HR := qH (HA.out.to HB.out)
 have HT : Hid (∀ j : Nat, j < 256 → (w1.alloc (.cells (tabC 256) 165)).cell? ⟨w1.heap.size, j, none⟩ = some (.int .u32 ((bitN 8 j : Nat) : Int))) := fun j hj => by
  rw [cell_of_row _ _ j _ _ (0, 0) (heap_alloc_last w1 _)]
  exact tabC_at hj
 clear hz HS HE0 hbel
 generalize w1.alloc (.cells (tabC 256) 165) = w2 at *
 generalize w1.heap.size = g at *
 generalize x ^^^ crcM = x0 at *
 go_loop [0, 13] (fun x i => CrAddRel n x0 bs x i) (fun _ i => n - (intOf i).toNat)
 case atStart => exact ⟨0, Nat.zero_le _, rfl, rfl⟩
 case round =>
  obtain ⟨k, hk, rfl, rfl⟩ := hrel
  by_cases hlt : k < n
  ·obtain ⟨b, o, rfl, hbo, hc⟩ := HR.out.2 (by omega)
   have hcell : w2.cell? ⟨b, o + k, none⟩ = some (.int .u8 (nth bs k : Int)) := hc k (by omega)
   clear hc
   have HN := qH (raw_snoc (bs := bs) (k := k) (by rw [HA.out.1]; exact hlt) x0)
   have HY : Hid (raw x0 (bs.take k) < 4294967296) := raw_lt _ HM.out
   have HV := qH (nth_lt bs k)
   generalize raw x0 (bs.take k) = y at *
   generalize nth bs k = v at *
   have hlow := low_xor (y := y) HV.out
   have HJ : Hid (y % 256 ^^^ v < 256) := Nat.xor_lt_two_pow (n := 8) (by omega) HV.out
   have HStep := qH (tab_step (y := y) HV.out)
   generalize y % 256 ^^^ v = j at *
   have hj : (j : Int) < 256 := by have := HJ.out; omega
   have htab := HT.out j HJ.out
   have hhigh := high_xor HY.out (bitN_lt 8 (c := j) (by have := HJ.out; omega))
   go_wp2
   go_round
   case rel => exact ⟨k + 1, by omega, by go_num, by rw [HN.out, ← HStep.out]⟩
   case measure => simp [intOf]; omega
  ·obtain rfl : k = n := by omega
   rw [List.take_of_length_le (by rw [HA.out.1]; exact Nat.le_refl _)]
   have HY : Hid (raw x0 bs < 4294967296) := raw_lt _ HM.out
   generalize raw x0 bs = y at *
   have hones := xor_ones HY.out
   go_wp2
   go_ret
   exact ⟨by rw [HE.out]; rfl, HB.out⟩
theorem wSum (A : Option Addr) (n c : Nat) (bs : List UInt8) (w : World) (ha : Rd w w.heap.size A n bs) (hn : n ≤ 140737488355328) :
  Calls Tryz.prog 117 #[.slice A n c] w fun e w' => e = .returned (.int .u32 (crcSum bs : Int)) ∧ Below w.heap.size w w' := by
 have HA := qH ha
 clear ha
 go_enter Tryz.func117, Tryz.ntmps117
 go_wp2_with fail
 refine (crAdd A n c 0 bs _ HA.out hn (by decide)).mono ?_
 rintro e w1 ⟨rfl, hbel⟩
 have HB := qH hbel
 clear hbel
 go_wp2_with fail
 go_ret
 exact ⟨rfl, HB.out⟩
theorem wCrcPut (A : Option Addr) (n c : Nat) (bs : List UInt8) (w : World) (ha : Rd w w.heap.size A n bs) (hn : n ≤ 140737488350000) :
  Calls Tryz.prog 95 #[.slice A n c] w fun e w' => RetB 5 w (bs ++ enc (crcSum bs) 4) e w' := by
 have HA := qH ha
 clear ha
 have HL : Hid (crcSum bs < 4294967296) := crcSum_lt bs
 go_enter Tryz.func95, Tryz.ntmps95
 go_wp2_with fail
 refine (wSum A n c bs w HA.out (by omega)).mono ?_
 rintro e w1 ⟨rfl, hbel1⟩
 have B1 := qH hbel1
 have A1 := qH (HA.out.to hbel1)
 clear hbel1
 generalize hs : crcSum bs = s at *
 have HS := qH hs
 clear hs
 go_wp2_with fail
 refine (wPut32 s w1 HL.out).mono ?_
 rintro e w2 ⟨D2, n2, c2, rfl, hown2, hbel2⟩
 have A2 := qH (A1.out.to hbel2)
 have D2r := qH (Rd.of_own hown2)
 have B2 := qH (B1.out.trans (hbel2.mono B1.out.size))
 obtain rfl : n2 = 4 := by rw [← D2r.out.1, enc_len]
 clear hown2 hbel2
 go_wp2_with fail
 refine (wCat2 A D2 n 4 c c2 bs (enc s 4) w2 A2.out D2r.out (by omega)).mono ?_
 rintro e w3 ⟨D3, n3, c3, rfl, hown3, hbel3⟩
 have O3 := qH (RetB.from B2.out (RetB.mk hown3 hbel3))
 clear hown3 hbel3
 go_wp2_with fail
 go_ret
 rw [HS.out]
 exact O3.out
theorem chk_load {bs : List UInt8} {m : Nat} (hl : bs.length = m + 4) : chkOk bs = decide (loadOf bs m 4 = crcSum (bs.take m)) := by
 unfold chkOk
 rw [show bs.length - 4 = m from by omega]
 simp only [show 4 ≤ bs.length from by omega, true_and]
 have h1 : loadOf bs m 4 = num (bs.drop m) := by
  unfold loadOf
  rw [if_pos (by omega), Int.toNat_natCast, List.take_of_length_le (by simp; omega)]
 have h2 : (bs.drop m).length = 4 := by simp; omega
 rw [h1, Bool.eq_iff_iff]
 simp only [decide_eq_true_eq]
 constructor
 ·intro h
  have e := congrArg (List.drop m) h
  rw [List.drop_append_of_le_length (by simp; omega)] at e
  rw [List.drop_of_length_le (by simp; omega), List.nil_append] at e
  rw [← e, num_enc]
  exact Nat.mod_eq_of_lt (crcSum_lt _)
 ·intro h
  have e : enc (crcSum (bs.take m)) 4 = bs.drop m := by
   refine num_inj (by rw [enc_len, h2]) ?_
   rw [num_enc, h]
   exact Nat.mod_eq_of_lt (crcSum_lt _)
  rw [e, List.take_append_drop]
theorem wCheck (A : Option Addr) (n c : Nat) (bs : List UInt8) (w : World) (ha : Rd w w.heap.size A n bs) (hn : n ≤ 140737488350000) (hcap : n ≤ c) (hc : c ≤ 9223372036854775807) :
  Calls Tryz.prog 131 #[.slice A n c] w fun e w' => RetChk 5 w (chkOf bs) (chkOk bs) e w' := by
 have hl : Hid (bs.length = n) := ha.1
 by_cases h4 : n < 4
 ·have HO : Hid (chkOk bs = false) := decide_eq_false (by have := hl.out; omega)
  have HF : Hid (chkOf bs = []) := if_neg (by rw [HO.out]; decide)
  have HN := qH (loadOf_no (bs := bs) (at_ := (n : Int) - 4) (k := 4) (by omega))
  have HA := qH ha
  clear ha
  go_enter Tryz.func131, Tryz.ntmps131
  go_wp2_with fail
  refine (wLoad32 A n c _ ((n : Int) - 4) bs w HA.out hcap hc (by omega) (by omega)).mono ?_
  rintro e w' ⟨rfl, rfl⟩
  rw [HN.out.1, HN.out.2]
  go_wp2_with fail
  go_ret2
  rw [HF.out, HO.out]
  exact RetChk.mk (n := 0) (World.ownsRow_nil w _ _ _) (Below.refl _ _)
 ·obtain ⟨b, o, rfl, hb, hcl⟩ := ha.2 (by omega)
  obtain ⟨m, rfl⟩ : ∃ m, n = m + 4 := ⟨n - 4, by omega⟩
  have HC := qH (ha.front (k := m) (by omega))
  have HA := qH ha
  have HD := qH (chk_load (bs := bs) (m := m) hl.out)
  have HF : chkOk bs = true → Hid (chkOf bs = bs.take m) := fun h => by
   have := hl.out
   show chkOf bs = _
   unfold chkOf; rw [if_pos h, show bs.length - 4 = m from by omega]
  have HG : chkOk bs = false → Hid (chkOf bs = []) := fun h => if_neg (by rw [h]; decide)
  have em : ((m + 4 : Nat) : Int) - 4 = (m : Int) := by omega
  have HK := qH (loadOf_yes (bs := bs) (p := m) (k := 4) (by have := hl.out; omega) (by decide) (by decide))
  clear ha hcl hb
  go_enter Tryz.func131, Tryz.ntmps131
  go_wp2_with fail
  refine (wLoad32 _ (m + 4) c _ (m : Int) bs w HA.out hcap hc (by omega) (by omega)).mono ?_
  rintro e w' ⟨rfl, rfl⟩
  rw [HK.out.2.1]
  go_wp2_with fail
  refine (wSum _ m c _ w HC.out (by omega)).mono ?_
  rintro e w1 ⟨rfl, hbel⟩
  have H3 := qH (HC.out.to hbel)
  have HB := qH hbel
  clear hbel
  have hd := HD.out
  generalize loadOf bs m 4 = p at *
  generalize crcSum (bs.take m) = s at *
  by_cases hok : p = s
  ·have HKt : Hid (chkOk bs = true) := by
    show _ = _
    rw [hd]; exact decide_eq_true hok
   have HF := HF HKt.out
   subst hok
   clear HG HD hd
   go_wp2_with fail
   refine (wCat1 _ m c _ w1 H3.out (by omega)).mono ?_
   rintro e w3 ⟨A3, n3, c3, rfl, hown3, hbel3⟩
   have HR : Hid (RetChk 5 w (chkOf bs) true (.returned (.tuple #[.slice A3 n3 c3, .bool true])) w3) := by
    rw [HF.out]
    exact RetChk.mk (own_mono hown3 HB.out.size) (HB.out.trans (hbel3.mono HB.out.size))
   clear hown3 hbel3
   go_wp2_with fail
   go_ret2
   rw [HKt.out]
   exact HR.out
  ·have HKt : Hid (chkOk bs = false) := by
    show _ = _
    rw [hd]; exact decide_eq_false hok
   have HG := HG HKt.out
   have hne : ((p : Int) == (s : Int)) = false := by simp; omega
   have hne2 : (p == s) = false := by simp; exact hok
   clear HF HD hd
   go_wp2_with fail
   go_ret2
   rw [HG.out, HKt.out]
   exact RetChk.mk (n := 0) (World.ownsRow_nil _ _ _ _) HB.out
end
section
open Go.RowKit
theorem Rd.drew' {w : World} {n : Nat} {A : Option Addr} {bs : List UInt8} (h : Rd w w.heap.size A n bs) : Rd w.drew w.drew.heap.size A n bs := h
theorem Rd.setOther {w : World} {B n b o : Nat} {bs : List UInt8} (h : Rd w B (some ⟨b, o, none⟩) n bs) (a : Addr) (u : Value) (hne : b ≠ a.block) : Rd (w.setCell a u) B (some ⟨b, o, none⟩) n bs := by
 refine ⟨h.1, fun hn => ?_⟩
 obtain ⟨b', o', e, hb, hc⟩ := h.2 hn
 refine ⟨b', o', e, hb, fun j hj => ?_⟩
 rw [← hc j hj]
 injection e with e; injection e with e1 e2
 exact World.cell?_of_block (Below.heap_setCell w a u b' (by rw [← e1]; exact hne))
theorem Rd.blk {w : World} {B n b o : Nat} {bs : List UInt8} (h : Rd w B (some ⟨b, o, none⟩) n bs) (hn : 0 < n) : b < B := by
 obtain ⟨b', o', e, hb, _⟩ := h.2 hn
 injection e with e; injection e with e1 e2
 omega
theorem Rd.at {w : World} {B n b o : Nat} {bs : List UInt8} (h : Rd w B (some ⟨b, o, none⟩) n bs) {j : Nat} (hj : j < n) : w.cell? ⟨b, o + j, none⟩ = some (.int .u8 (nth bs j : Int)) := by
 obtain ⟨b', o', e, hb, hc⟩ := h.2 (by omega)
 injection e with e; injection e with e1 e2
 subst e1; subst e2
 exact hc j hj
theorem addr_add_zero (a : Addr) : a.add 0 = a := by
 unfold Addr.add; split <;> simp_all
theorem u8_size {P : Program} {T U : TypeId} (L : U8 P T U) (w : World) : (sizeOf U).run P w = .ok 1 w := by
 obtain ⟨i0, hi, hz0, hz1, hz2⟩ := info_parts L.info
 simp [sizeOf, typeInfo, hi, hz1]
theorem u8_elem {P : Program} {T U : TypeId} (L : U8 P T U) : P.elem T = U := by
 simp [Program.elem, L.ul]
theorem slice_lh {P : Program} {T U : TypeId} (L : U8 P T U) (A : Option Addr) {n c l h : Nat} (h1 : l ≤ h) (h2 : h ≤ n) (hc : n ≤ c) :
  ∃ A' c', (∀ (k k' : IntKind) (w : World), (Instr.slice T (.slice A n c) (some (.int k (l : Int))) (some (.int k' (h : Int))) none).run P w = .ok (.slice A' (h - l) c') w) ∧
   (∀ (w : World) (B : Nat) (bs : List UInt8), Rd w B A n bs → Rd w B A' (h - l) ((bs.take h).drop l)) ∧ h - l ≤ c' ∧ c' ≤ c := by
 refine ⟨if c = l then A else A.map (·.add l), c - l, fun k k' w => ?_, fun w B bs hr => ?_, by omega, by omega⟩
 ·rw [run_slice_lh (ht := by rw [u8_elem L]; exact L.ul) (kl := k) (kh := k') (l := (l : Int)) (h := (h : Int)) (h0 := by omega) (h1 := by omega) (h2 := by omega), u8_elem L, u8_size L]
  simp [Result.andThen, sliced]
 ·refine ⟨by simp [hr.1]; omega, fun h0 => ?_⟩
  obtain ⟨b, o, rfl, hb, _⟩ := hr.2 (by omega)
  have := hr.cut (l := l) (k := h) h1 h2
  obtain ⟨b', o', e, hb', hc'⟩ := this.2 h0
  refine ⟨b', o', ?_, hb', hc'⟩
  rw [if_neg (by omega), ← e]
  simp [Addr.add]
theorem slice_h {P : Program} {T U : TypeId} (L : U8 P T U) (A : Option Addr) {n c h : Nat} (h2 : h ≤ n) (hc : n ≤ c) :
  ∀ (k' : IntKind) (w : World), (Instr.slice T (.slice A n c) none (some (.int k' (h : Int))) none).run P w = .ok (.slice A h c) w := by
 intro k' w
 rw [run_slice_h (ht := by rw [u8_elem L]; exact L.ul) (kh := k') (h := (h : Int)) (h0 := by omega) (h2 := by omega), u8_elem L, u8_size L]
 simp only [Result.andThen, sliced]
 congr 1
 cases A with
 | none => simp
 | some a => simp [addr_add_zero]
theorem slice_l {P : Program} {T U : TypeId} (L : U8 P T U) (A : Option Addr) {n c l : Nat} (h2 : l ≤ n) (hc : n ≤ c) :
  ∃ A' c', (∀ (k : IntKind) (w : World), (Instr.slice T (.slice A n c) (some (.int k (l : Int))) none none).run P w = .ok (.slice A' (n - l) c') w) ∧
   (∀ (w : World) (B : Nat) (bs : List UInt8), Rd w B A n bs → Rd w B A' (n - l) (bs.drop l)) ∧ n - l ≤ c' ∧ c' ≤ c := by
 refine ⟨if c = l then A else A.map (·.add l), c - l, fun k w => ?_, fun w B bs hr => ?_, by omega, by omega⟩
 ·rw [run_slice_l (ht := by rw [u8_elem L]; exact L.ul) (kl := k) (l := (l : Int)) (h0 := by omega) (h1 := by omega), u8_elem L, u8_size L]
  simp [Result.andThen, sliced]
 ·refine ⟨by simp [hr.1], fun h0 => ?_⟩
  obtain ⟨b, o, rfl, hb, _⟩ := hr.2 (by omega)
  have := hr.cut (l := l) (k := n) h2 (Nat.le_refl _)
  rw [List.take_of_length_le (by rw [hr.1]; exact Nat.le_refl _)] at this
  obtain ⟨b', o', e, hb', hc'⟩ := this.2 h0
  refine ⟨b', o', ?_, hb', hc'⟩
  rw [if_neg (by omega), ← e]
  simp [Addr.add]
end
end Go.Proofs.YtffdjnhhmfpkgaaGreat