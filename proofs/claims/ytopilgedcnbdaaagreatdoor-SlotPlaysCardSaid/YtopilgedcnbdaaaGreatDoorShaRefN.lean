/- The contract of the document's own numbers (citadelref03): the 64 numbers of a block. -/
import Derived.Test.YtopilgedcnbdaaaGreatDoorTz
import Derived.Test.YtopilgedcnbdaaaGreatDoorShaRefA
namespace Go.Proofs.YtopilgedcnbdaaaGreatDoor
set_option maxRecDepth 1000000
set_option maxHeartbeats 8000000
open Go.RowKit
set_option linter.unusedVariables false
def NumsRel (B : Nat) (w : World) (blk : List UInt8) (v i : Value) (wr : World) : Prop :=
 ∃ k : Nat, k ≤ 64 ∧ i = .int .i64 (k : Int) ∧ wr.ownsRow B 100 1 v k ((numsW blk k).map (kv .u32)) ∧ Below B w wr
theorem loadOf_num {blk : List UInt8} {k : Nat} (hl : blk.length = 64) (hk : k < 16) : loadOf blk (4 * (k : Int)) 4 = nextW blk (numsW blk k) := by
 unfold loadOf nextW
 rw [numsW_len, if_pos (by omega), if_pos hk, show (4 * (k : Int)).toNat = 4 * k from by omega]
theorem nextW_lt (blk : List UInt8) (k : Nat) : nextW blk (numsW blk k) < 4294967296 := by
 have h := numsW_lt blk (k + 1) k
 rw [numsW] at h
 have e := nx_last (numsW blk k) (nextW blk (numsW blk k))
 rw [numsW_len] at e
 rw [e] at h; exact h
theorem u32_xors {a b c : Nat} (ha : a < 4294967296) (hb : b < 4294967296) (hc : c < 4294967296) :
  bits .xor .u32 (bits .xor .u32 (a : Int) (b : Int)) (c : Int) = ((a ^^^ b ^^^ c : Nat) : Int) := by
 rw [u32_xor_nat _ _ ha hb, u32_xor_nat _ _ (Nat.xor_lt_two_pow (n := 32) ha hb) hc]
theorem rNumbers (A : Option Addr) (c : Nat) (blk : List UInt8) (w : World) (ha : Rd w w.heap.size A 64 blk) (hc : 64 ≤ c) (hc' : c ≤ 9223372036854775807) :
  Calls Tryz.prog 62 #[.slice A 64 c] w fun e w' => RetK .u32 100 w (numsW blk 64) e w' := by
 have HA := qH ha
 clear ha
 go_enter Tryz.func62, Tryz.ntmps62
 go_wp2
 go_loopw [3, 4] (fun v i wr => NumsRel w.heap.size w blk v i wr) (fun _ i _ => 64 - (intOf i).toNat)
 case atStart => exact ⟨0, Nat.zero_le _, rfl, by simpa [numsW] using World.ownsRow_nil w w.heap.size 100 1, Below.refl _ _⟩
 case round =>
  obtain ⟨k, hk, rfl, hown, hbel⟩ := hrel
  have hsz := hbel.size
  have HK := qH hk
  clear hk
  by_cases h64 : (k : Int) < 64
  ·by_cases h16 : (k : Int) < 16
   ·have HN := qH (loadOf_num (blk := blk) (k := k) HA.out.1 (by omega))
    have HR := qH (HA.out.to hbel)
    have hw4 : IntKind.i64.wrap (4 * (k : Int)) = 4 * (k : Int) := IntWalk.i64_in _ (by omega)
    have hlt := nextW_lt blk k
    have HE : Hid (numsW blk (k + 1) = numsW blk k ++ [nextW blk (numsW blk k)]) := rfl
    have hmod : ((nextW blk (numsW blk k) : Nat) : Int) % 4294967296 = (nextW blk (numsW blk k) : Nat) := by omega
    have HO := qH hown
    have HB := qH hbel
    clear hown hbel hlt
    go_wp2_with fail
    refine (refLoad A 64 c _ (4 * (k : Int)) 4 blk wr HR.out hc hc' (by omega) (by omega) (by decide) (by decide)).mono ?_
    rintro e w' ⟨rfl, rfl⟩
    rw [HN.out]
    generalize nextW blk (numsW blk k) = y at *
    go_wp2_with (at_builtin; refine wpList_pushK isU32 rfl _ _ rfl rfl rfl HO.out HB.out hsz (by have := HK.out; omega) y rfl ?_; intro v1 w1 hown1 hbel1 hsz1)
    go_roundw
    case rel => exact ⟨k + 1, by omega, by go_num, by rw [HE.out]; exact hown1, hbel1⟩
    case measure => simp [intOf]; omega
   ·have hk16 : 16 ≤ k := by omega
    obtain ⟨A3, c3, rfl⟩ := own_slice hown
    obtain ⟨g, rfl, hg⟩ := own_head hown (by omega)
    obtain ⟨j15, e15⟩ : ∃ j : Nat, j = k - 15 := ⟨_, rfl⟩
    obtain ⟨j2, e2⟩ : ∃ j : Nat, j = k - 2 := ⟨_, rfl⟩
    obtain ⟨j16, e16⟩ : ∃ j : Nat, j = k - 16 := ⟨_, rfl⟩
    obtain ⟨j7, e7⟩ : ∃ j : Nat, j = k - 7 := ⟨_, rfl⟩
    have i15 : (k : Int) - 15 = (j15 : Int) := by omega
    have i2 : (k : Int) - 2 = (j2 : Int) := by omega
    have i16 : (k : Int) - 16 = (j16 : Int) := by omega
    have i7 : (k : Int) - 7 = (j7 : Int) := by omega
    have l15 : j15 < k := by omega
    have l2 : j2 < k := by omega
    have l16 : j16 < k := by omega
    have l7 : j7 < k := by omega
    have f15 := (own_cellK hown (j := j15) l15).1
    have f2 := (own_cellK hown (j := j2) l2).1
    have f16 := (own_cellK hown (j := j16) l16).1
    have f7 := (own_cellK hown (j := j7) l7).1
    have b15 := numsW_lt blk k j15
    have b2 := numsW_lt blk k j2
    have b16 := numsW_lt blk k j16
    have b7 := numsW_lt blk k j7
    have HW : Hid (nextW blk (numsW blk k) = (nx (numsW blk k) j16 + nx (numsW blk k) j7 + sp (nx (numsW blk k) j15) + sq (nx (numsW blk k) j2)) % 4294967296) := by
     show _ = _
     unfold nextW
     rw [numsW_len, if_neg (by omega), e15, e2, e16, e7]
    have HE : Hid (numsW blk (k + 1) = numsW blk k ++ [nextW blk (numsW blk k)]) := rfl
    have HO := qH hown
    have HB := qH hbel
    clear hown hbel e15 e2 e16 e7
    generalize nextW blk (numsW blk k) = y at *
    generalize nx (numsW blk k) j15 = x15 at *
    generalize nx (numsW blk k) j2 = x2 at *
    generalize nx (numsW blk k) j16 = x16 at *
    generalize nx (numsW blk k) j7 = x7 at *
    go_wp2
    go_quiet (fail)
    have HO := qH (own_drewN HO.out nq)
    have HB := qH (below_drewN HB.out nq)
    have f16 : (wr.drewN nq).cell? ⟨g, j16, none⟩ = some (.int .u32 (x16 : Int)) := f16
    have f7 : (wr.drewN nq).cell? ⟨g, j7, none⟩ = some (.int .u32 (x7 : Int)) := f7
    clear f15 f2
    generalize wr.drewN nq = wq at *
    have d8 : (x15 : Int) / 8 % 4294967296 = (x15 : Int) / 8 := by omega
    have d10 : (x2 : Int) / 1024 % 4294967296 = (x2 : Int) / 1024 := by omega
    have hp : bits .xor .u32 (bits .xor .u32 ((rotr x15 7 : Nat) : Int) ((rotr x15 18 : Nat) : Int)) ((x15 : Int) / 8) = ((sp x15 : Nat) : Int) :=
     u32_xors (rotr_lt x15 7) (rotr_lt x15 18) (show x15 / 8 < 4294967296 by omega)
    have hq : bits .xor .u32 (bits .xor .u32 ((rotr x2 17 : Nat) : Int) ((rotr x2 19 : Nat) : Int)) ((x2 : Int) / 1024) = ((sq x2 : Nat) : Int) :=
     u32_xors (rotr_lt x2 17) (rotr_lt x2 19) (show x2 / 1024 < 4294967296 by omega)
    generalize sp x15 = p at *
    generalize sq x2 = q at *
    have hy : IntKind.u32.wrap (IntKind.u32.wrap (IntKind.u32.wrap ((x16 : Int) + x7) + p) + q) = (y : Int) := by
     rw [HW.out]; simp only [IntKind.wrap_u32']; omega
    clear HW
    go_wp2_with fail
    refine (rTurn x15 7 _ b15 (by decide) (by decide)).mono ?_
    rintro e w' ⟨rfl, rfl⟩
    go_wp2_with fail
    refine (rTurn x15 18 _ b15 (by decide) (by decide)).mono ?_
    rintro e w' ⟨rfl, rfl⟩
    go_wp2_with fail
    refine (rTurn x2 17 _ b2 (by decide) (by decide)).mono ?_
    rintro e w' ⟨rfl, rfl⟩
    go_wp2_with fail
    refine (rTurn x2 19 _ b2 (by decide) (by decide)).mono ?_
    rintro e w' ⟨rfl, rfl⟩
    go_wp2_with fail
    have HKb : Hid ((wq.alloc (.cells #[.int .u32 (y : Int)] 100)).drew.heap[wq.heap.size]? = some (.cells #[.int .u32 (y : Int)] 100 (0, 0))) := heap_alloc_last wq _
    have HOb : Hid ((wq.alloc (.cells #[.int .u32 (y : Int)] 100)).drew.ownsRow w.heap.size 100 1 (.slice (some ⟨g, 0, none⟩) k c3) k ((numsW blk k).map (kv .u32))) := (HO.out.alloc _).drew
    have HBb : Hid (Below w.heap.size w (wq.alloc (.cells #[.int .u32 (y : Int)] 100)).drew) := (HB.out.alloc HB.out.size _).drew
    have w16 : IntKind.i64.wrap (j16 : Int) = (j16 : Int) := IntWalk.i64_in _ (by omega)
    have w7 : IntKind.i64.wrap (j7 : Int) = (j7 : Int) := IntWalk.i64_in _ (by omega)
    go_region_law (refine step_pushK isU32 rfl (.tmp 53) (.tmp 69) rfl rfl rfl HKb.out HOb.out HBb.out HBb.out.size (by omega) y rfl ?_; intro v1 w1 hown1 hbel1 hsz1)
    all_goals
     go_wp2
     go_roundw
     case rel => exact ⟨k + 1, by have := HK.out; omega, by go_num, by rw [HE.out]; exact hown1, hbel1⟩
     case measure => simp [intOf]; omega
  ·obtain rfl : k = 64 := by have := HK.out; omega
   go_wp2
   go_ret
   exact RetK.mk hown hbel
end Go.Proofs.YtopilgedcnbdaaaGreatDoor