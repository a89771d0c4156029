/- Contracts of the document's own byte-slice functions (citadelref01): Cat, Copy, order, Same, Ahead: what each returns for slices that read as given lists. -/
import Derived.Test.YtopilgedcnbdaaaGreatDoorTz
import Derived.Test.YtopilgedcnbdaaaGreatDoorChecked
import Derived.Test.YtopilgedcnbdaaaGreatDoorBase
namespace Go.Proofs.YtopilgedcnbdaaaGreatDoor
set_option maxRecDepth 1000000
set_option maxHeartbeats 8000000
open Go.RowKit
set_option linter.unusedVariables false
theorem isU8 : U8 Tryz.prog 31 5 := ⟨Tryz.underlying31, by kernel_rfl⟩
def CatRel (B n p : Nat) (w : World) (pre bs : List UInt8) (v i : Value) (wr : World) : Prop :=
 ∃ k : Nat, k ≤ n ∧ i = .int .i64 k ∧ wr.ownsRow B 5 1 v (p + k) ((pre ++ bs.take k).map bval) ∧ Below B w wr
theorem refCat (A A' : Option Addr) (n m c d : Nat) (xs ys : List UInt8) (w : World) (ha : Rd w w.heap.size A n xs) (hb : Rd w w.heap.size A' m ys) (hn : n + m ≤ 140737488355328) :
  Calls Tryz.prog 32 #[.slice A n c, .slice A' m d] w fun e w' => RetB 5 w (xs ++ ys) e w' := by
 have HA := qH ha
 have HB := qH hb
 clear ha hb
 go_enter Tryz.func32, Tryz.ntmps32
 go_wp2
 go_loopw [5, 6] (fun v i wr => CatRel w.heap.size n 0 w [] xs v i wr) (fun _ i _ => n - (intOf i).toNat)
 case atStart => exact ⟨0, Nat.zero_le _, rfl, by simpa using World.ownsRow_nil w w.heap.size 5 1, Below.refl _ _⟩
 case round =>
  obtain ⟨k, hk, rfl, hown, hbel⟩ := hrel
  have hsz := hbel.size
  by_cases hlt : k < n
  ·obtain ⟨b, o, rfl, hbo, hc⟩ := HA.out.2 (by omega)
   have hcell : wr.cell? ⟨b, o + k, none⟩ = some (.int .u8 (nth xs k : Int)) := (hbel.cell hbo).trans (hc k hlt)
   clear hc
   go_wp2_with (at_builtin; refine wpList_push isU8 rfl _ _ rfl rfl rfl hown hbel hsz (by omega) (xs.getD k 0) rfl ?_; intro v1 w1 hown1 hbel1 hsz1)
   go_roundw
   case rel => exact ⟨k + 1, by omega, by go_num, by rw [take_snoc_getD (by rw [HA.out.1]; omega), ← List.append_assoc]; exact hown1, hbel1⟩
   case measure => simp [intOf]; omega
  ·obtain rfl : k = n := by omega
   go_wp2
   go_loopw [5, 7] (fun v i wr => CatRel w.heap.size m k w xs ys v i wr) (fun _ i _ => m - (intOf i).toNat)
   case atStart => exact ⟨0, Nat.zero_le _, rfl, by simpa [← HA.out.1] using hown, hbel⟩
   case round =>
    obtain ⟨j, hj, rfl, hown, hbel⟩ := hrel
    have hsz := hbel.size
    by_cases hlt : j < m
    ·obtain ⟨b, o, rfl, hbo, hc⟩ := HB.out.2 (by omega)
     have hcell : wr.cell? ⟨b, o + j, none⟩ = some (.int .u8 (nth ys j : Int)) := (hbel.cell hbo).trans (hc j hlt)
     clear hc
     go_wp2_with (at_builtin; refine wpList_push isU8 rfl _ _ rfl rfl rfl hown hbel hsz (by omega) (ys.getD j 0) rfl ?_; intro v1 w1 hown1 hbel1 hsz1)
     go_roundw
     case rel => exact ⟨j + 1, by omega, by go_num, by rw [take_snoc_getD (by rw [HB.out.1]; omega), ← List.append_assoc]; exact hown1, hbel1⟩
     case measure => simp [intOf]; omega
    ·obtain rfl : j = m := by omega
     go_wp2
     go_ret
     exact RetB.mk (by rw [List.take_of_length_le (by rw [HB.out.1]; exact Nat.le_refl _)] at hown; exact hown) hbel
theorem refCopy (A : Option Addr) (n c : Nat) (xs : List UInt8) (w : World) (ha : Rd w w.heap.size A n xs) (hn : n ≤ 140737488355328) :
  Calls Tryz.prog 9 #[.slice A n c] w fun e w' => RetB 5 w xs e w' := by
 have HA := qH ha
 clear ha
 go_enter Tryz.func9, Tryz.ntmps9
 go_wp2_with fail
 refine (refCat none A 0 n 0 c [] xs _ (Rd.nil _ _ _) HA.out (by omega)).mono ?_
 rintro e w1 ⟨A1, n1, c1, rfl, hown, hbel⟩
 go_wp2
 go_ret
 exact RetB.mk hown hbel
def OrdRel (n m : Nat) (w : World) (xs ys : List UInt8) (i : Value) (wr : World) : Prop :=
 ∃ k : Nat, k ≤ n ∧ k ≤ m ∧ i = .int .i64 k ∧ xs.take k = ys.take k ∧ ∃ q, wr = w.drewN q
theorem refOrder (A A' : Option Addr) (n m c d B : Nat) (xs ys : List UInt8) (w : World) (ha : Rd w B A n xs) (hb : Rd w B A' m ys) (hn : n ≤ 140737488355328) (hm : m ≤ 140737488355328) :
  Calls Tryz.prog 38 #[.slice A n c, .slice A' m d] w fun e w' => RetQ w (.int .i64 (ord xs ys)) e w' := by
 have HA := qH ha
 have HB := qH hb
 clear ha hb
 go_enter Tryz.func38, Tryz.ntmps38
 go_wp2
 go_loopw [5] (fun i wr => OrdRel n m w xs ys i wr) (fun i _ => n - (intOf i).toNat)
 case atStart => exact ⟨0, Nat.zero_le _, Nat.zero_le _, rfl, rfl, 0, rfl⟩
 case round =>
  obtain ⟨k, hk, hk', rfl, htake, q, rfl⟩ := hrel
  have HT := qH htake
  clear htake
  by_cases h1 : k < n
  ·by_cases h2 : k < m
   ·obtain ⟨b, o, rfl, _, hc⟩ := HA.out.2 (by omega)
    obtain ⟨b', o', rfl, _, hc'⟩ := HB.out.2 (by omega)
    have hcell : w.cell? ⟨b, o + k, none⟩ = some (.int .u8 (nth xs k : Int)) := hc k h1
    have hcell' : w.cell? ⟨b', o' + k, none⟩ = some (.int .u8 (nth ys k : Int)) := hc' k h2
    clear hc hc'
    have e1 : k < xs.length := by rw [HA.out.1]; exact h1
    have e2 : k < ys.length := by rw [HB.out.1]; exact h2
    by_cases hl : nth xs k < nth ys k
    ·go_wp2
     go_quiet (fail)
     go_wp2
     go_ret
     exact ⟨ret_int (ord_lt e1 e2 HT.out hl).symm, drew2 _ _ _⟩
    ·by_cases hg : nth ys k < nth xs k
     ·go_wp2
      go_quiet (fail)
      go_wp2
      go_quiet (fail)
      go_wp2
      go_ret
      exact ⟨ret_int (ord_gt e1 e2 HT.out hg).symm, drew3 _ _ _ _⟩
     ·go_wp2
      go_quiet (fail)
      go_wp2
      go_quiet (fail)
      go_wp2
      go_roundw
      case rel => exact ⟨k + 1, by omega, by omega, by go_num, take_step e1 e2 HT.out hl hg, _, rfl⟩
      case measure => simp [intOf]; omega
   ·obtain rfl : k = m := by omega
    have e1 : ys.length < xs.length := by rw [HA.out.1, HB.out.1]; exact h1
    have HO : Hid (ord xs ys = 1) := ord_long e1 (by
     have := HT.out; rw [List.take_of_length_le (l := ys) (by rw [HB.out.1]; exact Nat.le_refl _)] at this; rw [HB.out.1]; exact this)
    clear e1
    go_wp2
    go_ret
    exact ⟨ret_int HO.out.symm, _, rfl⟩
  ·obtain rfl : k = n := by omega
   have HO1 : k < m → Hid (ord xs ys = -1) := fun h => ord_short (by rw [HA.out.1, HB.out.1]; exact h) (by
     have := HT.out; rw [List.take_of_length_le (l := xs) (by rw [HA.out.1]; exact Nat.le_refl _)] at this; rw [HA.out.1]; exact this)
   have HO2 : ¬ k < m → Hid (ord xs ys = 0) := fun h => ord_iff.2 (by
     have := HT.out
     rw [List.take_of_length_le (l := xs) (by rw [HA.out.1]; exact Nat.le_refl _), List.take_of_length_le (l := ys) (by rw [HB.out.1]; omega)] at this; exact this)
   by_cases h2 : k < m
   ·have HO := HO1 h2
    clear HO1 HO2
    go_wp2
    go_ret
    exact ⟨ret_int HO.out.symm, _, rfl⟩
   ·have HO := HO2 h2
    clear HO1 HO2
    go_wp2
    go_ret
    exact ⟨ret_int HO.out.symm, _, rfl⟩
theorem refSame (A A' : Option Addr) (n m c d B : Nat) (xs ys : List UInt8) (w : World) (ha : Rd w B A n xs) (hb : Rd w B A' m ys) (hn : n ≤ 140737488355328) (hm : m ≤ 140737488355328) :
  Calls Tryz.prog 12 #[.slice A n c, .slice A' m d] w fun e w' => RetQ w (.bool (decide (xs = ys))) e w' := by
 have HA := qH ha
 have HB := qH hb
 clear ha hb
 go_enter Tryz.func12, Tryz.ntmps12
 go_wp2_with fail
 refine (refOrder A A' n m c d B xs ys _ HA.out HB.out hn hm).mono ?_
 rintro e w1 ⟨rfl, q, rfl⟩
 go_wp2
 go_ret
 exact ⟨ret_bool (by rw [Bool.eq_iff_iff]; simp [ord_iff]), q, rfl⟩
theorem refSameT (A A' : Option Addr) (n m c d B : Nat) (xs ys : List UInt8) (w : World) (h : xs = ys) (ha : Rd w B A n xs) (hb : Rd w B A' m ys) (hn : n ≤ 140737488355328) (hm : m ≤ 140737488355328) :
  Calls Tryz.prog 12 #[.slice A n c, .slice A' m d] w fun e w' => RetQ w (.bool true) e w' := by
 subst h
 refine (refSame A A' n m c d B xs xs w ha hb hn hm).mono ?_
 rintro e w1 ⟨rfl, q, rfl⟩
 exact ⟨by simp, q, rfl⟩
end Go.Proofs.YtopilgedcnbdaaaGreatDoor