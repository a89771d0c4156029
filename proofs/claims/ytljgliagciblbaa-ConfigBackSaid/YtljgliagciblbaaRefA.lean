/- Contracts of the document's own byte-slice functions (citadelref01): Cat, Copy, order, Same, Ahead: what each returns for slices that read as given lists. -/
import Derived.Test.YtljgliagciblbaaChecked
import Derived.Test.YtljgliagciblbaaBase
namespace Go.Proofs.Ytljgliagciblbaa
open Go.RowKit
set_option linter.unusedVariables false

theorem isU8 : U8 Try.prog 29 5 := ⟨Try.underlying29, by kernel_rfl⟩

/-- What a loop that copies byte by byte knows at its head. -/
def CatRel (B n p : Nat) (w : World) (pre bs : List UInt8) (v i : Value) (wr : World) : Prop :=
  ∃ k : Nat, k ≤ n ∧ i = .int .i64 k ∧ wr.ownsRow B 5 1 v (p + k) ((pre ++ bs.take k).map bval) ∧ Below B w wr

set_option maxHeartbeats 400000 in
theorem refCat (A A' : Option Addr) (n m c d : Nat) (xs ys : List UInt8) (w : World) (ha : Rd w w.heap.size A n xs) (hb : Rd w w.heap.size A' m ys) (hn : n + m ≤ 140737488355328) :
    Calls Try.prog 80 #[.slice A n c, .slice A' m d] w fun e w' => RetB 5 w (xs ++ ys) e w' := by
  have HA := Lib.hid ha
  have HB := Lib.hid hb
  clear ha hb
  go_enter Try.func80, Try.ntmps80
  go_wp2
  go_loopw [5, 6] (fun v i wr => CatRel w.heap.size n 0 w [] xs v i wr) (fun _ i _ => n - (intOf i).toNat)
  case atStart => exact ⟨0, Nat.zero_le _, rfl, by simpa using World.ownsRow_nil w w.heap.size 5 1, Below.refl _ _⟩
  case round =>
    obtain ⟨k, hk, rfl, hown, hbel⟩ := hrel
    have hsz := hbel.size
    by_cases hlt : k < n
    · obtain ⟨b, o, rfl, hbo, hc⟩ := HA.out.2 (by omega)
      have hcell : wr.cell? ⟨b, o + k, none⟩ = some (.int .u8 (nth xs k : Int)) := (hbel.cell hbo).trans (hc k hlt)
      clear hc
      go_wp2_with (at_builtin; refine wpList_push isU8 rfl _ _ rfl rfl rfl hown hbel hsz (by omega) (xs.getD k 0) rfl ?_; intro v1 w1 hown1 hbel1 hsz1)
      go_roundw
      case rel => exact ⟨k + 1, by omega, by go_num, by rw [take_snoc_getD (by rw [HA.out.1]; omega), ← List.append_assoc]; exact hown1, hbel1⟩
      case measure => simp [intOf]; omega
    · obtain rfl : k = n := by omega
      go_wp2
      go_loopw [5, 7] (fun v i wr => CatRel w.heap.size m k w xs ys v i wr) (fun _ i _ => m - (intOf i).toNat)
      case atStart => exact ⟨0, Nat.zero_le _, rfl, by simpa [← HA.out.1] using hown, hbel⟩
      case round =>
        obtain ⟨j, hj, rfl, hown, hbel⟩ := hrel
        have hsz := hbel.size
        by_cases hlt : j < m
        · obtain ⟨b, o, rfl, hbo, hc⟩ := HB.out.2 (by omega)
          have hcell : wr.cell? ⟨b, o + j, none⟩ = some (.int .u8 (nth ys j : Int)) := (hbel.cell hbo).trans (hc j hlt)
          clear hc
          go_wp2_with (at_builtin; refine wpList_push isU8 rfl _ _ rfl rfl rfl hown hbel hsz (by omega) (ys.getD j 0) rfl ?_; intro v1 w1 hown1 hbel1 hsz1)
          go_roundw
          case rel => exact ⟨j + 1, by omega, by go_num, by rw [take_snoc_getD (by rw [HB.out.1]; omega), ← List.append_assoc]; exact hown1, hbel1⟩
          case measure => simp [intOf]; omega
        · obtain rfl : j = m := by omega
          go_wp2
          go_ret
          exact RetB.mk (by rw [List.take_of_length_le (by rw [HB.out.1]; exact Nat.le_refl _)] at hown; exact hown) hbel

theorem refCopy (A : Option Addr) (n c : Nat) (xs : List UInt8) (w : World) (ha : Rd w w.heap.size A n xs) (hn : n ≤ 140737488355328) :
    Calls Try.prog 93 #[.slice A n c] w fun e w' => RetB 5 w xs e w' := by
  have HA := Lib.hid ha
  clear ha
  go_enter Try.func93, Try.ntmps93
  go_wp2_with fail
  refine (refCat none A 0 n 0 c [] xs _ (Rd.nil _ _ _) HA.out (by omega)).mono ?_
  rintro e w1 ⟨A1, n1, c1, rfl, hown, hbel⟩
  go_wp2
  go_ret
  exact RetB.mk hown hbel

def OrdRel (n m : Nat) (w : World) (xs ys : List UInt8) (i : Value) (wr : World) : Prop :=
  ∃ k : Nat, k ≤ n ∧ k ≤ m ∧ i = .int .i64 k ∧ xs.take k = ys.take k ∧ ∃ q, wr = w.drewN q

end Go.Proofs.Ytljgliagciblbaa
