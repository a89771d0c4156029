/- Contracts of the document's own number functions (citadelref01): Put, Number, Load. -/
import Derived.Test.YtabonnhmmbigmaaRefA
import Derived.Test.YtabonnhmmbigmaaNum
namespace Go.Proofs.Ytabonnhmmbigmaa
open Go.RowKit
set_option linter.unusedVariables false

/-- Put's first loop: the digits from the last one on. -/
def PutRel (B n : Nat) (w : World) (x : Nat) (y v i : Value) (wr : World) : Prop :=
  ∃ k : Nat, k ≤ n ∧ i = .int .i64 k ∧ y = .int .u64 ((x / 256 ^ k : Nat) : Int) ∧ wr.ownsRow B 5 1 v k ((enc x k).reverse.map bval) ∧ Below B w wr

/-- Put's second loop: the digits turned round. -/
def PutRel2 (B n : Nat) (w : World) (bs : List UInt8) (v i : Value) (wr : World) : Prop :=
  ∃ j : Nat, j ≤ n ∧ i = .int .i64 ((n : Int) - 1 - j) ∧ wr.ownsRow B 5 1 v j ((bs.take j).map bval) ∧ Below B w wr

set_option maxHeartbeats 400000 in
theorem refPut (x n : Nat) (w : World) (hx : x < 18446744073709551616) (hn : n ≤ 8) :
    Calls Try.prog 30 #[.int .u64 (x : Int), .int .i64 (n : Int)] w fun e w' => RetB 5 w (enc x n) e w' := by
  go_enter Try.func30, Try.ntmps30
  go_wp2
  go_loopw [0, 5, 6] (fun y v i wr => PutRel w.heap.size n w x y v i wr) (fun _ _ i _ => n - (intOf i).toNat)
  case atStart => exact ⟨0, Nat.zero_le _, rfl, by simp, by simpa [enc] using World.ownsRow_nil w w.heap.size 5 1, Below.refl _ _⟩
  case round =>
    obtain ⟨k, hk, rfl, rfl, hown, hbel⟩ := hrel
    have hsz := hbel.size
    by_cases hlt : k < n
    · have hq : x / 256 ^ k ≤ x := Nat.div_le_self _ _
      generalize hy : x / 256 ^ k = y at *
      have HY := Lib.hid hy
      clear hy
      go_wp2_with (at_builtin; refine wpList_push isU8 rfl _ _ rfl rfl rfl hown hbel hsz (by omega) (UInt8.ofNat y) (u8_mod y) ?_; intro v1 w1 hown1 hbel1 hsz1)
      go_roundw
      case rel => exact ⟨k + 1, by omega, by go_num, by rw [Nat.pow_succ, ← Nat.div_div_eq_div_mul, HY.out]; go_num, by simp only [enc, List.reverse_cons, HY.out]; exact hown1, hbel1⟩
      case measure => simp [intOf]; omega
    · obtain rfl : k = n := by omega
      generalize hy : x / 256 ^ k = y at *
      clear hy
      obtain ⟨A, c, rfl⟩ := own_slice hown
      have HR := Lib.hid (Rd.of_own hown)
      clear hown
      obtain ⟨wo, rfl⟩ : ∃ wo : World, wo = wr := ⟨_, rfl⟩
      go_wp2
      go_loopw [7, 8] (fun v i wr => PutRel2 wo.heap.size k wo (enc x k) v i wr) (fun _ i _ => (intOf i + 1).toNat)
      case atStart => exact ⟨0, Nat.zero_le _, by go_num, by simpa using World.ownsRow_nil wo wo.heap.size 5 1, Below.refl _ _⟩
      case round =>
        obtain ⟨j, hj, rfl, hown, hbel2⟩ := hrel
        have hsz2 := hbel2.size
        by_cases hlt : j < k
        · obtain ⟨i, hi⟩ : ∃ i, i = k - 1 - j := ⟨_, rfl⟩
          obtain ⟨b, o, rfl, hbo, hc⟩ := HR.out.2 (by omega)
          have hcell : wr.cell? ⟨b, o + i, none⟩ = some (.int .u8 (nth (enc x k).reverse i : Int)) := (hbel2.cell hbo).trans (hc i (by omega))
          clear hc
          have HI := Lib.hid hi
          have ei : ((k : Int) - 1 - j) = (i : Int) := by omega
          clear hi
          rw [ei]
          have hik : i < k := by have := HI.out; omega
          clear ei
          go_wp2_with (at_builtin; refine wpList_push isU8 rfl _ _ rfl rfl rfl hown hbel2 hsz2 (by omega) ((enc x k).reverse.getD i 0) rfl ?_; intro v1 w1 hown1 hbel1 hsz1)
          go_roundw
          case rel => exact ⟨j + 1, by omega, by rw [show (k : Int) - 1 - ((j + 1 : Nat) : Int) = (i : Int) - 1 from by have := HI.out; omega], by
            rw [take_snoc_getD (by rw [enc_len]; exact hlt), ← rev_getD (i := i) (by rw [enc_len]; have := HI.out; omega)]; exact hown1, hbel1⟩
          case measure => simp [intOf]
        · obtain rfl : j = k := by omega
          rw [show (j : Int) - 1 - j = -1 from by omega]
          go_wp2
          go_ret
          refine RetB.mk (own_mono (by rw [List.take_of_length_le (by rw [enc_len]; exact Nat.le_refl _)] at hown; exact hown) hsz) (hbel.trans (hbel2.mono hsz))

/-- Number's loop: the last j bytes' number, and 256 to the j-th. -/
def RNumRel (n : Nat) (bs : List UInt8) (x u i : Value) : Prop :=
  ∃ j : Nat, j ≤ n ∧ i = .int .i64 ((n : Int) - 1 - j) ∧ x = .int .u64 ((num (bs.drop (n - j)) : Nat) : Int) ∧ u = .int .u64 ((256 ^ j % 18446744073709551616 : Nat) : Int)

/-- What Number, Load tell. -/
def numOf (bs : List UInt8) : Nat := if bs.length = 0 ∨ 8 < bs.length then 0 else num bs
def numOk (bs : List UInt8) : Bool := decide (0 < bs.length ∧ bs.length ≤ 8)

/-- Load: the number of k bytes (k 4 or 8) at a place. -/
def loadOf (bs : List UInt8) (at_ : Int) (k : Nat) : Nat := if 0 ≤ at_ ∧ at_ + k ≤ bs.length then num ((bs.drop at_.toNat).take k) else 0
def loadOk (bs : List UInt8) (at_ : Int) (k : Nat) : Bool := decide (0 ≤ at_ ∧ at_ + k ≤ bs.length)

theorem loadOf_no {bs : List UInt8} {at_ : Int} {k : Nat} (h : ¬ (0 ≤ at_ ∧ at_ + k ≤ bs.length)) : loadOf bs at_ k = 0 ∧ loadOk bs at_ k = false := by
  exact ⟨if_neg h, decide_eq_false h⟩
theorem loadOf_yes {bs : List UInt8} {p k : Nat} (h : p + k ≤ bs.length) (hk : 0 < k) (h8 : k ≤ 8) :
    loadOf bs p k = numOf ((bs.take (p + k)).drop p) ∧ loadOk bs p k = true ∧ numOk ((bs.take (p + k)).drop p) = true := by
  have h' : (0 : Int) ≤ (p : Int) ∧ (p : Int) + k ≤ bs.length := by omega
  have hl : ((bs.take (p + k)).drop p).length = k := by simp; omega
  refine ⟨?_, ?_, ?_⟩
  · simp only [loadOf, if_pos h', numOf, hl]
    rw [if_neg (by omega), Int.toNat_natCast, List.drop_take]
    congr 2; omega
  · simp only [loadOk]; exact decide_eq_true h'
  · simp only [numOk, hl]; exact decide_eq_true ⟨hk, h8⟩

end Go.Proofs.Ytabonnhmmbigmaa
