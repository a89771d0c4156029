/- Contracts of the document's own hmac (citadelref04). -/
import Derived.Test.YtmhknpkiddgcpaaHmacM
import Derived.Test.YtmhknpkiddgcpaaHmacKit
import Derived.Test.YtmhknpkiddgcpaaShaLawA
namespace Go.Proofs.Ytmhknpkiddgcpaa
open Go.RowKit
set_option linter.unusedVariables false

def TbRel (w : World) (t : List UInt8) (v i : Value) (wr : World) : Prop :=
  ∃ k : Nat, k ≤ 32 ∧ i = .int .i64 (k : Int) ∧ wr.ownsRow (w.heap.size + 1) 5 1 v k ((t.take k).map bval) ∧ wr.heap[w.heap.size]? = some (.cells (arrB t) 29 (0, 0)) ∧ Below (w.heap.size + 1) (w.alloc (.cells (arrB t) 29)) wr

set_option maxRecDepth 100000 in
set_option maxHeartbeats 1000000 in
theorem rTagBytes (t : List UInt8) (w : World) (hl : t.length = 32) :
    Calls Try.prog 78 #[.agg (arrB t)] w fun e w' => RetB 5 w t e w' := by
  have HS := Lib.hid hl
  clear hl
  go_enter Try.func78, Try.ntmps78
  go_wp2
  go_loopw [3, 4] (fun v i wr => TbRel w t v i wr) (fun _ i _ => 32 - (intOf i).toNat)   -- the slots: look at ops.sh
  case atStart => exact ⟨0, Nat.zero_le _, rfl, by simpa using World.ownsRow_nil _ _ 5 1, heap_alloc_last w _, Below.refl _ _⟩
  case round =>
    obtain ⟨k, hk, rfl, hown, hh, hb⟩ := hrel
    have HO := Lib.hid hown
    have HH := Lib.hid hh
    have HB := Lib.hid hb
    have HK := Lib.hid hk
    have hsz : w.heap.size + 1 ≤ wr.heap.size := by have := hb.size; simpa using this
    clear hown hh hb hk
    by_cases h32 : (k : Int) < 32
    · have hcell : wr.cell? ⟨w.heap.size, k, none⟩ = some (.int .u8 (nth t k : Int)) := by
        rw [cell_of_row _ _ k _ _ (0, 0) HH.out]
        exact arrB_at (by rw [HS.out]; omega)
      have HE := Lib.hid (take_snoc_getD (bs := t) (k := k) (by rw [HS.out]; omega))
      have HN : Hid ((nth t k : Int) = ((t.getD k 0).toNat : Int)) := rfl
      go_wp2_with (at_builtin; refine wpList_push isU8 rfl _ _ rfl rfl rfl HO.out HB.out hsz (by have := HK.out; omega) (t.getD k 0) HN.out ?_; intro v1 w1 hown1 hbel1 hsz1)
      go_roundw
      case rel =>
        refine ⟨k + 1, by omega, by go_num, by rw [HE.out]; exact hown1, ?_, hbel1⟩
        rw [hbel1.block _ (Nat.lt_succ_self _)]; exact heap_alloc_last w _
      case measure => simp [intOf]; omega
    · obtain rfl : k = 32 := by have := HK.out; omega
      have e : t.take 32 = t := List.take_of_length_le (by rw [HS.out]; exact Nat.le_refl _)
      have h := HO.out
      rw [e] at h
      have h1 := Lib.hid (own_mono h (Nat.le_succ _))
      have h2 : Hid (Below w.heap.size w wr) := ((Below.refl w.heap.size w).alloc (Nat.le_refl _) _).trans (HB.out.mono (Nat.le_succ _))
      clear h e
      go_wp2
      go_ret
      exact RetB.mk h1.out h2.out

def MaskRel (w1 : World) (s : List UInt8) (x : UInt8) (v i : Value) (wr : World) : Prop :=
  ∃ k : Nat, k ≤ 64 ∧ i = .int .i64 (k : Int) ∧ wr.ownsRow w1.heap.size 5 1 v k ((maskN s x k).map bval) ∧ Below w1.heap.size w1 wr

end Go.Proofs.Ytmhknpkiddgcpaa
