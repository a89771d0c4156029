/- Contracts of the document's own hmac (citadelref04). -/
import Derived.Test.YtgkmkkfnpoapfaaDoorHmacM
import Derived.Test.YtgkmkkfnpoapfaaDoorHmacKit
import Derived.Test.YtgkmkkfnpoapfaaDoorShaLawA
namespace Go.Proofs.YtgkmkkfnpoapfaaDoor
open Go.RowKit
set_option linter.unusedVariables false

def TbRel (w : World) (t : List UInt8) (v i : Value) (wr : World) : Prop :=
  ∃ k : Nat, k ≤ 32 ∧ i = .int .i64 (k : Int) ∧ wr.ownsRow (w.heap.size + 1) 5 1 v k ((t.take k).map bval) ∧ wr.heap[w.heap.size]? = some (.cells (arrB t) 25 (0, 0)) ∧ Below (w.heap.size + 1) (w.alloc (.cells (arrB t) 25)) wr

set_option maxRecDepth 100000 in
set_option maxHeartbeats 1000000 in
theorem rTagBytes (t : List UInt8) (w : World) (hl : t.length = 32) :
    Calls Tryd.prog 27 #[.agg (arrB t)] w fun e w' => RetB 5 w t e w' := by
  have HS := Lib.hid hl
  clear hl
  go_enter Tryd.func27, Tryd.ntmps27
  go_wp2
  go_loopw [3, 4] (fun v i wr => TbRel w t v i wr) (fun _ i _ => 32 - (intOf i).toNat)   -- the slots: look at ops.sh
  case atStart => exact ⟨0, Nat.zero_le _, rfl, by simpa using World.ownsRow_nil _ _ 5 1, heap_alloc_last w _, Below.refl _ _⟩
  case round =>
    obtain ⟨k, hk, rfl, hown, hh, hb⟩ := hrel
    have HO := Lib.hid hown
    have HH := Lib.hid hh
    have HB := Lib.hid hb
    have HK := Lib.hid hk
    have hsz : w.heap.size + 1 ≤ wr.heap.size := by have := hb.size; simpa using this
    clear hown hh hb hk
    by_cases h32 : (k : Int) < 32
    · have hcell : wr.cell? ⟨w.heap.size, k, none⟩ = some (.int .u8 (nth t k : Int)) := by
        rw [cell_of_row _ _ k _ _ (0, 0) HH.out]
        exact arrB_at (by rw [HS.out]; omega)
      have HE := Lib.hid (take_snoc_getD (bs := t) (k := k) (by rw [HS.out]; omega))
      have HN : Hid ((nth t k : Int) = ((t.getD k 0).toNat : Int)) := rfl
      go_wp2_with (at_builtin; refine wpList_push isU8 rfl _ _ rfl rfl rfl HO.out HB.out hsz (by have := HK.out; omega) (t.getD k 0) HN.out ?_; intro v1 w1 hown1 hbel1 hsz1)
      go_roundw
      case rel =>
        refine ⟨k + 1, by omega, by go_num, by rw [HE.out]; exact hown1, ?_, hbel1⟩
        rw [hbel1.block _ (Nat.lt_succ_self _)]; exact heap_alloc_last w _
      case measure => simp [intOf]; omega
    · obtain rfl : k = 32 := by have := HK.out; omega
      have e : t.take 32 = t := List.take_of_length_le (by rw [HS.out]; exact Nat.le_refl _)
      have h := HO.out
      rw [e] at h
      have h1 := Lib.hid (own_mono h (Nat.le_succ _))
      have h2 : Hid (Below w.heap.size w wr) := ((Below.refl w.heap.size w).alloc (Nat.le_refl _) _).trans (HB.out.mono (Nat.le_succ _))
      clear h e
      go_wp2
      go_ret
      exact RetB.mk h1.out h2.out

set_option maxRecDepth 100000 in
set_option maxHeartbeats 1000000 in
theorem rShort (A : Option Addr) (n c : Nat) (k : List UInt8) (w : World) (ha : Rd w w.heap.size A n k) (hn : n ≤ 1000000000) :
    Calls Tryd.prog 12 #[.slice A n c] w fun e w' => RetB 5 w (shortL k) e w' := by
  have HA := Lib.hid ha
  clear ha
  by_cases h64 : n ≤ 64
  · have HE : Hid (shortL k = k) := if_pos (by rw [HA.out.1]; exact h64)
    go_enter Tryd.func12, Tryd.ntmps12
    go_wp2_with fail
    refine (refCopy A n c k w HA.out (by omega)).mono ?_
    rintro e w1 h
    rw [← HE.out] at h
    have H := Lib.hid h
    obtain ⟨A1, n1, c1, rfl, _, _⟩ := h
    go_wp2_with fail
    go_ret
    exact H.out
  · have HE : Hid (shortL k = shaL k) := if_neg (by rw [HA.out.1]; exact h64)
    go_enter Tryd.func12, Tryd.ntmps12
    go_wp2_with fail
    refine (rSum A n c k w HA.out hn).mono ?_
    rintro e w1 ⟨rfl, hb⟩
    have B := Lib.hid hb
    go_wp2_with fail
    refine (rTagBytes (shaL k) w1 (shaL_len k)).mono ?_
    rintro e w2 h
    rw [← HE.out] at h
    have H := Lib.hid (RetB.from B.out h)
    obtain ⟨A1, n1, c1, rfl, _, _⟩ := h
    go_wp2_with fail
    go_ret
    exact H.out
def MaskRel (w1 : World) (s : List UInt8) (x : UInt8) (v i : Value) (wr : World) : Prop :=
  ∃ k : Nat, k ≤ 64 ∧ i = .int .i64 (k : Int) ∧ wr.ownsRow w1.heap.size 5 1 v k ((maskN s x k).map bval) ∧ Below w1.heap.size w1 wr

set_option maxRecDepth 100000 in
set_option maxHeartbeats 1000000 in
theorem rMasked (A : Option Addr) (n c : Nat) (k : List UInt8) (x : UInt8) (w : World) (ha : Rd w w.heap.size A n k) (hn : n ≤ 1000000000) :
    Calls Tryd.prog 26 #[.slice A n c, .int .u8 (x.toNat : Int)] w fun e w' => RetB 5 w (maskL k x) e w' := by
  have HE := Lib.hid (maskN_all k x)
  have HL := Lib.hid (shortL_len k)
  go_enter Tryd.func26, Tryd.ntmps26
  go_wp2_with fail
  refine (rShort A n c k w ha hn).mono ?_
  rintro e w1 ⟨A1, n1, c1, rfl, hown1, hb⟩
  have R := Lib.hid (Rd.of_own hown1)
  obtain ⟨hcp, hcp'⟩ := own_cap hown1
  have B := Lib.hid hb
  clear hown1 hb ha
  generalize shortL k = s at *
  have hn1 : n1 ≤ 64 := by rw [← R.out.1]; exact HL.out
  have HN1 := Lib.hid hn1
  go_wp2_with fail
  go_loopw [6, 7, 8] (fun v i _ wr => MaskRel w1 s x v i wr) (fun _ i _ _ => 64 - (intOf i).toNat)
  case atStart => exact ⟨0, Nat.zero_le _, rfl, by simpa [maskN] using World.ownsRow_nil w1 w1.heap.size 5 1, Below.refl _ _⟩
  case round =>
    obtain ⟨j, hj, rfl, hown, hb⟩ := hrel
    have HO := Lib.hid hown
    have HB := Lib.hid hb
    have HJ := Lib.hid hj
    have hsz := hb.size
    have HM := Lib.hid (maskN_succ s x j)
    clear hown hb hj
    by_cases h64 : (j : Int) < 64
    · by_cases h1 : (j : Int) < (n1 : Int)
      · obtain ⟨b, o, rfl, hbo, hc⟩ := R.out.2 (by omega)
        have hcell : wr.cell? ⟨b, o + j, none⟩ = some (.int .u8 (nth s j : Int)) := (HB.out.cell hbo).trans (hc j (by omega))
        clear hc
        have hx := xor_u8 (s.getD j 0) x
        change bits .xor .u8 (nth s j : Int) _ = _ at hx
        generalize s.getD j 0 ^^^ x = y at *
        go_wp2_with (at_builtin; refine wpList_push isU8 rfl _ _ rfl rfl rfl HO.out HB.out hsz (by omega) y rfl ?_; intro v1 w2 hown1 hbel1 hsz1)
        go_roundw
        case rel => exact ⟨j + 1, by omega, by go_num, by rw [HM.out]; exact hown1, hbel1⟩
        case measure => simp [intOf]; omega
      · have hx := xor_u8 0 x
        have e0 : s.getD j 0 = 0 := by simp [List.getD, List.getElem?_eq_none (show s.length ≤ j by rw [R.out.1]; omega)]
        rw [e0] at HM
        change bits .xor .u8 (0 : Int) _ = _ at hx
        generalize (0 : UInt8) ^^^ x = y at *
        clear e0
        go_wp2_with (at_builtin; refine wpList_push isU8 rfl _ _ rfl rfl rfl HO.out HB.out hsz (by omega) y rfl ?_; intro v1 w2 hown1 hbel1 hsz1)
        go_roundw
        case rel => exact ⟨j + 1, by omega, by go_num, by rw [HM.out]; exact hown1, hbel1⟩
        case measure => simp [intOf]; omega
    · obtain rfl : j = 64 := by have := HJ.out; omega
      go_wp2_with fail
      go_ret
      have h := RetB.mk HO.out HB.out
      rw [HE.out] at h
      exact h.from B.out
end Go.Proofs.YtgkmkkfnpoapfaaDoor
