/- The contract of the document's own Hex (citadelref03). -/
import Derived.Test.YtbgcnhhdgnalgaaDoorShaRefT
import Derived.Laws.BytesString
namespace Go.Proofs.YtbgcnhhdgnalgaaDoor
open Go.RowKit
set_option linter.unusedVariables false

def hexD (d : Nat) : UInt8 := if d < 10 then UInt8.ofNat (48 + d) else UInt8.ofNat (87 + d)
def hex2 (b : UInt8) : List UInt8 := [hexD (b.toNat / 16), hexD (b.toNat % 16)]
def hexL (bs : List UInt8) : List UInt8 := (bs.map hex2).flatten
def strB (l : List UInt8) : ByteArray := ⟨l.toArray⟩

theorem strB_size (l : List UInt8) : (strB l).size = l.length := by simp [strB, ByteArray.size]
theorem strB_add (a b : List UInt8) : strB a ++ strB b = strB (a ++ b) := by
  apply ByteArray.ext
  simp [strB, ByteArray.data_append]
theorem strB_nums (l : List UInt8) : strOfNums (numsOf l) = strB l := by
  apply ByteArray.ext
  apply Array.toList_inj.1
  rw [strOfNums_data]
  show List.map _ (List.map _ l) = l
  rw [List.map_map]
  have : ((fun n : Int => UInt8.ofNat n.toNat) ∘ fun b : UInt8 => (b.toNat : Int)) = id := by funext b; simp
  rw [this, List.map_id]
theorem convB (w : World) (y : UInt8) : (convert 25 9 (.slice (some ⟨w.heap.size, 0, none⟩) 1 1)).run Tryd.prog (w.alloc (.cells #[.int .u8 (y.toNat : Int)] 5)) = .ok (.string (strB [y])) (w.alloc (.cells #[.int .u8 (y.toNat : Int)] 5)) := by
  have r := Rd.lit (w := w) [y] [.int .u8 (y.toNat : Int)] 5 rfl
  have h := r.bytesIn.convert (by simp [numsOf]) 1 25 5 9 Tryd.underlying25 Tryd.underlying5 Tryd.underlying9
  rw [strB_nums] at h
  exact h
theorem hexL_snoc {bs : List UInt8} {k : Nat} (h : k < bs.length) : hexL (bs.take (k + 1)) = hexL (bs.take k) ++ [hexD (nth bs k / 16)] ++ [hexD (nth bs k % 16)] := by
  rw [take_snoc_b h, nth_of_lt h]
  unfold hexL
  rw [List.map_append, List.flatten_append, List.append_assoc]
  rfl
theorem hexL_len (bs : List UInt8) : (hexL bs).length = 2 * bs.length := by
  induction bs with
  | nil => rfl
  | cons b bs ih => simp only [hexL, List.map_cons, List.flatten_cons, List.length_append, List.length_cons] at ih ⊢; rw [ih]; simp [hex2]; omega
theorem hexD_lo {d : Nat} (h : d < 10) : 48 + (d : Int) = ((hexD d).toNat : Int) := by
  unfold hexD
  rw [if_pos h, ← u8_mod]; omega
theorem hexD_hi {d : Nat} (h : ¬ d < 10) (h16 : d < 16) : 97 + (d : Int) - 10 = ((hexD d).toNat : Int) := by
  unfold hexD
  rw [if_neg h, ← u8_mod]; omega

def HexRel2 (w : World) (bs : List UInt8) (k : Nat) (s i : Value) (wr : World) : Prop :=
  ∃ j : Nat, j ≤ 2 ∧ i = .int .i64 (j : Int) ∧ s = .string (strB (hexL (bs.take k) ++ (hex2 (bs.getD k 0)).take j)) ∧ TagAt wr w.heap.size bs ∧ Below w.heap.size w wr
def HexRel (w : World) (bs : List UInt8) (s i : Value) (wr : World) : Prop :=
  ∃ k : Nat, k ≤ 32 ∧ i = .int .i64 (k : Int) ∧ s = .string (strB (hexL (bs.take k))) ∧ TagAt wr w.heap.size bs ∧ Below w.heap.size w wr

set_option maxRecDepth 100000 in
set_option maxHeartbeats 1000000 in
theorem rHex (bs : List UInt8) (w : World) (hl : bs.length = 32) :
    Calls Tryd.prog 22 #[.agg (arrB bs)] w fun e w' => e = .returned (.string (strB (hexL bs))) ∧ Below w.heap.size w w' := by
  have HL := Lib.hid hl
  clear hl
  go_enter Tryd.func22, Tryd.ntmps22
  go_wp2
  go_loopw [3, 4, 5, 6] (fun s i _ _ wr => HexRel w bs s i wr) (fun _ i _ _ _ => 32 - (intOf i).toNat)
  case atStart => exact ⟨0, Nat.zero_le _, rfl, rfl, ⟨HL.out, heap_alloc_last w _⟩, (Below.refl _ _).alloc (Nat.le_refl _) _⟩
  case round =>
    obtain ⟨k, hk, rfl, rfl, ht, hb⟩ := hrel
    have HK := Lib.hid hk
    by_cases h32 : (k : Int) < 32
    · go_wp2
      go_loopw [3, 5, 6] (fun s i _ wr => HexRel2 w bs k s i wr) (fun _ i _ _ => 2 - (intOf i).toNat)
      case atStart => exact ⟨0, Nat.zero_le _, rfl, by rw [List.take_zero, List.append_nil], ht, hb⟩
      case round =>
        clear ht hb
        obtain ⟨j, hj, rfl, rfl, ht, hb⟩ := hrel
        have T := Lib.hid ht
        have B := Lib.hid hb
        have HJ := Lib.hid hj
        have hcell := (ht.cell (j := k) (by omega)).1
        have hn := nth_lt bs k
        clear ht hb hj hk
        have hsz : ((hexL (bs.take k) ++ (hex2 (bs.getD k 0)).take j).length : Int) ≤ 8388608 := by
          rw [List.length_append, hexL_len]
          have : ((hex2 (bs.getD k 0)).take j).length ≤ 2 := by simp [hex2]; omega
          have : (bs.take k).length ≤ 32 := by rw [List.length_take, HL.out]; omega
          omega
        by_cases h2 : (j : Int) < 2
        · have hv : Hid (nth bs k = (bs.getD k 0).toNat) := rfl
          generalize nth bs k = v at *
          obtain ⟨d, hd⟩ : ∃ d : Nat, d = if j = 0 then v / 16 else v % 16 := ⟨_, rfl⟩
          have hd16 : d < 16 := by rw [hd]; split <;> omega
          have hstep : (hex2 (bs.getD k 0)).take (j + 1) = (hex2 (bs.getD k 0)).take j ++ [hexD d] := by
            rw [hd, hv.out]
            have : j = 0 ∨ j = 1 := by omega
            rcases this with rfl | rfl <;> rfl
          have HSt := Lib.hid hstep
          clear hstep
          generalize hpre : hexL (bs.take k) ++ (hex2 (bs.getD k 0)).take j = pre at *
          have HPre := Lib.hid hpre
          clear hpre
          have hadd := fun (w : World) (y : UInt8) => run_string_add (P := Tryd.prog) (w := w) (strB pre) (strB [y]) (by rw [strB_size]; exact hsz) (by rw [strB_size]; simp)
          simp only [strB_add] at hadd
          have hcv := fun y => convB wr y
          by_cases h0 : j = 0
          · subst h0
            rw [if_pos rfl] at hd
            have e1 : (v : Int) / 16 = (d : Int) := by omega
            have e2 : (d : Int) % 256 = (d : Int) := by omega
            clear hd
            by_cases hd10 : d < 10
            · have hx := hexD_lo hd10
              generalize hexD d = y at *
              have hc1 := hcv y
              have ha1 := fun w => hadd w y
              clear hcv hadd
              have hdI : ((d : Int) < 10) := by omega
              go_wp2_with fail
              go_roundw
              case rel => exact ⟨0 + 1, by omega, by go_num, by rw [HSt.out, ← List.append_assoc, HPre.out], T.out.below ((Below.refl _ _).alloc (Nat.le_refl _) _), B.out.alloc B.out.size _⟩
              case measure => simp [intOf]
            · have hx := hexD_hi hd10 hd16
              generalize hexD d = y at *
              have hc1 := hcv y
              have ha1 := fun w => hadd w y
              clear hcv hadd
              have hdI : ¬ ((d : Int) < 10) := by omega
              go_wp2_with fail
              go_roundw
              case rel => exact ⟨0 + 1, by omega, by go_num, by rw [HSt.out, ← List.append_assoc, HPre.out], T.out.below ((Below.refl _ _).alloc (Nat.le_refl _) _), B.out.alloc B.out.size _⟩
              case measure => simp [intOf]
          · obtain rfl : j = 1 := by omega
            rw [if_neg h0] at hd
            have e1 : (v : Int) % 16 = (d : Int) := by omega
            have e2 : (d : Int) % 256 = (d : Int) := by omega
            clear hd h0
            by_cases hd10 : d < 10
            · have hx := hexD_lo hd10
              generalize hexD d = y at *
              have hc1 := hcv y
              have ha1 := fun w => hadd w y
              clear hcv hadd
              have hdI : ((d : Int) < 10) := by omega
              go_wp2_with fail
              go_roundw
              case rel => exact ⟨1 + 1, by omega, by go_num, by rw [HSt.out, ← List.append_assoc, HPre.out], T.out.below ((Below.refl _ _).alloc (Nat.le_refl _) _), B.out.alloc B.out.size _⟩
              case measure => simp [intOf]
            · have hx := hexD_hi hd10 hd16
              generalize hexD d = y at *
              have hc1 := hcv y
              have ha1 := fun w => hadd w y
              clear hcv hadd
              have hdI : ¬ ((d : Int) < 10) := by omega
              go_wp2_with fail
              go_roundw
              case rel => exact ⟨1 + 1, by omega, by go_num, by rw [HSt.out, ← List.append_assoc, HPre.out], T.out.below ((Below.refl _ _).alloc (Nat.le_refl _) _), B.out.alloc B.out.size _⟩
              case measure => simp [intOf]
        · obtain rfl : j = 2 := by have := HJ.out; omega
          have HE := Lib.hid (hexL_snoc (bs := bs) (k := k) (by rw [HL.out]; omega))
          go_wp2
          go_roundw
          case rel => exact ⟨k + 1, by omega, by go_num, by rw [HE.out, List.append_assoc]; rfl, T.out, B.out⟩
          case measure => simp [intOf]; omega
    · obtain rfl : k = 32 := by have := HK.out; omega
      rw [List.take_of_length_le (by rw [HL.out]; exact Nat.le_refl _)]
      have B := Lib.hid hb
      clear ht hb
      go_wp2
      go_ret
      exact ⟨rfl, B.out⟩
end Go.Proofs.YtbgcnhhdgnalgaaDoor
