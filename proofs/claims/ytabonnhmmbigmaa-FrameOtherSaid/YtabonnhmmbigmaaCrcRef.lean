/- Contracts of the document's own checksum functions (citadelref02): Add, Sum, Put, Check: what each returns for a slice that reads as given bytes. -/
import Derived.Test.YtabonnhmmbigmaaRefB
import Derived.Test.YtabonnhmmbigmaaCrc
import Derived.Test.YtabonnhmmbigmaaKit
import Derived.Laws.BitsAllLaws
namespace Go.Proofs.Ytabonnhmmbigmaa
open Go.RowKit
set_option linter.unusedVariables false

theorem bitN_snoc (j c : Nat) : bitN (j + 1) c = bit1 (bitN j c) := bitN_add j 1 c
theorem raw_snoc {bs : List UInt8} {k : Nat} (h : k < bs.length) (c : Nat) : raw c (bs.take (k + 1)) = bitN 8 (raw c (bs.take k) ^^^ nth bs k) := by
  rw [take_snoc_b h, raw_append, raw_cons, raw_nil, nth_of_lt h]; rfl
theorem crcSum_lt (bs : List UInt8) : crcSum bs < 4294967296 := by
  unfold crcSum
  exact crcAdd_lt bs (by decide)
theorem xor_byte {y b : Nat} (hy : y < 4294967296) (hb : b < 256) : bits .xor .u32 (y : Int) ((b : Int) % 4294967296) = ((y ^^^ b : Nat) : Int) := by
  rw [show (b : Int) % 4294967296 = (b : Int) from by omega]
  exact u32_xor_nat _ _ hy (by omega)
theorem half (q : Nat) (h : q < 4294967296) : (q : Int) / 2 % 4294967296 = (q : Int) / 2 := by omega
theorem xor_ones {y : Nat} (hy : y < 4294967296) : bits .xor .u32 (y : Int) 4294967295 = ((y ^^^ crcM : Nat) : Int) := u32_xor_nat y 4294967295 hy (by decide)
theorem xor_poly {y : Nat} (hy : y < 4294967296) : bits .xor .u32 ((y : Int) / 2) 3988292384 = ((y / 2 ^^^ 3988292384 : Nat) : Int) := u32_xor_nat (y / 2) 3988292384 (by omega) (by decide)

def CrcRel (n c : Nat) (bs : List UInt8) (x i : Value) : Prop :=
  ∃ k : Nat, k ≤ n ∧ i = .int .i64 (k : Int) ∧ x = .int .u32 ((raw c (bs.take k) : Nat) : Int)
def BitRel (y : Nat) (x i : Value) : Prop :=
  ∃ j : Nat, j ≤ 8 ∧ i = .int .i64 (j : Int) ∧ x = .int .u32 ((bitN j y : Nat) : Int)

set_option maxHeartbeats 400000 in
theorem refAdd (A : Option Addr) (n c B x : Nat) (bs : List UInt8) (w : World) (ha : Rd w B A n bs) (hn : n ≤ 140737488355328) (hx : x < 4294967296) :
    Calls Try.prog 38 #[.int .u32 (x : Int), .slice A n c] w fun e w' => e = .returned (.int .u32 (crcAdd x bs : Int)) ∧ w = w' := by
  have HA := Lib.hid ha
  clear ha
  have hones := xor_ones hx
  have HM : Hid (x ^^^ crcM < 4294967296) := Nat.xor_lt_two_pow (n := 32) hx (by decide)
  have HE : Hid (crcAdd x bs = raw (x ^^^ crcM) bs ^^^ crcM) := rfl
  go_enter Try.func38, Try.ntmps38
  go_wp2
  clear hones
  generalize x ^^^ crcM = x0 at *
  go_loop [0, 5, 6] (fun x i _ => CrcRel n x0 bs x i) (fun _ i _ => n - (intOf i).toNat)
  case atStart => exact ⟨0, Nat.zero_le _, rfl, rfl⟩
  case round =>
    obtain ⟨k, hk, rfl, rfl⟩ := hrel
    by_cases hlt : k < n
    · obtain ⟨b, o, rfl, hbo, hc⟩ := HA.out.2 (by omega)
      have hcell : w.cell? ⟨b, o + k, none⟩ = some (.int .u8 (nth bs k : Int)) := hc k (by omega)
      clear hc
      have HS := Lib.hid (raw_snoc (bs := bs) (k := k) (by rw [HA.out.1]; exact hlt) x0)
      have HY : Hid (raw x0 (bs.take k) < 4294967296) := raw_lt _ HM.out
      have hxb := xor_byte HY.out (nth_lt bs k)
      have HZ : Hid (raw x0 (bs.take k) ^^^ nth bs k < 4294967296) := Nat.xor_lt_two_pow (n := 32) HY.out (by have := nth_lt bs k; omega)
      generalize raw x0 (bs.take k) ^^^ nth bs k = z at *
      generalize raw x0 (bs.take k) = y at *
      go_wp2
      clear hxb hcell
      go_loop [0, 6] (fun x i => BitRel z x i) (fun _ i => 8 - (intOf i).toNat)
      case atStart => exact ⟨0, Nat.zero_le _, rfl, rfl⟩
      case round =>
        obtain ⟨j, hj, rfl, rfl⟩ := hrel
        by_cases hlt2 : j < 8
        · have HT := Lib.hid (bitN_snoc j z)
          have HQ : Hid (bitN j z < 4294967296) := bitN_lt j HZ.out
          generalize bitN j z = q at *
          have hpoly := xor_poly HQ.out
          have hhalf := half q HQ.out
          by_cases hodd : q % 2 = 1
          · have ho : ((q : Int) % 2 == 1) = true := by simp; omega
            go_wp2
            go_round
            case rel => exact ⟨j + 1, by omega, by go_num, by rw [HT.out, bit1, if_pos hodd]⟩
            case measure => simp [intOf]; omega
          · have ho : ((q : Int) % 2 == 1) = false := by simp; omega
            go_wp2
            go_round
            case rel => exact ⟨j + 1, by omega, by go_num, by rw [HT.out, bit1, if_neg hodd]; first | rfl | simp⟩
            case measure => simp [intOf]; omega
        · obtain rfl : j = 8 := by omega
          go_wp2
          go_round
          case rel => exact ⟨k + 1, by omega, by go_num, by rw [HS.out]⟩
          case measure => simp [intOf]; omega
    · obtain rfl : k = n := by omega
      rw [List.take_of_length_le (by rw [HA.out.1]; exact Nat.le_refl _)]
      have HY : Hid (raw x0 bs < 4294967296) := raw_lt _ HM.out
      generalize raw x0 bs = y at *
      have hones := xor_ones HY.out
      go_wp2
      go_ret
      exact ⟨by rw [HE.out]; rfl, rfl⟩

theorem refSum (A : Option Addr) (n c B : Nat) (bs : List UInt8) (w : World) (ha : Rd w B A n bs) (hn : n ≤ 140737488355328) :
    Calls Try.prog 31 #[.slice A n c] w fun e w' => e = .returned (.int .u32 (crcSum bs : Int)) ∧ w = w' := by
  have HA := Lib.hid ha
  clear ha
  go_enter Try.func31, Try.ntmps31
  go_wp2_with fail
  refine (refAdd A n c B 0 bs _ HA.out hn (by decide)).mono ?_
  rintro e w' ⟨rfl, rfl⟩
  go_wp2
  go_ret
  exact ⟨rfl, rfl⟩

theorem refCrcPut (A : Option Addr) (n c : Nat) (bs : List UInt8) (w : World) (ha : Rd w w.heap.size A n bs) (hn : n ≤ 140737488350000) :
    Calls Try.prog 24 #[.slice A n c] w fun e w' => RetB 5 w (bs ++ enc (crcSum bs) 4) e w' := by
  have HA := Lib.hid ha
  clear ha
  have HL : Hid (crcSum bs < 4294967296) := crcSum_lt bs
  go_enter Try.func24, Try.ntmps24
  go_wp2_with fail
  refine (refSum A n c _ bs w HA.out (by omega)).mono ?_
  rintro e w' ⟨rfl, rfl⟩
  generalize hs : crcSum bs = s at *
  have HS := Lib.hid hs
  clear hs
  have hl : s < 18446744073709551616 := by have := HL.out; omega
  have hw : (s : Int) % 18446744073709551616 = (s : Int) := by omega
  go_wp2_with fail
  refine (refPut s 4 w hl (by decide)).mono ?_
  rintro e w1 ⟨A1, n1, c1, rfl, hown, hbel⟩
  have H1 := Lib.hid (HA.out.to hbel)
  have H2 := Lib.hid (Rd.of_own hown)
  obtain rfl : n1 = 4 := by rw [← H2.out.1, enc_len]
  clear hown hw hl
  go_wp2_with fail
  refine (refCat A A1 n 4 c c1 bs _ w1 H1.out H2.out (by omega)).mono ?_
  rintro e w2 ⟨A2, n2, c2, rfl, hown2, hbel2⟩
  have hsz := hbel.size
  go_wp2
  go_ret
  rw [HS.out]
  exact RetB.mk (own_mono hown2 hsz) (hbel.trans (hbel2.mono hsz))

/-- What Check tells. -/
def chkOk (bs : List UInt8) : Bool := decide (4 ≤ bs.length ∧ bs.take (bs.length - 4) ++ enc (crcSum (bs.take (bs.length - 4))) 4 = bs)
def chkOf (bs : List UInt8) : List UInt8 := if chkOk bs then bs.take (bs.length - 4) else []
def RetChk (T : TypeId) (w : World) (bs : List UInt8) (ok : Bool) (e : Ending) (w' : World) : Prop :=
  ∃ A n c, e = .returned (.tuple #[.slice A n c, .bool ok]) ∧ w'.ownsRow w.heap.size T 1 (.slice A n c) n (bs.map bval) ∧ Below w.heap.size w w'
theorem RetChk.mk {T : TypeId} {w w' : World} {bs : List UInt8} {v : Value} {n : Nat} {ok : Bool} (h : w'.ownsRow w.heap.size T 1 v n (bs.map bval)) (hb : Below w.heap.size w w') : RetChk T w bs ok (.returned (.tuple #[v, .bool ok])) w' := by
  obtain ⟨A, c, rfl⟩ := own_slice h
  exact ⟨A, n, c, rfl, h, hb⟩

end Go.Proofs.Ytabonnhmmbigmaa
