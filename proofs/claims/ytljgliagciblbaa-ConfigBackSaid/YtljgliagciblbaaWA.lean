/- Several texts in one (a claim has 60 files at most): Num, RefB, ShaM, ShaRefA, ShaRefN, ShaRefE, ShaRefT, ShaRefS, ShaRefC, HmacKit, Keep, HmacM, ShaLawA, HmacRef, Fld, FldW. -/
import Derived.Test.YtljgliagciblbaaBase
import Derived.Laws.BitsAllLaws
import Derived.Test.YtljgliagciblbaaRefA
import Derived.Test.YtljgliagciblbaaRow
import Derived.Test.YtljgliagciblbaaSlice
import Derived.Deep.RegionHeld3
import Derived.Deep.LoopGhost
import Derived.Deep.RegionLaw
import Derived.Deep.MidRow
import Derived.Test.YtljgliagciblbaaKitO
import Derived.Test.YtljgliagciblbaaOpen
import Derived.Deep.Slices
import Derived.Deep.Fields
import Derived.ChangeSame
import Derived.SizedLaws
namespace Go.Proofs.Ytljgliagciblbaa

/- Plain mathematics of big-endian numbers: num (the number of a row), enc (the n-byte row of a number), and how the order of rows of one length is that of their numbers. No program. -/
section
def num : List UInt8 → Nat
  | [] => 0
  | b :: bs => b.toNat * 256 ^ bs.length + num bs
/-- The row of n bytes of x: its last n bytes, the highest first. -/
def enc (x : Nat) : Nat → List UInt8
  | 0 => []
  | k + 1 => UInt8.ofNat (x / 256 ^ k) :: enc x k

theorem enc_len (x n : Nat) : (enc x n).length = n := by
  induction n with
  | zero => rfl
  | succ n ih => simp [enc, ih]
theorem num_lt : ∀ bs : List UInt8, num bs < 256 ^ bs.length
  | [] => by simp [num]
  | b :: bs => by
    have h := num_lt bs
    have hb := b.toNat_lt
    simp only [num, List.length_cons, Nat.pow_succ]
    have : b.toNat * 256 ^ bs.length + 256 ^ bs.length ≤ 256 * 256 ^ bs.length := by
      rw [← Nat.succ_mul]; exact Nat.mul_le_mul_right _ (by omega)
    omega
theorem num_snoc : ∀ (bs : List UInt8) (b : UInt8), num (bs ++ [b]) = num bs * 256 + b.toNat
  | [], b => by simp [num]
  | a :: bs, b => by
    simp only [List.cons_append, num, num_snoc bs b, List.length_append, List.length_cons, List.length_nil, Nat.pow_succ, Nat.add_mul, Nat.zero_add, Nat.mul_assoc]
    omega
theorem num_enc (x : Nat) : ∀ n, num (enc x n) = x % 256 ^ n
  | 0 => by simp [enc, num, Nat.mod_one]
  | n + 1 => by
    have h := Nat.mod_mul (x := x) (a := 256 ^ n) (b := 256)
    have e : (UInt8.ofNat (x / 256 ^ n)).toNat = x / 256 ^ n % 256 := UInt8.toNat_ofNat'
    simp only [enc, num, enc_len, num_enc x n, e]
    rw [Nat.pow_succ, h, Nat.mul_comm (256 ^ n)]
    omega
theorem num_inj : ∀ {a b : List UInt8}, a.length = b.length → num a = num b → a = b
  | [], [], _, _ => rfl
  | [], _ :: _, h, _ => by simp at h
  | _ :: _, [], h, _ => by simp at h
  | a :: xs, b :: ys, h, hn => by
    have hl : xs.length = ys.length := by simpa using h
    simp only [num, hl] at hn
    have h1 := num_lt xs
    have h2 := num_lt ys
    rw [hl] at h1
    have hab : a.toNat = b.toNat := by
      rcases Nat.lt_trichotomy a.toNat b.toNat with g | g | g
      · have := Nat.mul_le_mul_right (256 ^ ys.length) (show a.toNat + 1 ≤ b.toNat from g)
        rw [Nat.add_mul] at this; omega
      · exact g
      · have := Nat.mul_le_mul_right (256 ^ ys.length) (show b.toNat + 1 ≤ a.toNat from g)
        rw [Nat.add_mul] at this; omega
    rw [hab] at hn
    rw [UInt8.toNat_inj.1 hab, num_inj hl (by omega)]
theorem enc_num (bs : List UInt8) : enc (num bs) bs.length = bs :=
  num_inj (enc_len _ _) (by rw [num_enc, Nat.mod_eq_of_lt (num_lt bs)])
theorem ord_num : ∀ {a b : List UInt8}, a.length = b.length → (ord a b < 0 ↔ num a < num b)
  | [], [], _ => by simp [ord, num]
  | [], _ :: _, h => by simp at h
  | _ :: _, [], h => by simp at h
  | a :: xs, b :: ys, h => by
    have hl : xs.length = ys.length := by simpa using h
    have h1 := num_lt xs
    have h2 := num_lt ys
    rw [hl] at h1
    simp only [num, hl, ord, UInt8.lt_iff_toNat_lt]
    rcases Nat.lt_trichotomy a.toNat b.toNat with g | g | g
    · have := Nat.mul_le_mul_right (256 ^ ys.length) (show a.toNat + 1 ≤ b.toNat from g)
      rw [Nat.add_mul] at this
      simp [g]; omega
    · simp only [g, Nat.lt_irrefl, if_false, ord_num hl]; omega
    · have := Nat.mul_le_mul_right (256 ^ ys.length) (show b.toNat + 1 ≤ a.toNat from g)
      rw [Nat.add_mul] at this
      have g' : ¬ a.toNat < b.toNat := by omega
      simp [g, g']; omega
theorem ord_range : ∀ a b : List UInt8, ord a b = -1 ∨ ord a b = 0 ∨ ord a b = 1
  | [], [] => by simp [ord]
  | [], _ :: _ => by simp [ord]
  | _ :: _, [] => by simp [ord]
  | a :: xs, b :: ys => by
    unfold ord
    have := ord_range xs ys
    split
    · simp
    · split
      · simp
      · exact this
theorem ord_swap : ∀ a b : List UInt8, ord b a = - ord a b
  | [], [] => by simp [ord]
  | [], _ :: _ => by simp [ord]
  | _ :: _, [] => by simp [ord]
  | a :: xs, b :: ys => by
    unfold ord
    have := ord_swap xs ys
    by_cases h1 : a < b
    · have h2 : ¬ b < a := UInt8.lt_asymm h1
      simp [h1, h2]
    · by_cases h2 : b < a
      · simp [h1, h2]
      · simp [h1, h2, this]
theorem ord_trans : ∀ a b c : List UInt8, ord a b < 0 → ord b c < 0 → ord a c < 0
  | _, [], [], _, h => by simp [ord] at h
  | _ :: _, [], _ :: _, h, _ => by simp [ord] at h
  | [], [], _ :: _, h, _ => by simp [ord] at h
  | _, _ :: _, [], _, h => by simp [ord] at h
  | [], _ :: _, _ :: _, _, _ => by simp [ord]
  | a :: xs, b :: ys, c :: zs, h1, h2 => by
    have ih := ord_trans xs ys zs
    simp only [ord, UInt8.lt_iff_toNat_lt] at h1 h2 ⊢
    by_cases p1 : a.toNat < b.toNat
    · by_cases p2 : b.toNat < c.toNat
      · rw [if_pos (by omega)]; decide
      · rw [if_neg p2] at h2
        by_cases p3 : c.toNat < b.toNat
        · rw [if_pos p3] at h2; simp at h2
        · rw [if_pos (by omega)]; decide
    · rw [if_neg p1] at h1
      by_cases p3 : b.toNat < a.toNat
      · rw [if_pos p3] at h1; simp at h1
      · rw [if_neg p3] at h1
        by_cases p2 : b.toNat < c.toNat
        · rw [if_pos (by omega)]; decide
        · rw [if_neg p2] at h2
          by_cases p4 : c.toNat < b.toNat
          · rw [if_pos p4] at h2; simp at h2
          · rw [if_neg p4] at h2
            rw [if_neg (by omega), if_neg (by omega)]
            exact ih h1 h2
/-- From the other side: the number of the last bytes. -/
theorem num_drop {bs : List UInt8} {k : Nat} (h : k < bs.length) : num (bs.drop k) = nth bs k * 256 ^ (bs.length - k - 1) + num (bs.drop (k + 1)) := by
  rw [List.drop_eq_getElem_cons h]
  simp only [num, nth_of_lt h, List.length_drop]
  rfl
theorem num_take {bs : List UInt8} {k : Nat} (h : k < bs.length) : num (bs.take (k + 1)) = num (bs.take k) * 256 + nth bs k := by
  rw [take_snoc_b h, num_snoc, nth_of_lt h]

theorem wrap_step (x u b : Nat) (hb : b < 256) :
    IntKind.u64.wrap ((x : Int) + IntKind.u64.wrap ((u : Int) * IntKind.u64.wrap (b : Int))) = (((x + u * b) % 18446744073709551616 : Nat) : Int) := by
  simp only [IntKind.wrap_u64]
  rw [show ((b : Int) % 18446744073709551616) = b from by omega, ← Int.natCast_mul]
  omega
theorem wrap_unit (u : Nat) : IntKind.u64.wrap ((u : Int) * 256) = ((u * 256 % 18446744073709551616 : Nat) : Int) := by
  simp only [IntKind.wrap_u64]
  omega
theorem pow_le8 {n : Nat} (h : n ≤ 8) : 256 ^ n ≤ 18446744073709551616 := Nat.le_trans (Nat.pow_le_pow_right (by decide) h) (by decide)
theorem num_lt8 {bs : List UInt8} (h : bs.length ≤ 8) : num bs < 18446744073709551616 := Nat.lt_of_lt_of_le (num_lt bs) (pow_le8 h)
theorem num_step {bs : List UInt8} {n i j : Nat} (hl : bs.length = n) (h8 : n ≤ 8) (hi : i = n - 1 - j) (hj : j < n) :
    (num (bs.drop (n - j)) + 256 ^ j % 18446744073709551616 * nth bs i) % 18446744073709551616 = num (bs.drop (n - (j + 1))) := by
  have e : n - (j + 1) = i := by omega
  have e2 : n - j = i + 1 := by omega
  have e3 : bs.length - i - 1 = j := by omega
  have h := num_drop (bs := bs) (k := i) (by omega)
  rw [e3] at h
  have hlt : num (bs.drop i) < 18446744073709551616 := num_lt8 (by simp; omega)
  rw [e, e2, h, Nat.add_mod, Nat.mod_mul_mod, ← Nat.add_mod, Nat.mul_comm (256 ^ j), Nat.add_comm]
  rw [h] at hlt
  exact Nat.mod_eq_of_lt hlt
theorem or_step (x b : Nat) (hx : x < 72057594037927936) (hb : b < 256) :
    bits BinOp.or IntKind.u64 (IntKind.u64.wrap ((x : Int) * 256)) (IntKind.u64.wrap (b : Int)) = ((x * 256 + b : Nat) : Int) := by
  rw [show IntKind.u64.wrap ((x : Int) * 256) = ((x * 256 : Nat) : Int) from by simp only [IntKind.wrap_u64]; omega,
    show IntKind.u64.wrap (b : Int) = (b : Int) from by simp only [IntKind.wrap_u64]; omega,
    u64_or_nat _ _ (by omega) (by omega), nat_join 8 _ _ (by omega) (by omega)]
theorem num_take_lt {bs : List UInt8} {n k : Nat} (hl : bs.length = n) (h8 : n ≤ 8) (hk : k < n) : num (bs.take k) < 72057594037927936 := by
  refine Nat.lt_of_lt_of_le (num_lt _) (Nat.le_trans (Nat.pow_le_pow_right (by decide) (show (bs.take k).length ≤ 7 by simp; omega)) (by decide))
theorem row_step {n k : Nat} (x : Nat) (hk : k < n) :
    (List.replicate (n - k) (0 : UInt8) ++ enc x k).set (n - 1 - k) (UInt8.ofNat (x / 256 ^ k)) = List.replicate (n - (k + 1)) 0 ++ enc x (k + 1) := by
  have e : n - k = (n - (k + 1)) + 1 := by omega
  have e2 : n - 1 - k = n - (k + 1) := by omega
  rw [e, e2, List.replicate_succ', List.append_assoc, List.set_append_right _ _ (by simp)]
  simp [enc]
theorem shr_byte (x k : Nat) : ((x : Int) / 2 ^ (8 * k) % 256) = ((UInt8.ofNat (x / 256 ^ k)).toNat : Int) := by
  rw [← u8_mod, Int.pow_mul, show ((2 : Int) ^ 8) = ((256 : Nat) : Int) from by decide, ← Int.natCast_pow, ← Int.natCast_ediv]
theorem enc_mod32 (x : Nat) : enc (x % 4294967296) 4 = enc x 4 :=
  num_inj (by rw [enc_len, enc_len]) (by rw [num_enc, num_enc]; omega)
end

/- Contracts of the document's own number functions (citadelref01): Put, Number, Load. -/
section
open Go.RowKit
set_option linter.unusedVariables false

/-- Put's first loop: the digits from the last one on. -/
def PutRel (B n : Nat) (w : World) (x : Nat) (y v i : Value) (wr : World) : Prop :=
  ∃ k : Nat, k ≤ n ∧ i = .int .i64 k ∧ y = .int .u64 ((x / 256 ^ k : Nat) : Int) ∧ wr.ownsRow B 5 1 v k ((enc x k).reverse.map bval) ∧ Below B w wr

/-- Put's second loop: the digits turned round. -/
def PutRel2 (B n : Nat) (w : World) (bs : List UInt8) (v i : Value) (wr : World) : Prop :=
  ∃ j : Nat, j ≤ n ∧ i = .int .i64 ((n : Int) - 1 - j) ∧ wr.ownsRow B 5 1 v j ((bs.take j).map bval) ∧ Below B w wr

set_option maxHeartbeats 400000 in
theorem refPut (x n : Nat) (w : World) (hx : x < 18446744073709551616) (hn : n ≤ 8) :
    Calls Try.prog 79 #[.int .u64 (x : Int), .int .i64 (n : Int)] w fun e w' => RetB 5 w (enc x n) e w' := by
  go_enter Try.func79, Try.ntmps79
  go_wp2
  go_loopw [0, 5, 6] (fun y v i wr => PutRel w.heap.size n w x y v i wr) (fun _ _ i _ => n - (intOf i).toNat)
  case atStart => exact ⟨0, Nat.zero_le _, rfl, by simp, by simpa [enc] using World.ownsRow_nil w w.heap.size 5 1, Below.refl _ _⟩
  case round =>
    obtain ⟨k, hk, rfl, rfl, hown, hbel⟩ := hrel
    have hsz := hbel.size
    by_cases hlt : k < n
    · have hq : x / 256 ^ k ≤ x := Nat.div_le_self _ _
      generalize hy : x / 256 ^ k = y at *
      have HY := Lib.hid hy
      clear hy
      go_wp2_with (at_builtin; refine wpList_push isU8 rfl _ _ rfl rfl rfl hown hbel hsz (by omega) (UInt8.ofNat y) (u8_mod y) ?_; intro v1 w1 hown1 hbel1 hsz1)
      go_roundw
      case rel => exact ⟨k + 1, by omega, by go_num, by rw [Nat.pow_succ, ← Nat.div_div_eq_div_mul, HY.out]; go_num, by simp only [enc, List.reverse_cons, HY.out]; exact hown1, hbel1⟩
      case measure => simp [intOf]; omega
    · obtain rfl : k = n := by omega
      generalize hy : x / 256 ^ k = y at *
      clear hy
      obtain ⟨A, c, rfl⟩ := own_slice hown
      have HR := Lib.hid (Rd.of_own hown)
      clear hown
      obtain ⟨wo, rfl⟩ : ∃ wo : World, wo = wr := ⟨_, rfl⟩
      go_wp2
      go_loopw [7, 8] (fun v i wr => PutRel2 wo.heap.size k wo (enc x k) v i wr) (fun _ i _ => (intOf i + 1).toNat)
      case atStart => exact ⟨0, Nat.zero_le _, by go_num, by simpa using World.ownsRow_nil wo wo.heap.size 5 1, Below.refl _ _⟩
      case round =>
        obtain ⟨j, hj, rfl, hown, hbel2⟩ := hrel
        have hsz2 := hbel2.size
        by_cases hlt : j < k
        · obtain ⟨i, hi⟩ : ∃ i, i = k - 1 - j := ⟨_, rfl⟩
          obtain ⟨b, o, rfl, hbo, hc⟩ := HR.out.2 (by omega)
          have hcell : wr.cell? ⟨b, o + i, none⟩ = some (.int .u8 (nth (enc x k).reverse i : Int)) := (hbel2.cell hbo).trans (hc i (by omega))
          clear hc
          have HI := Lib.hid hi
          have ei : ((k : Int) - 1 - j) = (i : Int) := by omega
          clear hi
          rw [ei]
          have hik : i < k := by have := HI.out; omega
          clear ei
          go_wp2_with (at_builtin; refine wpList_push isU8 rfl _ _ rfl rfl rfl hown hbel2 hsz2 (by omega) ((enc x k).reverse.getD i 0) rfl ?_; intro v1 w1 hown1 hbel1 hsz1)
          go_roundw
          case rel => exact ⟨j + 1, by omega, by rw [show (k : Int) - 1 - ((j + 1 : Nat) : Int) = (i : Int) - 1 from by have := HI.out; omega], by
            rw [take_snoc_getD (by rw [enc_len]; exact hlt), ← rev_getD (i := i) (by rw [enc_len]; have := HI.out; omega)]; exact hown1, hbel1⟩
          case measure => simp [intOf]
        · obtain rfl : j = k := by omega
          rw [show (j : Int) - 1 - j = -1 from by omega]
          go_wp2
          go_ret
          refine RetB.mk (own_mono (by rw [List.take_of_length_le (by rw [enc_len]; exact Nat.le_refl _)] at hown; exact hown) hsz) (hbel.trans (hbel2.mono hsz))

/-- Number's loop: the last j bytes' number, and 256 to the j-th. -/
def RNumRel (n : Nat) (bs : List UInt8) (x u i : Value) : Prop :=
  ∃ j : Nat, j ≤ n ∧ i = .int .i64 ((n : Int) - 1 - j) ∧ x = .int .u64 ((num (bs.drop (n - j)) : Nat) : Int) ∧ u = .int .u64 ((256 ^ j % 18446744073709551616 : Nat) : Int)

/-- What Number, Load tell. -/
def numOf (bs : List UInt8) : Nat := if bs.length = 0 ∨ 8 < bs.length then 0 else num bs
def numOk (bs : List UInt8) : Bool := decide (0 < bs.length ∧ bs.length ≤ 8)

set_option maxHeartbeats 400000 in
theorem refNumber (A : Option Addr) (n c B : Nat) (bs : List UInt8) (w : World) (ha : Rd w B A n bs) (hn : n ≤ 140737488355328) :
    Calls Try.prog 103 #[.slice A n c] w fun e w' => e = .returned (.tuple #[.int .u64 (numOf bs : Int), .bool (numOk bs)]) ∧ w = w' := by
  by_cases h0 : n = 0
  · subst h0
    go_enter Try.func103, Try.ntmps103
    go_wp2
    go_ret2
    refine ⟨?_, rfl⟩
    have hl := ha.1
    rw [show numOf bs = 0 from by unfold numOf; rw [if_pos (by omega)], show numOk bs = false from by simp [numOk]; omega]
    rfl
  · have h0' : ((n : Int) == 0) = false := by simp; omega
    by_cases h8 : 8 < n
    · go_enter Try.func103, Try.ntmps103
      go_wp2
      go_ret2
      refine ⟨?_, rfl⟩
      have hl := ha.1
      rw [show numOf bs = 0 from by unfold numOf; rw [if_pos (by omega)], show numOk bs = false from by simp [numOk]; omega]
      rfl
    · have HA := Lib.hid ha
      clear ha
      have H0 := Lib.hid h0'
      clear h0'
      go_enter Try.func103, Try.ntmps103
      have h0' := H0.out
      go_wp2
      clear h0'
      go_loop [4, 5, 6] (fun x u i => RNumRel n bs x u i) (fun _ _ i => (intOf i + 1).toNat)
      case atStart => exact ⟨0, Nat.zero_le _, by go_num, by rw [Nat.sub_zero, ← HA.out.1, List.drop_length]; rfl, rfl⟩
      case round =>
        obtain ⟨j, hj, rfl, rfl, rfl⟩ := hrel
        by_cases hlt : j < n
        · obtain ⟨i, hi⟩ : ∃ i, i = n - 1 - j := ⟨_, rfl⟩
          obtain ⟨b, o, rfl, hbo, hc⟩ := HA.out.2 (by omega)
          have hcell : w.cell? ⟨b, o + i, none⟩ = some (.int .u8 (nth bs i : Int)) := hc i (by omega)
          clear hc
          have HI := Lib.hid hi
          have ei : ((n : Int) - 1 - j) = (i : Int) := by omega
          clear hi
          rw [ei]
          have hik : i < n := by have := HI.out; omega
          clear ei
          generalize hx : num (bs.drop (n - j)) = x
          generalize hu : 256 ^ j % 18446744073709551616 = u
          have HX := Lib.hid hx
          have HU := Lib.hid hu
          clear hx hu
          go_wp2
          go_round
          case rel =>
            rw [wrap_step _ _ _ (nth_lt _ _), wrap_unit]
            refine ⟨j + 1, by omega, by rw [show (n : Int) - 1 - ((j + 1 : Nat) : Int) = (i : Int) - 1 from by have := HI.out; omega], ?_, ?_⟩
            · rw [← HX.out, ← HU.out, num_step HA.out.1 (by omega) HI.out hlt]
            · rw [← HU.out, Nat.mod_mul_mod, Nat.pow_succ]
          case measure => simp [intOf]
        · obtain rfl : j = n := by omega
          rw [show (j : Int) - 1 - j = -1 from by omega]
          go_wp2
          go_ret2
          refine ⟨?_, rfl⟩
          have hl := HA.out.1
          rw [show numOf bs = num bs from by unfold numOf; rw [if_neg (by omega)], show numOk bs = true from by simp [numOk]; omega]
          rfl

/-- Load: the number of k bytes (k 4 or 8) at a place. -/
def loadOf (bs : List UInt8) (at_ : Int) (k : Nat) : Nat := if 0 ≤ at_ ∧ at_ + k ≤ bs.length then num ((bs.drop at_.toNat).take k) else 0
def loadOk (bs : List UInt8) (at_ : Int) (k : Nat) : Bool := decide (0 ≤ at_ ∧ at_ + k ≤ bs.length)

theorem loadOf_no {bs : List UInt8} {at_ : Int} {k : Nat} (h : ¬ (0 ≤ at_ ∧ at_ + k ≤ bs.length)) : loadOf bs at_ k = 0 ∧ loadOk bs at_ k = false := by
  exact ⟨if_neg h, decide_eq_false h⟩
theorem loadOf_yes {bs : List UInt8} {p k : Nat} (h : p + k ≤ bs.length) (hk : 0 < k) (h8 : k ≤ 8) :
    loadOf bs p k = numOf ((bs.take (p + k)).drop p) ∧ loadOk bs p k = true ∧ numOk ((bs.take (p + k)).drop p) = true := by
  have h' : (0 : Int) ≤ (p : Int) ∧ (p : Int) + k ≤ bs.length := by omega
  have hl : ((bs.take (p + k)).drop p).length = k := by simp; omega
  refine ⟨?_, ?_, ?_⟩
  · simp only [loadOf, if_pos h', numOf, hl]
    rw [if_neg (by omega), Int.toNat_natCast, List.drop_take]
    congr 2; omega
  · simp only [loadOk]; exact decide_eq_true h'
  · simp only [numOk, hl]; exact decide_eq_true ⟨hk, h8⟩

end

/- Plain mathematics of SHA-256: turning, a block's numbers, rounds, eating, tails, sums, chains, digits, as the chapter says them. No program. -/
section
def rotr (x n : Nat) : Nat := (x / 2 ^ n + x * 2 ^ (32 - n)) % 4294967296
theorem rotr_lt (x n : Nat) : rotr x n < 4294967296 := Nat.mod_lt _ (by decide)
def sp (x : Nat) : Nat := rotr x 7 ^^^ rotr x 18 ^^^ x / 8
def sq (x : Nat) : Nat := rotr x 17 ^^^ rotr x 19 ^^^ x / 1024
def sE (x : Nat) : Nat := rotr x 6 ^^^ rotr x 11 ^^^ rotr x 25
def sA (x : Nat) : Nat := rotr x 2 ^^^ rotr x 13 ^^^ rotr x 22
def chz (e f g : Nat) : Nat := (e &&& f) ||| ((4294967295 - e) &&& g)
def maj (a b c : Nat) : Nat := (a &&& b) ^^^ (a &&& c) ^^^ (b &&& c)
def shaK : List Nat := [0x428a2f98, 0x71374491, 0xb5c0fbcf, 0xe9b5dba5, 0x3956c25b, 0x59f111f1, 0x923f82a4, 0xab1c5ed5, 0xd807aa98, 0x12835b01, 0x243185be, 0x550c7dc3, 0x72be5d74, 0x80deb1fe, 0x9bdc06a7, 0xc19bf174,
  0xe49b69c1, 0xefbe4786, 0x0fc19dc6, 0x240ca1cc, 0x2de92c6f, 0x4a7484aa, 0x5cb0a9dc, 0x76f988da, 0x983e5152, 0xa831c66d, 0xb00327c8, 0xbf597fc7, 0xc6e00bf3, 0xd5a79147, 0x06ca6351, 0x14292967,
  0x27b70a85, 0x2e1b2138, 0x4d2c6dfc, 0x53380d13, 0x650a7354, 0x766a0abb, 0x81c2c92e, 0x92722c85, 0xa2bfe8a1, 0xa81a664b, 0xc24b8b70, 0xc76c51a3, 0xd192e819, 0xd6990624, 0xf40e3585, 0x106aa070,
  0x19a4c116, 0x1e376c08, 0x2748774c, 0x34b0bcb5, 0x391c0cb3, 0x4ed8aa4a, 0x5b9cca4f, 0x682e6ff3, 0x748f82ee, 0x78a5636f, 0x84c87814, 0x8cc70208, 0x90befffa, 0xa4506ceb, 0xbef9a3f7, 0xc67178f2]
def shaF : List Nat := [0x6a09e667, 0xbb67ae85, 0x3c6ef372, 0xa54ff53a, 0x510e527f, 0x9b05688c, 0x1f83d9ab, 0x5be0cd19]

/-- The number that comes behind the numbers ws of a block. -/
def nextW (blk : List UInt8) (ws : List Nat) : Nat :=
  if ws.length < 16 then num ((blk.drop (4 * ws.length)).take 4)
  else (nx ws (ws.length - 16) + nx ws (ws.length - 7) + sp (nx ws (ws.length - 15)) + sq (nx ws (ws.length - 2))) % 4294967296
def numsW (blk : List UInt8) : Nat → List Nat
  | 0 => []
  | i + 1 => numsW blk i ++ [nextW blk (numsW blk i)]
theorem numsW_len (blk : List UInt8) : ∀ i, (numsW blk i).length = i
  | 0 => rfl
  | i + 1 => by rw [numsW, List.length_append, numsW_len blk i]; rfl
theorem numsW_lt (blk : List UInt8) : ∀ i j, nx (numsW blk i) j < 4294967296
  | 0, j => by simp [numsW, nx]
  | i + 1, j => by
    rw [numsW]
    rcases Nat.lt_trichotomy j (numsW blk i).length with h | h | h
    · rw [nx_left h]; exact numsW_lt blk i j
    · subst h
      rw [nx_last]
      unfold nextW
      split
      · refine Nat.lt_of_lt_of_le (num_lt _) ?_
        refine Nat.le_trans (Nat.pow_le_pow_right (by decide) (show _ ≤ 4 by simp; omega)) (by decide)
      · exact Nat.mod_lt _ (by decide)
    · have : (numsW blk i ++ [nextW blk (numsW blk i)]).length ≤ j := by simp; omega
      simp [nx, List.getD, List.getElem?_eq_none this]

structure HReg where
  a : Nat
  b : Nat
  c : Nat
  d : Nat
  e : Nat
  f : Nat
  g : Nat
  h : Nat
structure HReg.Ok (r : HReg) : Prop where
  a : r.a < 4294967296
  b : r.b < 4294967296
  c : r.c < 4294967296
  d : r.d < 4294967296
  e : r.e < 4294967296
  f : r.f < 4294967296
  g : r.g < 4294967296
  h : r.h < 4294967296
def rT (r : HReg) (k w : Nat) : Nat := (r.h + sE r.e + chz r.e r.f r.g + k + w) % 4294967296
def rU (r : HReg) : Nat := (sA r.a + maj r.a r.b r.c) % 4294967296
def rnd (k w : Nat) (r : HReg) : HReg :=
  { a := (rT r k w + rU r) % 4294967296, b := r.a, c := r.b, d := r.c, e := (r.d + rT r k w) % 4294967296, f := r.e, g := r.f, h := r.g }
theorem rnd_ok {k w : Nat} {r : HReg} (h : r.Ok) : (rnd k w r).Ok :=
  ⟨Nat.mod_lt _ (by decide), h.a, h.b, h.c, Nat.mod_lt _ (by decide), h.e, h.f, h.g⟩
def regs (s : List Nat) (ws : List Nat) : Nat → HReg
  | 0 => ⟨nx s 0, nx s 1, nx s 2, nx s 3, nx s 4, nx s 5, nx s 6, nx s 7⟩
  | i + 1 => rnd (nx shaK i) (nx ws i) (regs s ws i)
/-- Eight numbers of 32 bits. -/
def Is8 (s : List Nat) : Prop := s.length = 8 ∧ ∀ j, nx s j < 4294967296
theorem regs_ok {s ws : List Nat} (h : Is8 s) : ∀ i, (regs s ws i).Ok
  | 0 => ⟨h.2 0, h.2 1, h.2 2, h.2 3, h.2 4, h.2 5, h.2 6, h.2 7⟩
  | i + 1 => rnd_ok (regs_ok h i)
def sumL (s : List Nat) (r : HReg) : List Nat :=
  [(nx s 0 + r.a) % 4294967296, (nx s 1 + r.b) % 4294967296, (nx s 2 + r.c) % 4294967296, (nx s 3 + r.d) % 4294967296, (nx s 4 + r.e) % 4294967296, (nx s 5 + r.f) % 4294967296, (nx s 6 + r.g) % 4294967296, (nx s 7 + r.h) % 4294967296]
def eatL (s : List Nat) (blk : List UInt8) : List Nat := sumL s (regs s (numsW blk 64) 64)
theorem is8_of (a b c d e f g h : Nat) (ha : a < 4294967296) (hb : b < 4294967296) (hc : c < 4294967296) (hd : d < 4294967296) (he : e < 4294967296) (hf : f < 4294967296) (hg : g < 4294967296) (hh : h < 4294967296) : Is8 [a, b, c, d, e, f, g, h] := by
  refine ⟨rfl, fun j => ?_⟩
  unfold nx
  match j with
  | 0 => exact ha
  | 1 => exact hb
  | 2 => exact hc
  | 3 => exact hd
  | 4 => exact he
  | 5 => exact hf
  | 6 => exact hg
  | 7 => exact hh
  | j + 8 => simp [List.getD]
theorem sumL_8 (s : List Nat) (r : HReg) : Is8 (sumL s r) :=
  is8_of _ _ _ _ _ _ _ _ (Nat.mod_lt _ (by decide)) (Nat.mod_lt _ (by decide)) (Nat.mod_lt _ (by decide)) (Nat.mod_lt _ (by decide)) (Nat.mod_lt _ (by decide)) (Nat.mod_lt _ (by decide)) (Nat.mod_lt _ (by decide)) (Nat.mod_lt _ (by decide))
theorem eatL_8 (s : List Nat) (blk : List UInt8) : Is8 (eatL s blk) := sumL_8 _ _
theorem shaF_8 : Is8 shaF := is8_of _ _ _ _ _ _ _ _ (by decide) (by decide) (by decide) (by decide) (by decide) (by decide) (by decide) (by decide)

/-- How many noughts the padding of n bytes has. -/
def zerosOf (n : Nat) : Nat := (64 - (n + 9) % 64) % 64
def tailL (n : Nat) : List UInt8 := 128 :: List.replicate (zerosOf n) 0 ++ enc (8 * n) 8
theorem tailL_len (n : Nat) : (tailL n).length = zerosOf n + 9 := by simp [tailL, enc_len]
theorem tail_whole (n : Nat) : (n + (tailL n).length) % 64 = 0 := by rw [tailL_len]; unfold zerosOf; omega
/-- The blocks of a row, eaten one behind the other. -/
def eatAll (s : List Nat) (bs : List UInt8) : Nat → List Nat
  | 0 => s
  | i + 1 => eatL (eatAll s bs i) ((bs.take (64 * i + 64)).drop (64 * i))
theorem eatAll_8 {s : List Nat} (h : Is8 s) (bs : List UInt8) : ∀ i, Is8 (eatAll s bs i)
  | 0 => h
  | _ + 1 => eatL_8 _ _
def printL (s : List Nat) : List UInt8 := (s.map fun x => enc x 4).flatten
def sumAll (bs : List UInt8) : List Nat := eatAll shaF (bs ++ tailL bs.length) ((bs.length + (tailL bs.length).length) / 64)
def shaL (bs : List UInt8) : List UInt8 := printL (sumAll bs)
theorem printL_len {s : List Nat} (h : s.length = 8) : (printL s).length = 32 := by
  match s, h with
  | [a, b, c, d, e, f, g, i], _ => simp [printL, enc_len]
theorem shaL_len (bs : List UInt8) : (shaL bs).length = 32 := printL_len (eatAll_8 shaF_8 _ _).1
def chainL : List (List UInt8) → List UInt8
  | [] => shaL []
  | x :: l => l.foldl (fun t b => shaL (t ++ b)) (shaL x)

theorem rot_join {x n : Nat} (h : n < 32) (hn : 0 < n) (hx : x < 4294967296) : (x / 2 ^ n) ||| (x * 2 ^ (32 - n) % 4294967296) = rotr x n := by
  have hp : 2 ^ n * 2 ^ (32 - n) = 4294967296 := by rw [← Nat.pow_add, show n + (32 - n) = 32 from by omega]
  have h1 : x / 2 ^ n < 2 ^ (32 - n) := by
    rw [Nat.div_lt_iff_lt_mul (Nat.pow_pos (by decide)), Nat.mul_comm, hp]; exact hx
  have h2 : x * 2 ^ (32 - n) % 4294967296 = (x % 2 ^ n) * 2 ^ (32 - n) := by
    rw [← hp, Nat.mul_mod_mul_right]
  have h3 : x = 2 ^ n * (x / 2 ^ n) + x % 2 ^ n := (Nat.div_add_mod x (2 ^ n)).symm
  have h4 : x * 2 ^ (32 - n) = 4294967296 * (x / 2 ^ n) + (x % 2 ^ n) * 2 ^ (32 - n) := by
    conv => lhs; rw [h3, Nat.add_mul, Nat.mul_right_comm, hp]
  have h5 : (x % 2 ^ n) * 2 ^ (32 - n) + 2 ^ (32 - n) ≤ 4294967296 := by
    have : x % 2 ^ n + 1 ≤ 2 ^ n := Nat.mod_lt _ (Nat.pow_pos (by decide))
    have := Nat.mul_le_mul_right (2 ^ (32 - n)) this
    rw [Nat.add_mul, hp] at this
    omega
  have h6 : rotr x n = (x % 2 ^ n) * 2 ^ (32 - n) + x / 2 ^ n := by
    unfold rotr
    rw [h4]
    generalize (x % 2 ^ n) * 2 ^ (32 - n) = r at *
    generalize x / 2 ^ n = q at *
    generalize 2 ^ (32 - n) = p at *
    omega
  rw [h2, h6, Nat.or_comm, Nat.mul_comm, ← Nat.two_pow_add_eq_or_of_lt h1]
end

/- Contracts of the document's own SHA functions (citadelref03): turn, table, First, numbers. -/
section
open Go.RowKit
set_option linter.unusedVariables false

theorem pow_lt32 {n : Nat} (h : n < 32) : 2 ^ n < 4294967296 := Nat.lt_of_le_of_lt (Nat.pow_le_pow_right (by decide) (show n ≤ 31 by omega)) (by decide)
theorem pow_int {n : Nat} (h : n < 32) : (2 : Int) ^ n % 4294967296 = ((2 ^ n : Nat) : Int) := by
  have h1 := pow_lt32 h
  have h2 : (2 : Int) ^ n = ((2 ^ n : Nat) : Int) := by norm_cast
  rw [h2]
  generalize 2 ^ n = p at h1 ⊢
  omega
theorem turn_val {x n : Nat} (h1 : 0 < n) (h2 : n < 32) :
    (((x : Int) / (2 ^ n % 4294967296) % 4294967296 + (x : Int) * (2 ^ (32 - n) % 4294967296) % 4294967296) % 4294967296) = (rotr x n : Int) := by
  rw [pow_int h2, pow_int (n := 32 - n) (by omega), ← Int.natCast_ediv, ← Int.natCast_mul]
  unfold rotr
  omega
end

/- The contract of the document's own numbers (citadelref03): the 64 numbers of a block. -/
section
open Go.RowKit
set_option linter.unusedVariables false

def NumsRel (B : Nat) (w : World) (blk : List UInt8) (v i : Value) (wr : World) : Prop :=
  ∃ k : Nat, k ≤ 64 ∧ i = .int .i64 (k : Int) ∧ wr.ownsRow B 109 1 v k ((numsW blk k).map (kv .u32)) ∧ Below B w wr
theorem loadOf_num {blk : List UInt8} {k : Nat} (hl : blk.length = 64) (hk : k < 16) : loadOf blk (4 * (k : Int)) 4 = nextW blk (numsW blk k) := by
  unfold loadOf nextW
  rw [numsW_len, if_pos (by omega), if_pos hk, show (4 * (k : Int)).toNat = 4 * k from by omega]
theorem nextW_lt (blk : List UInt8) (k : Nat) : nextW blk (numsW blk k) < 4294967296 := by
  have h := numsW_lt blk (k + 1) k
  rw [numsW] at h
  have e := nx_last (numsW blk k) (nextW blk (numsW blk k))
  rw [numsW_len] at e
  rw [e] at h; exact h
theorem u32_xors {a b c : Nat} (ha : a < 4294967296) (hb : b < 4294967296) (hc : c < 4294967296) :
    bits .xor .u32 (bits .xor .u32 (a : Int) (b : Int)) (c : Int) = ((a ^^^ b ^^^ c : Nat) : Int) := by
  rw [u32_xor_nat _ _ ha hb, u32_xor_nat _ _ (Nat.xor_lt_two_pow (n := 32) ha hb) hc]

end

/- The contract of the document's own Eat (citadelref03): a state of eight numbers that eats a block. -/
section
open Go.RowKit
set_option linter.unusedVariables false

theorem not_u32 {e : Nat} (he : e < 4294967296) : bits BinOp.xor IntKind.u32 (if IntKind.u32.signed = true then -1 else IntKind.u32.max) (e : Int) = ((4294967295 - e : Nat) : Int) := by
  have h1 : (if IntKind.u32.signed = true then (-1 : Int) else IntKind.u32.max) = ((4294967295 : Nat) : Int) := by decide
  rw [h1, u32_xor_nat _ _ (by decide) he]
  congr 1
  have h2 : (4294967295 : Nat) ^^^ e = 2 ^ 32 - (e + 1) := by
    apply Nat.eq_of_testBit_eq
    intro i
    rw [Nat.testBit_xor, show (4294967295 : Nat) = 2 ^ 32 - 1 from rfl, Nat.testBit_two_pow_sub_one, Nat.testBit_two_pow_sub_succ he]
    by_cases hi : i < 32
    · simp [hi]
    · have : e.testBit i = false := Nat.testBit_lt_two_pow (Nat.lt_of_lt_of_le he (Nat.pow_le_pow_right (n := 2) (by decide) (show 32 ≤ i by omega)))
      simp [hi, this]
  rw [h2]; omega
theorem ch_val {e f g : Nat} (he : e < 4294967296) (hf : f < 4294967296) (hg : g < 4294967296) :
    bits BinOp.or IntKind.u32 (bits BinOp.and IntKind.u32 (e : Int) (f : Int)) (bits BinOp.and IntKind.u32 (bits BinOp.xor IntKind.u32 (if IntKind.u32.signed = true then -1 else IntKind.u32.max) (e : Int)) (g : Int)) = ((chz e f g : Nat) : Int) := by
  rw [not_u32 he, u32_and_nat _ _ he hf, u32_and_nat _ _ (by omega) hg, u32_or_nat _ _ (Nat.lt_of_le_of_lt Nat.and_le_left he) (Nat.lt_of_le_of_lt Nat.and_le_right hg)]
  rfl
theorem t_val {h e f g k w : Nat} (hh : h < 4294967296) (he : e < 4294967296) (hf : f < 4294967296) (hg : g < 4294967296) :
    (((h : Int) + bits BinOp.xor IntKind.u32 (bits BinOp.xor IntKind.u32 ((rotr e 6 : Nat) : Int) ((rotr e 11 : Nat) : Int)) ((rotr e 25 : Nat) : Int) +
      bits BinOp.or IntKind.u32 (bits BinOp.and IntKind.u32 (e : Int) (f : Int)) (bits BinOp.and IntKind.u32 (bits BinOp.xor IntKind.u32 (if IntKind.u32.signed = true then -1 else IntKind.u32.max) (e : Int)) (g : Int)) + (k : Int)) % 4294967296 + (w : Int)) % 4294967296
      = (((h + sE e + chz e f g + k + w) % 4294967296 : Nat) : Int) := by
  rw [ch_val he hf hg, u32_xors (rotr_lt e 6) (rotr_lt e 11) (rotr_lt e 25)]
  unfold sE
  omega

theorem maj_val {a b c : Nat} (ha : a < 4294967296) (hb : b < 4294967296) (hc : c < 4294967296) :
    bits BinOp.xor IntKind.u32 (bits BinOp.xor IntKind.u32 (bits BinOp.and IntKind.u32 (a : Int) (b : Int)) (bits BinOp.and IntKind.u32 (a : Int) (c : Int))) (bits BinOp.and IntKind.u32 (b : Int) (c : Int)) = ((maj a b c : Nat) : Int) := by
  rw [u32_and_nat _ _ ha hb, u32_and_nat _ _ ha hc, u32_and_nat _ _ hb hc, u32_xors (Nat.lt_of_le_of_lt Nat.and_le_left ha) (Nat.lt_of_le_of_lt Nat.and_le_left ha) (Nat.lt_of_le_of_lt Nat.and_le_left hb)]
  rfl
theorem u_val {a b c t : Nat} (ha : a < 4294967296) (hb : b < 4294967296) (hc : c < 4294967296) :
    ((t : Int) + (bits BinOp.xor IntKind.u32 (bits BinOp.xor IntKind.u32 ((rotr a 2 : Nat) : Int) ((rotr a 13 : Nat) : Int)) ((rotr a 22 : Nat) : Int) +
      bits BinOp.xor IntKind.u32 (bits BinOp.xor IntKind.u32 (bits BinOp.and IntKind.u32 (a : Int) (b : Int)) (bits BinOp.and IntKind.u32 (a : Int) (c : Int))) (bits BinOp.and IntKind.u32 (b : Int) (c : Int))) % 4294967296) % 4294967296
      = (((t + (sA a + maj a b c) % 4294967296) % 4294967296 : Nat) : Int) := by
  rw [maj_val ha hb hc, u32_xors (rotr_lt a 2) (rotr_lt a 13) (rotr_lt a 22)]
  unfold sA
  omega

def RegIs (r : HReg) (a b c d e f g h : Value) : Prop :=
  a = .int .u32 (r.a : Int) ∧ b = .int .u32 (r.b : Int) ∧ c = .int .u32 (r.c : Int) ∧ d = .int .u32 (r.d : Int) ∧ e = .int .u32 (r.e : Int) ∧ f = .int .u32 (r.f : Int) ∧ g = .int .u32 (r.g : Int) ∧ h = .int .u32 (r.h : Int)
def EatRel (w : World) (s ws : List Nat) (a b c d e f g h i : Value) (wr : World) : Prop :=
  ∃ k : Nat, k ≤ 64 ∧ i = .int .i64 (k : Int) ∧ RegIs (regs s ws k) a b c d e f g h ∧ ∃ q, wr = w.drewN q

end

/- Contracts of the document's own Tail and Print (citadelref03). -/
section
open Go.RowKit
set_option linter.unusedVariables false

def PadRow (j : Nat) : List UInt8 := 128 :: List.replicate j 0
theorem padRow_len (j : Nat) : (PadRow j).length = j + 1 := by simp [PadRow]
theorem padRow_snoc (j : Nat) : PadRow (j + 1) = PadRow j ++ [0] := by
  unfold PadRow; rw [List.replicate_succ', List.cons_append]

/-- bs, filled in up to place m. -/
def fillB (bs : List UInt8) (m : Nat) : List UInt8 := bs.take m ++ List.replicate (bs.length - m) 0
theorem fillB_len {bs : List UInt8} {m : Nat} (h : m ≤ bs.length) : (fillB bs m).length = bs.length := by simp [fillB]; omega
theorem fillB_zero (bs : List UInt8) : fillB bs 0 = List.replicate bs.length 0 := by simp [fillB]
theorem fillB_all (bs : List UInt8) : fillB bs bs.length = bs := by simp [fillB]
theorem fillB_set {bs : List UInt8} {m : Nat} (h : m < bs.length) : (fillB bs m).set m (bs.getD m 0) = fillB bs (m + 1) := by
  unfold fillB
  rw [List.set_append_right _ _ (by simp; omega), take_snoc_getD h, show bs.length - m = (bs.length - (m + 1)) + 1 from by omega, List.replicate_succ]
  simp [Nat.min_eq_left (Nat.le_of_lt h)]
theorem printL_at : ∀ (s : List Nat) (k j : Nat), k < s.length → j < 4 → (printL s).getD (4 * k + j) 0 = (enc (nx s k) 4).getD j 0
  | [], _, _, h, _ => by simp at h
  | x :: s, 0, j, _, hj => by
    simp only [printL, List.map_cons, List.flatten_cons, Nat.mul_zero, Nat.zero_add, nx, List.getD_cons_zero]
    simp only [List.getD]
    rw [List.getElem?_append_left (by rw [enc_len]; exact hj)]
  | x :: s, k + 1, j, h, hj => by
    have ih := printL_at s k j (by simpa using h) hj
    simp only [printL, List.map_cons, List.flatten_cons, nx, List.getD_cons_succ] at ih ⊢
    rw [← ih]
    simp only [List.getD]
    rw [List.getElem?_append_right (by rw [enc_len]; omega), enc_len, show 4 * (k + 1) + j - 4 = 4 * k + j from by omega]
theorem arrB_zeros (n : Nat) : arrB (List.replicate n 0) = Array.replicate n (Value.int .u8 0) := by
  unfold arrB
  rw [List.map_replicate]
  exact List.toArray_replicate ..
def zeros32 : List UInt8 := List.replicate 32 0
end

/- Contracts of the document's own Sum and Chain (citadelref03). -/
section
open Go.RowKit
set_option linter.unusedVariables false

def SumRel (w1 : World) (all : List UInt8) (m : Nat) (s i : Value) (wr : World) : Prop :=
  ∃ (k : Nat) (A : Option Addr) (c : Nat), k ≤ m ∧ i = .int .i64 ((64 * k : Nat) : Int) ∧ s = .slice A 8 c ∧ RdK .u32 wr wr.heap.size A 8 (eatAll shaF all k) ∧ Below w1.heap.size w1 wr

end

/- The contract of the document's own Chain (citadelref03), which calls itself. -/
section
open Go.RowKit
set_option linter.unusedVariables false

theorem chainL_snoc (x : List UInt8) (l : List (List UInt8)) (b : List UInt8) : chainL (x :: l ++ [b]) = shaL (chainL (x :: l) ++ b) := by
  simp [chainL, List.foldl_append]
theorem chainL_len (l : List (List UInt8)) : (chainL l).length = 32 := by
  cases l with
  | nil => exact shaL_len _
  | cons x l =>
    rcases List.eq_nil_or_concat l with rfl | ⟨l', b, rfl⟩
    · exact shaL_len _
    · rw [List.concat_eq_append, ← List.cons_append, chainL_snoc]; exact shaL_len _
theorem rows_split {bss : List (List UInt8)} {n : Nat} (h : bss.length = n + 1) : bss = bss.take n ++ [bss.getD n []] := by
  have h1 := List.take_succ_eq_append_getElem (l := bss) (i := n) (by omega)
  rw [List.take_of_length_le (by omega)] at h1
  have h2 : bss.getD n [] = bss[n] := by simp [List.getD, List.getElem?_eq_getElem (show n < bss.length by omega)]
  rw [h2]; exact h1
theorem RdS.front {w : World} {B n : Nat} {A : Option Addr} {bss : List (List UInt8)} (h : RdS w B A n bss) {k : Nat} (hk : k ≤ n) : RdS w B A k (bss.take k) := by
  refine ⟨by simp [h.1]; omega, fun h0 => ?_⟩
  obtain ⟨b, o, e, hb, hc⟩ := h.2 (by omega)
  refine ⟨b, o, e, hb, fun j hj => ?_⟩
  obtain ⟨A', m, c, h1, h2⟩ := hc j (by omega)
  refine ⟨A', m, c, h1, ?_⟩
  simpa [List.getD, hj] using h2
theorem RdS.below {w w' : World} {B n : Nat} {A : Option Addr} {bss : List (List UInt8)} (h : RdS w B A n bss) (hb : Below B w w') : RdS w' B A n bss := by
  refine ⟨h.1, fun h0 => ?_⟩
  obtain ⟨b, o, e, hlt, hc⟩ := h.2 h0
  refine ⟨b, o, e, hlt, fun j hj => ?_⟩
  obtain ⟨A', m, c, h1, h2⟩ := hc j hj
  exact ⟨A', m, c, (hb.cell hlt).trans h1, h2.below hb⟩
theorem RdS.more {w : World} {B B' n : Nat} {A : Option Addr} {bss : List (List UInt8)} (h : RdS w B A n bss) (hB : B ≤ B') : RdS w B' A n bss := by
  refine ⟨h.1, fun h0 => ?_⟩
  obtain ⟨b, o, e, hlt, hc⟩ := h.2 h0
  refine ⟨b, o, e, by omega, fun j hj => ?_⟩
  obtain ⟨A', m, c, h1, h2⟩ := hc j hj
  exact ⟨A', m, c, h1, h2.more hB⟩
theorem RdS.to {w w' : World} {n : Nat} {A : Option Addr} {bss : List (List UInt8)} (h : RdS w w.heap.size A n bss) (hb : Below w.heap.size w w') : RdS w' w'.heap.size A n bss := (h.below hb).more hb.size
/-- l[:k] of a slice whose elements take one cell. -/
theorem slice_h1 {P : Program} {T U : TypeId} (hul : P.underlying T = some (.slice U)) (hs : ∀ w : World, (sizeOf U).run P w = .ok 1 w) (A : Option Addr) {n c h : Nat} (h2 : h ≤ n) (hc : n ≤ c) :
    ∀ (k' : IntKind) (w : World), (Instr.slice T (.slice A n c) none (some (.int k' (h : Int))) none).run P w = .ok (.slice A h c) w := by
  intro k' w
  have he : P.elem T = U := by simp [Program.elem, hul]
  rw [run_slice_h (ht := by rw [he]; exact hul) (kh := k') (h := (h : Int)) (h0 := by omega) (h2 := by omega), he, hs]
  simp only [Result.andThen, sliced]
  congr 1
  cases A with
  | none => simp
  | some a => simp [addr_add_zero]
theorem rows_size (w : World) : (sizeOf 29).run Try.prog w = .ok 1 w := by
  have h : (Try.prog.info? 29).map (·.size) = some 1 := by kernel_rfl
  cases hi : Try.prog.info? 29 with
  | none => rw [hi] at h; cases h
  | some i => rw [hi] at h; simp at h; simp [sizeOf, typeInfo, hi, h]
/-- A tag's cells one by one, for a walk that reads it cell by cell. -/
def tagv (bs : List UInt8) (j : Nat) : Value := .int .u8 (nth bs j : Int)
theorem tagv_all {bs : List UInt8} (h : bs.length = 32) : #[tagv bs 0, tagv bs 1, tagv bs 2, tagv bs 3, tagv bs 4, tagv bs 5, tagv bs 6, tagv bs 7, tagv bs 8, tagv bs 9, tagv bs 10, tagv bs 11, tagv bs 12, tagv bs 13, tagv bs 14, tagv bs 15, tagv bs 16, tagv bs 17, tagv bs 18, tagv bs 19, tagv bs 20, tagv bs 21, tagv bs 22, tagv bs 23, tagv bs 24, tagv bs 25, tagv bs 26, tagv bs 27, tagv bs 28, tagv bs 29, tagv bs 30, tagv bs 31] = arrB bs := by
  apply Array.ext
  · rw [arrB_size, h]; rfl
  · intro i h1 h2
    have h3 : i < 32 := by simpa using h1
    have e : ∀ (l : List Value) (hl : l = (List.range 32).map (tagv bs)) (hi : i < l.length), l[i] = tagv bs i := by
      rintro l rfl hi; simp
    have e2 := arrB_at (bs := bs) (j := i) (by omega)
    rw [Array.getElem?_eq_getElem h2] at e2
    injection e2 with e2
    rw [e2]
    exact e _ rfl _
end

/- A tag's block as a slice that may be written. -/
section
open Go.RowKit
set_option linter.unusedVariables false

end

/- (Its words lie in KitO.) -/
section

end

/- Plain mathematics of HMAC: short forms, masks, tags, purposes, sealed messages, as the chapter says them. No program. -/
section
/-- The short form of a key. -/
def shortL (k : List UInt8) : List UInt8 := if k.length ≤ 64 then k else shaL k
theorem shortL_len (k : List UInt8) : (shortL k).length ≤ 64 := by
  unfold shortL
  split
  · assumption
  · rw [shaL_len]; decide
/-- A mask: the short form, padded to 64 bytes, each byte turned by one. -/
def maskL (k : List UInt8) (x : UInt8) : List UInt8 := (List.range 64).map fun i => (shortL k).getD i 0 ^^^ x
theorem maskL_len (k : List UInt8) (x : UInt8) : (maskL k x).length = 64 := by simp [maskL]
def hmacL (k b : List UInt8) : List UInt8 := shaL (maskL k 92 ++ shaL (maskL k 54 ++ b))
theorem hmacL_len (k b : List UInt8) : (hmacL k b).length = 32 := shaL_len _
/-- A purpose's bytes. -/
def formL (label : List UInt8) (l : List Nat) : List UInt8 := label ++ [0] ++ (l.map fun x => enc x 8).flatten
theorem formL_len (label : List UInt8) (l : List Nat) : (formL label l).length = label.length + 1 + 8 * l.length := by
  unfold formL
  rw [List.length_append, List.length_append]
  have : ∀ l : List Nat, ((l.map fun x => enc x 8).flatten).length = 8 * l.length := by
    intro l
    induction l with
    | nil => rfl
    | cons x l ih => rw [List.map_cons, List.flatten_cons, List.length_append, enc_len, ih, List.length_cons]; omega
  rw [this]; rfl
def sealL (k b : List UInt8) : List UInt8 := b ++ hmacL k b
theorem sealL_len (k b : List UInt8) : (sealL k b).length = b.length + 32 := by rw [sealL, List.length_append, hmacL_len]
/-- Is it a sealed message? -/
def openOk (k s : List UInt8) : Bool := decide (32 ≤ s.length) && decide (sealL k (s.take (s.length - 32)) = s)
def openL (k s : List UInt8) : List UInt8 := if openOk k s then s.take (s.length - 32) else []
theorem open_seal (k b : List UInt8) : openOk k (sealL k b) = true ∧ openL k (sealL k b) = b := by
  have h1 : (sealL k b).take ((sealL k b).length - 32) = b := by
    rw [sealL_len, Nat.add_sub_cancel]
    exact List.take_left' rfl
  have h2 : openOk k (sealL k b) = true := by
    unfold openOk
    rw [h1, sealL_len]
    simp
  exact ⟨h2, by rw [openL, if_pos h2, h1]⟩
/-- A mask, grown byte by byte. -/
def maskN (s : List UInt8) (x : UInt8) (n : Nat) : List UInt8 := (List.range n).map fun i => s.getD i 0 ^^^ x
theorem maskN_succ (s : List UInt8) (x : UInt8) (n : Nat) : maskN s x (n + 1) = maskN s x n ++ [s.getD n 0 ^^^ x] := by
  unfold maskN
  rw [List.range_succ, List.map_append]; rfl
theorem maskN_all (k : List UInt8) (x : UInt8) : maskN (shortL k) x 64 = maskL k x := rfl
/-- An int's 64 bits. -/
def u64N (x : Int) : Nat := (x % 18446744073709551616).toNat
theorem u64N_lt (x : Int) : u64N x < 18446744073709551616 := by unfold u64N; omega
theorem u64N_eq (x : Int) : x % 18446744073709551616 = (u64N x : Int) := by unfold u64N; omega
/-- A purpose's bytes, of ints. -/
def formI (label : List UInt8) (l : List Int) : List UInt8 := formL label (l.map u64N)
theorem formI_nil (label : List UInt8) : formI label [] = label ++ [0] := by simp [formI, formL]
theorem formI_snoc (label : List UInt8) (l : List Int) (x : Int) : formI label (l ++ [x]) = formI label l ++ enc (u64N x) 8 := by
  simp [formI, formL]
theorem formI_len (label : List UInt8) (l : List Int) : (formI label l).length = label.length + 1 + 8 * l.length := by
  unfold formI
  rw [formL_len, List.length_map]
end

/- Contracts of the statements' own row and same (citadellaw03): a state as a row of numbers; is a state what a row says? -/
section
open Go.RowKit
set_option linter.unusedVariables false

/-- The cells of an array of numbers. -/
def arrN (k : IntKind) (xs : List Nat) : Array Value := (xs.map (kv k)).toArray
theorem arrN_size (k : IntKind) (xs : List Nat) : (arrN k xs).size = xs.length := by simp [arrN]
theorem arrN_at {k : IntKind} {xs : List Nat} {j : Nat} (h : j < xs.length) : (arrN k xs)[j]? = some (.int k (nx xs j : Int)) := by
  simp [arrN, h, nx_of_lt h, kv]
theorem arrN_one (k : IntKind) (xs : List Nat) : (arrN k xs).all (·.oneCell') = true := by
  rw [Array.all_eq_true]
  intro i hi
  simp [arrN, kv]
  rfl

end

/- Contracts of the document's own hmac (citadelref04). -/
section
open Go.RowKit
set_option linter.unusedVariables false

def MaskRel (w1 : World) (s : List UInt8) (x : UInt8) (v i : Value) (wr : World) : Prop :=
  ∃ k : Nat, k ≤ 64 ∧ i = .int .i64 (k : Int) ∧ wr.ownsRow w1.heap.size 5 1 v k ((maskN s x k).map bval) ∧ Below w1.heap.size w1 wr

end

/- The laws' own Field (citadellaw05): how a slice of them comes in, what it reads as. -/
section
open Go.RowKit Go.ChangeShapes Go.WideShapes Go.Deep
set_option linter.unusedVariables false

structure Fld where
  what : Int
  x : UInt8
  n : Int
  is : Bool
  b : List UInt8
  t : List UInt8
def Fld.zero : Fld := ⟨0, 0, 0, false, [], zeros32⟩
/-- The cells of a field whose bytes lie at A. -/
def fldL (f : Fld) (A : Option Addr) (m c : Nat) : List Value := .int .i64 f.what :: .int .u8 (f.x.toNat : Int) :: .int .i64 f.n :: .bool f.is :: .slice A m c :: f.t.map bval
structure FldOk (w : World) (B : Nat) (f : Fld) (A : Option Addr) (m c : Nat) : Prop where
  tl : f.t.length = 32
  wh : -9223372036854775808 ≤ f.what ∧ f.what ≤ 9223372036854775807
  nn : -9223372036854775808 ≤ f.n ∧ f.n ≤ 9223372036854775807
  rd : Rd w B A m f.b
  mc : m ≤ c
  cc : c ≤ 140737488351232
theorem FldOk.below {w w' : World} {B : Nat} {f : Fld} {A : Option Addr} {m c : Nat} (h : FldOk w B f A m c) (hb : Below B w w') : FldOk w' B f A m c := ⟨h.tl, h.wh, h.nn, h.rd.below hb, h.mc, h.cc⟩
theorem FldOk.more {w : World} {B B' : Nat} {f : Fld} {A : Option Addr} {m c : Nat} (h : FldOk w B f A m c) (hB : B ≤ B') : FldOk w B' f A m c := ⟨h.tl, h.wh, h.nn, h.rd.more hB, h.mc, h.cc⟩
theorem FldOk.to {w w' : World} {f : Fld} {A : Option Addr} {m c : Nat} (h : FldOk w w.heap.size f A m c) (hb : Below w.heap.size w w') : FldOk w' w'.heap.size f A m c := (h.below hb).more hb.size
theorem fldL_len {f : Fld} (h : f.t.length = 32) (A : Option Addr) (m c : Nat) : (fldL f A m c).length = 37 := by simp [fldL, h]
/-- A slice of fields reads as fs. -/
def RdF (w : World) (B : Nat) (A : Option Addr) (n : Nat) (fs : List Fld) : Prop :=
  fs.length = n ∧ (0 < n → ∃ b o, A = some ⟨b, o, none⟩ ∧ b < B ∧ ∀ j, j < n → ∃ A' m c, w.rangeAt b (o + j * 37) (fldL (fs.getD j Fld.zero) A' m c) ∧ FldOk w B (fs.getD j Fld.zero) A' m c)
theorem rangeAt_below {w w' : World} {B b o : Nat} {cs : List Value} (h : w.rangeAt b o cs) (hb : Below B w w') (hlt : b < B) : w'.rangeAt b o cs := fun j v hv => (hb.cell (by exact hlt)).trans (h j v hv)
theorem RdF.below {w w' : World} {B n : Nat} {A : Option Addr} {fs : List Fld} (h : RdF w B A n fs) (hb : Below B w w') : RdF w' B A n fs :=
  ⟨h.1, fun hn => by
    obtain ⟨b, o, e, hB, hc⟩ := h.2 hn
    refine ⟨b, o, e, hB, fun j hj => ?_⟩
    obtain ⟨A', m, c, h1, h2⟩ := hc j hj
    exact ⟨A', m, c, rangeAt_below h1 hb hB, h2.below hb⟩⟩
theorem RdF.more {w : World} {B B' n : Nat} {A : Option Addr} {fs : List Fld} (h : RdF w B A n fs) (hB : B ≤ B') : RdF w B' A n fs :=
  ⟨h.1, fun hn => by
    obtain ⟨b, o, e, hb, hc⟩ := h.2 hn
    refine ⟨b, o, e, by omega, fun j hj => ?_⟩
    obtain ⟨A', m, c, h1, h2⟩ := hc j hj
    exact ⟨A', m, c, h1, h2.more hB⟩⟩
theorem RdF.to {w w' : World} {n : Nat} {A : Option Addr} {fs : List Fld} (h : RdF w w.heap.size A n fs) (hb : Below w.heap.size w w') : RdF w' w'.heap.size A n fs := (h.below hb).more hb.size

section
variable {H : Type} {enc : TypeId × Value → H} {W : World} {base : Nat} {held : Bool}
end
end

/- What the laws of layer 5 ask of fields: Great, put (citadellaw05), and the document's own Int, Flag, Bytes, Tag (citadelref05). -/
section
open Go.RowKit
set_option linter.unusedVariables false
set_option linter.unusedSimpArgs false

def sumF (fs : List Fld) : Nat := (fs.map fun f => 40 + f.b.length).sum
theorem sumF_take (fs : List Fld) (k : Nat) : sumF (fs.take k) ≤ sumF fs := by
  induction fs generalizing k with
  | nil => simp [sumF]
  | cons f fs ih =>
    cases k with
    | zero => simp [sumF]
    | succ k => simp only [List.take_succ_cons, sumF, List.map_cons, List.sum_cons] at ih ⊢; have := ih k; omega
theorem sumF_snoc {fs : List Fld} {k : Nat} (h : k < fs.length) : sumF (fs.take (k + 1)) = sumF (fs.take k) + (40 + (fs.getD k Fld.zero).b.length) := by
  rw [List.take_succ_eq_append_getElem h]
  simp only [sumF, List.map_append, List.sum_append, List.map_cons, List.map_nil, List.sum_cons, List.sum_nil, List.getD, List.getElem?_eq_getElem h, Option.getD_some, Nat.add_zero]
def GreatRel (w : World) (fs : List Fld) (n : Nat) (s i : Value) (wr : World) : Prop := ∃ k, k ≤ n ∧ i = .int .i64 (k : Int) ∧ s = .int .i64 (sumF (fs.take k) : Int) ∧ sumF (fs.take k) ≤ 5000 ∧ wr = w

def flagB (b : Bool) : UInt8 := if b then 1 else 0
/-- A field's bytes. -/
def putF (f : Fld) : List UInt8 :=
  if f.what = 0 then [f.x] else if f.what = 1 then enc (u64N f.n) 8 else if f.what = 2 then [flagB f.is] else if f.what = 3 ∨ f.what = 4 then enc f.b.length 4 ++ f.b else if f.what = 5 then f.t else []

set_option maxRecDepth 100000 in
set_option maxHeartbeats 1000000 in
theorem rIntB (n : Int) (w : World) : Calls Try.prog 41 #[.int .i64 n] w fun e w' => RetB 5 w (enc (u64N n) 8) e w' := by
  have h64 : IntKind.u64.wrap n = (u64N n : Int) := by rw [← u64N_eq]; simp only [IntKind.wrap_u64]
  have HL := Lib.hid (u64N_lt n)
  go_enter Try.func41, Try.ntmps41
  go_wp2_with fail
  refine (refPut (u64N n) 8 w HL.out (by decide)).mono ?_
  rintro e w1 h
  have H := Lib.hid h
  obtain ⟨A1, n1, c1, rfl, _, _⟩ := h
  go_wp2_with fail
  go_ret
  exact H.out

set_option maxRecDepth 100000 in
set_option maxHeartbeats 1000000 in
theorem rFlagB (b : Bool) (w : World) : Calls Try.prog 42 #[.bool b] w fun e w' => RetB 5 w [flagB b] e w' := by
  have h1 := fun (z : Int) => own_top (w := w) (B := w.heap.size) [.int .u8 z] 5 (Nat.le_refl _) (fun u hu => by simp at hu; subst hu; rfl) (by simp)
  have hb := fun (z : Int) => (Below.refl w.heap.size w).alloc (Nat.le_refl _) (.cells #[.int .u8 z] 5)
  have H1 := Lib.hid h1
  have HB := Lib.hid hb
  clear h1 hb
  go_enter Try.func42, Try.ntmps42
  cases b
  · go_wp2
    go_ret
    exact ⟨_, _, _, rfl, H1.out 0, HB.out 0⟩
  · go_wp2
    go_ret
    exact ⟨_, _, _, rfl, H1.out 1, HB.out 1⟩

set_option maxRecDepth 100000 in
set_option maxHeartbeats 1000000 in
theorem rBytesB (A : Option Addr) (m c : Nat) (bs : List UInt8) (w : World) (ha : Rd w w.heap.size A m bs) (hm : m ≤ 1000000000) :
    Calls Try.prog 43 #[.slice A m c] w fun e w' => RetB 5 w (enc m 4 ++ bs) e w' := by
  have HA := Lib.hid ha
  have h64 : IntKind.u64.wrap (m : Int) = (m : Int) := by simp only [IntKind.wrap_u64]; omega
  have HL := Lib.hid (enc_len m 4)
  clear ha
  go_enter Try.func43, Try.ntmps43
  go_wp2_with fail
  refine (refPut m 4 w (by omega) (by decide)).mono ?_
  rintro e w1 ⟨A1, n1, c1, rfl, hown1, hb⟩
  have U := Lib.hid (Rd.of_own hown1)
  obtain rfl : n1 = 4 := (Rd.of_own hown1).1.symm.trans HL.out
  have B := Lib.hid hb
  replace HA := Lib.hid (HA.out.to hb)
  clear hown1 hb
  go_wp2_with fail
  refine (refCat A1 A 4 m c1 c _ bs w1 U.out HA.out (by omega)).mono ?_
  rintro e w2 h
  have H := Lib.hid (RetB.from B.out h)
  obtain ⟨A2, n2, c2, rfl, _, _⟩ := h
  go_wp2_with fail
  go_ret
  exact H.out

/-- A field in a block of its own. -/
structure FldAt (w : World) (g : Nat) (f : Fld) (A : Option Addr) (m c : Nat) : Prop where
  c0 : w.cell? ⟨g, 0, none⟩ = some (.int .i64 f.what)
  c1 : w.cell? ⟨g, 1, none⟩ = some (.int .u8 (f.x.toNat : Int))
  c2 : w.cell? ⟨g, 2, none⟩ = some (.int .i64 f.n)
  c3 : w.cell? ⟨g, 3, none⟩ = some (.bool f.is)
  c4 : w.cell? ⟨g, 4, none⟩ = some (.slice A m c)
  c5 : w.rangeAt g 5 (f.t.map bval)
  lt : g < w.heap.size
theorem FldAt.new (w : World) (f : Fld) (A : Option Addr) (m c : Nat) (T : TypeId) : FldAt (w.alloc (.cells (fldL f A m c).toArray T)) w.heap.size f A m c := by
  have h : ∀ j v, (fldL f A m c)[j]? = some v → (w.alloc (.cells (fldL f A m c).toArray T)).cell? ⟨w.heap.size, j, none⟩ = some v := fun j v hv => by
    rw [World.cell?_alloc_at _ _ _ _ (by rfl)]
    simpa using hv
  refine ⟨h 0 _ rfl, h 1 _ rfl, h 2 _ rfl, h 3 _ rfl, h 4 _ rfl, fun j v hv => ?_, by simp⟩
  refine h (5 + j) v ?_
  rw [Nat.add_comm]
  exact hv

theorem putF_len (f : Fld) (h : f.t.length = 32) : (putF f).length ≤ 40 + f.b.length := by
  unfold putF
  split
  · simp; omega
  split
  · rw [enc_len]; omega
  split
  · simp; omega
  split
  · rw [List.length_append, enc_len]; omega
  split
  · omega
  · simp
end
end Go.Proofs.Ytljgliagciblbaa
