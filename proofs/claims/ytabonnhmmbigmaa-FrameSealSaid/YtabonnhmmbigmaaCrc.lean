/- Plain mathematics of CRC-32: a step over a bit, over a byte, over a row; it is linear over exclusive or, nothing but nought goes to nought, and a row's step is that of its number, the lowest byte first. No program. -/
import Derived.Test.YtabonnhmmbigmaaNum
namespace Go.Proofs.Ytabonnhmmbigmaa

/-- One bit: the chapter's inner step. -/
def bit1 (c : Nat) : Nat := if c % 2 = 1 then (c / 2) ^^^ 3988292384 else c / 2
def bitN : Nat → Nat → Nat
  | 0, c => c
  | k + 1, c => bitN k (bit1 c)
def byte1 (c b : Nat) : Nat := bitN 8 (c ^^^ b)
def raw (c : Nat) (bs : List UInt8) : Nat := bs.foldl (fun c b => byte1 c b.toNat) c
theorem raw_nil (c : Nat) : raw c [] = c := List.foldl_nil
theorem raw_cons (c : Nat) (b : UInt8) (bs : List UInt8) : raw c (b :: bs) = raw (byte1 c b.toNat) bs := List.foldl_cons ..
def crcM : Nat := 4294967295
def crcAdd (c : Nat) (bs : List UInt8) : Nat := raw (c ^^^ crcM) bs ^^^ crcM
def crcSum (bs : List UInt8) : Nat := crcAdd 0 bs

theorem bit1_lt {c : Nat} (h : c < 4294967296) : bit1 c < 4294967296 := by
  unfold bit1
  split
  · exact Nat.xor_lt_two_pow (n := 32) (by omega) (by decide)
  · omega
theorem bitN_lt : ∀ (k : Nat) {c : Nat}, c < 4294967296 → bitN k c < 4294967296
  | 0, _, h => h
  | k + 1, _, h => bitN_lt k (bit1_lt h)
theorem byte1_lt {c b : Nat} (h : c < 4294967296) (hb : b < 4294967296) : byte1 c b < 4294967296 :=
  bitN_lt 8 (Nat.xor_lt_two_pow (n := 32) h hb)
theorem raw_lt : ∀ (bs : List UInt8) {c : Nat}, c < 4294967296 → raw c bs < 4294967296
  | [], _, h => h
  | b :: bs, _, h => by rw [raw_cons]; exact raw_lt bs (byte1_lt h (by have := b.toNat_lt; omega))
theorem crcAdd_lt (bs : List UInt8) {c : Nat} (h : c < 4294967296) : crcAdd c bs < 4294967296 :=
  Nat.xor_lt_two_pow (n := 32) (raw_lt bs (Nat.xor_lt_two_pow (n := 32) h (by decide))) (by decide)

theorem bit1_xor (a b : Nat) : bit1 (a ^^^ b) = bit1 a ^^^ bit1 b := by
  have hd : (a ^^^ b) / 2 = a / 2 ^^^ b / 2 := Nat.xor_div_two
  have hm : (a ^^^ b) % 2 = 1 ↔ (a % 2 = 1 ∧ b % 2 ≠ 1) ∨ (a % 2 ≠ 1 ∧ b % 2 = 1) := by
    have h := Nat.testBit_xor a b 0
    simp only [Nat.testBit_zero] at h
    by_cases ha : a % 2 = 1 <;> by_cases hb : b % 2 = 1 <;> simp [ha, hb] at h ⊢ <;> omega
  unfold bit1
  rw [hd]
  by_cases ha : a % 2 = 1
  · by_cases hb : b % 2 = 1
    · rw [if_neg (by rw [hm]; omega), if_pos ha, if_pos hb]
      rw [Nat.xor_comm (b / 2), Nat.xor_assoc, ← Nat.xor_assoc 3988292384, Nat.xor_self, Nat.zero_xor]
    · rw [if_pos (hm.2 (by omega)), if_pos ha, if_neg hb]
      rw [Nat.xor_assoc, Nat.xor_assoc, Nat.xor_comm (b / 2)]
  · by_cases hb : b % 2 = 1
    · rw [if_pos (hm.2 (by omega)), if_neg ha, if_pos hb, Nat.xor_assoc]
    · rw [if_neg (by rw [hm]; omega), if_neg ha, if_neg hb]
theorem bitN_xor : ∀ (k a b : Nat), bitN k (a ^^^ b) = bitN k a ^^^ bitN k b
  | 0, _, _ => rfl
  | k + 1, a, b => by simp only [bitN, bit1_xor, bitN_xor k]
theorem bitN_add : ∀ (i j c : Nat), bitN (i + j) c = bitN j (bitN i c)
  | 0, j, c => by rw [Nat.zero_add]; rfl
  | i + 1, j, c => by rw [Nat.add_right_comm]; exact bitN_add i j (bit1 c)
theorem bitN_nought (k : Nat) : bitN k 0 = 0 := by
  induction k with
  | zero => rfl
  | succ k ih => exact ih
theorem bit1_zero {c : Nat} (h : c < 4294967296) (h0 : bit1 c = 0) : c = 0 := by
  unfold bit1 at h0
  split at h0
  · rename_i hc
    exfalso
    have e : c / 2 = 3988292384 := by
      have := congrArg (fun x => x ^^^ 3988292384) h0
      simpa [Nat.xor_assoc] using this
    omega
  · omega
theorem bitN_zero : ∀ (k : Nat) {c : Nat}, c < 4294967296 → bitN k c = 0 → c = 0
  | 0, _, _, h => h
  | k + 1, _, h, h0 => bit1_zero h (bitN_zero k (bit1_lt h) h0)
theorem bitN_shift : ∀ (k y : Nat), bitN k (2 ^ k * y) = y
  | 0, y => by simp [bitN]
  | k + 1, y => by
    have e : bit1 (2 ^ (k + 1) * y) = 2 ^ k * y := by
      have h : 2 ^ (k + 1) * y = 2 * (2 ^ k * y) := by rw [Nat.pow_succ, Nat.mul_comm (2 ^ k) 2, Nat.mul_assoc]
      unfold bit1
      rw [h, if_neg (by omega)]
      omega
    simp only [bitN, e, bitN_shift k y]
/-- The low bits and the high bits part. -/
theorem add_xor {k lo : Nat} (h : lo < 2 ^ k) (hi : Nat) : lo + 2 ^ k * hi = lo ^^^ (2 ^ k * hi) := by
  apply Nat.eq_of_testBit_eq
  intro j
  rw [Nat.add_comm, Nat.testBit_xor, Nat.testBit_two_pow_mul_add hi h, Nat.testBit_two_pow_mul]
  by_cases hj : j < k
  · simp [hj, Nat.not_le.2 hj]
  · have : lo.testBit j = false := Nat.testBit_lt_two_pow (Nat.lt_of_lt_of_le h (Nat.pow_le_pow_right (by decide) (by omega)))
    simp [hj, this, Nat.not_lt.1 hj]
/-- What a table of 256 entries serves for. -/
theorem byte_table (c : Nat) : bitN 8 c = bitN 8 (c % 256) ^^^ (c / 256) := by
  have e : c = c % 256 ^^^ (2 ^ 8 * (c / 256)) := by
    rw [← add_xor (k := 8) (by omega)]; omega
  have h := bitN_xor 8 (c % 256) (2 ^ 8 * (c / 256))
  rw [← e, bitN_shift 8] at h
  exact h

/-- The number of a row, its lowest byte first. -/
def le : List UInt8 → Nat
  | [] => 0
  | b :: bs => b.toNat + 2 ^ 8 * le bs
theorem le_lt : ∀ bs : List UInt8, le bs < 256 ^ bs.length
  | [] => by simp [le]
  | b :: bs => by
    have h := le_lt bs
    have hb := b.toNat_lt
    simp only [le, List.length_cons, Nat.pow_succ]
    omega
theorem le_zero : ∀ {bs : List UInt8}, le bs = 0 → bs = List.replicate bs.length 0
  | [], _ => rfl
  | b :: bs, h => by
    simp only [le] at h
    have h1 : b.toNat = 0 := by omega
    have h2 : le bs = 0 := by omega
    have e : b = 0 := UInt8.toNat_inj.1 (by simpa using h1)
    rw [List.length_cons, List.replicate_succ, ← le_zero h2, e]
theorem raw_le : ∀ (bs : List UInt8) (c : Nat), raw c bs = bitN (8 * bs.length) (c ^^^ le bs)
  | [], c => by rw [raw_nil, le, Nat.xor_zero]; rfl
  | b :: bs, c => by
    rw [raw_cons, raw_le bs, byte1]
    have e : 8 * (b :: bs).length = 8 + 8 * bs.length := by simp [Nat.mul_add, Nat.add_comm]
    have hb : b.toNat < 2 ^ 8 := b.toNat_lt
    rw [e, bitN_add, le, add_xor hb, ← Nat.xor_assoc, bitN_xor 8 (c ^^^ b.toNat), bitN_shift 8]
theorem raw_append : ∀ (xs ys : List UInt8) (c : Nat), raw c (xs ++ ys) = raw (raw c xs) ys
  | [], _, _ => by rw [raw_nil]; rfl
  | x :: xs, ys, c => by rw [List.cons_append, raw_cons, raw_cons]; exact raw_append xs ys _
theorem crcAdd_append (xs ys : List UInt8) (c : Nat) : crcAdd c (xs ++ ys) = crcAdd (crcAdd c xs) ys := by
  unfold crcAdd
  rw [raw_append, Nat.xor_assoc (raw _ xs), Nat.xor_self, Nat.xor_zero]
theorem crcAdd_nil (c : Nat) : crcAdd c [] = c := by
  unfold crcAdd
  rw [raw_nil, Nat.xor_assoc, Nat.xor_self, Nat.xor_zero]

/-- Place by place, the exclusive or. -/
def xorL : List UInt8 → List UInt8 → List UInt8
  | a :: xs, b :: ys => (a ^^^ b) :: xorL xs ys
  | _, _ => []
theorem xorL_len : ∀ {xs ys : List UInt8}, (xorL xs ys).length = min xs.length ys.length
  | [], _ => by simp [xorL]
  | _ :: _, [] => by simp [xorL]
  | _ :: xs, _ :: ys => by simp [xorL, xorL_len (xs := xs)]
theorem byte1_xor (a b c d : Nat) : byte1 (a ^^^ b) (c ^^^ d) = byte1 a c ^^^ byte1 b d := by
  unfold byte1
  rw [← bitN_xor]
  congr 1
  rw [Nat.xor_assoc, Nat.xor_assoc, ← Nat.xor_assoc b c d, Nat.xor_comm b c, Nat.xor_assoc]
theorem raw_xor : ∀ (xs ys : List UInt8) (a b : Nat), xs.length = ys.length → raw (a ^^^ b) (xorL xs ys) = raw a xs ^^^ raw b ys
  | [], [], _, _, _ => by simp [xorL, raw_nil]
  | [], _ :: _, _, _, h => by simp at h
  | _ :: _, [], _, _, h => by simp at h
  | x :: xs, y :: ys, a, b, h => by
    rw [xorL, raw_cons, raw_cons, raw_cons, UInt8.toNat_xor, byte1_xor]
    exact raw_xor xs ys _ _ (by simpa using h)
/-- P2.5's ground. -/
theorem crc_three {xs ys zs : List UInt8} (h1 : xs.length = ys.length) (h2 : ys.length = zs.length) :
    crcSum xs ^^^ crcSum ys ^^^ crcSum zs = crcSum (xorL (xorL xs ys) zs) := by
  unfold crcSum crcAdd
  simp only [Nat.zero_xor]
  have e : crcM = (crcM ^^^ crcM) ^^^ crcM := by rw [Nat.xor_self, Nat.zero_xor]
  have h := raw_xor (xorL xs ys) zs (crcM ^^^ crcM) crcM (by rw [xorL_len]; omega)
  rw [raw_xor xs ys _ _ h1] at h
  rw [← e] at h
  rw [h]
  generalize raw crcM xs = p
  generalize raw crcM ys = q
  generalize raw crcM zs = r
  generalize crcM = m
  ac_nf
  rw [Nat.xor_self]
  simp
theorem raw_zeros (n c : Nat) : raw c (List.replicate n 0) = bitN (8 * n) c := by
  have h : ∀ n, le (List.replicate n 0) = 0 := fun n => by
    induction n with
    | zero => rfl
    | succ n ih => rw [List.replicate_succ, le, ih]; rfl
  rw [raw_le, h, Nat.xor_zero, List.length_replicate]
/-- P2.4's ground: a row that is nought but for up to four bytes, one behind the other. -/
theorem raw_four {i j : Nat} {x : List UInt8} (hx : x.length ≤ 4) : raw 0 (List.replicate i 0 ++ x ++ List.replicate j 0) = 0 ↔ x = List.replicate x.length 0 := by
  rw [raw_append, raw_append, raw_zeros i 0, bitN_nought, raw_zeros, raw_le, Nat.zero_xor]
  have hl : le x < 4294967296 := Nat.lt_of_lt_of_le (le_lt x) (Nat.le_trans (Nat.pow_le_pow_right (by decide) hx) (by decide))
  constructor
  · intro h
    exact le_zero (bitN_zero _ hl (bitN_zero _ (bitN_lt _ hl) h))
  · intro h
    have : le x = 0 := by
      have h2 := raw_zeros x.length 0
      rw [h]
      have : ∀ n, le (List.replicate n 0) = 0 := fun n => by
        induction n with
        | zero => rfl
        | succ n ih => rw [List.replicate_succ, le, ih]; rfl
      exact this _
    rw [this, bitN_nought, bitN_nought]
theorem xor_eq_zero {a b : Nat} : a ^^^ b = 0 ↔ a = b := by
  constructor
  · intro h
    have := congrArg (fun x => x ^^^ b) h
    simpa [Nat.xor_assoc] using this
  · rintro rfl; exact Nat.xor_self _
/-- Two rows as long: their sums are one just if the step over what they differ by is nought. -/
theorem crc_same {xs ys : List UInt8} (h : xs.length = ys.length) : crcSum xs = crcSum ys ↔ raw 0 (xorL xs ys) = 0 := by
  have h1 := raw_xor xs ys crcM crcM h
  rw [Nat.xor_self] at h1
  rw [h1, xor_eq_zero]
  unfold crcSum crcAdd
  simp only [Nat.zero_xor]
  constructor
  · intro h
    have := congrArg (fun x => x ^^^ crcM) h
    simpa [Nat.xor_assoc] using this
  · intro h; rw [h]
end Go.Proofs.Ytabonnhmmbigmaa
