/- Several texts in one (a claim has 60 files at most): Crc, CrcPatch, CrcRef. -/
import Derived.Test.YtffdjnhhmfpkgaaGreatTz
import Derived.Test.YtffdjnhhmfpkgaaGreatR0
import Derived.Laws.BitsAllLaws
namespace Go.Proofs.YtffdjnhhmfpkgaaGreat
set_option maxRecDepth 1000000
set_option maxHeartbeats 8000000
set_option linter.unusedVariables false
set_option linter.unusedSimpArgs false
section
def bit1 (c : Nat) : Nat := if c % 2 = 1 then (c / 2) ^^^ 3988292384 else c / 2
def bitN : Nat → Nat → Nat
 | 0, c => c
 | k + 1, c => bitN k (bit1 c)
def byte1 (c b : Nat) : Nat := bitN 8 (c ^^^ b)
def raw (c : Nat) (bs : List UInt8) : Nat := bs.foldl (fun c b => byte1 c b.toNat) c
theorem raw_nil (c : Nat) : raw c [] = c := List.foldl_nil
theorem raw_cons (c : Nat) (b : UInt8) (bs : List UInt8) : raw c (b :: bs) = raw (byte1 c b.toNat) bs := List.foldl_cons ..
def crcM : Nat := 4294967295
def crcAdd (c : Nat) (bs : List UInt8) : Nat := raw (c ^^^ crcM) bs ^^^ crcM
def crcSum (bs : List UInt8) : Nat := crcAdd 0 bs
theorem bit1_lt {c : Nat} (h : c < 4294967296) : bit1 c < 4294967296 := by
 unfold bit1
 split
 ·exact Nat.xor_lt_two_pow (n := 32) (by omega) (by decide)
 ·omega
theorem bitN_lt : ∀ (k : Nat) {c : Nat}, c < 4294967296 → bitN k c < 4294967296
 | 0, _, h => h
 | k + 1, _, h => bitN_lt k (bit1_lt h)
theorem byte1_lt {c b : Nat} (h : c < 4294967296) (hb : b < 4294967296) : byte1 c b < 4294967296 :=
 bitN_lt 8 (Nat.xor_lt_two_pow (n := 32) h hb)
theorem raw_lt : ∀ (bs : List UInt8) {c : Nat}, c < 4294967296 → raw c bs < 4294967296
 | [], _, h => h
 | b :: bs, _, h => by rw [raw_cons]; exact raw_lt bs (byte1_lt h (by have := b.toNat_lt; omega))
theorem crcAdd_lt (bs : List UInt8) {c : Nat} (h : c < 4294967296) : crcAdd c bs < 4294967296 :=
 Nat.xor_lt_two_pow (n := 32) (raw_lt bs (Nat.xor_lt_two_pow (n := 32) h (by decide))) (by decide)
theorem bit1_xor (a b : Nat) : bit1 (a ^^^ b) = bit1 a ^^^ bit1 b := by
 have hd : (a ^^^ b) / 2 = a / 2 ^^^ b / 2 := Nat.xor_div_two
 have hm : (a ^^^ b) % 2 = 1 ↔ (a % 2 = 1 ∧ b % 2 ≠ 1) ∨ (a % 2 ≠ 1 ∧ b % 2 = 1) := by
  have h := Nat.testBit_xor a b 0
  simp only [Nat.testBit_zero] at h
  by_cases ha : a % 2 = 1 <;> by_cases hb : b % 2 = 1 <;> simp [ha, hb] at h ⊢ <;> omega
 unfold bit1
 rw [hd]
 by_cases ha : a % 2 = 1
 ·by_cases hb : b % 2 = 1
  ·rw [if_neg (by rw [hm]; omega), if_pos ha, if_pos hb]
   rw [Nat.xor_comm (b / 2), Nat.xor_assoc, ← Nat.xor_assoc 3988292384, Nat.xor_self, Nat.zero_xor]
  ·rw [if_pos (hm.2 (by omega)), if_pos ha, if_neg hb]
   rw [Nat.xor_assoc, Nat.xor_assoc, Nat.xor_comm (b / 2)]
 ·by_cases hb : b % 2 = 1
  ·rw [if_pos (hm.2 (by omega)), if_neg ha, if_pos hb, Nat.xor_assoc]
  ·rw [if_neg (by rw [hm]; omega), if_neg ha, if_neg hb]
theorem bitN_xor : ∀ (k a b : Nat), bitN k (a ^^^ b) = bitN k a ^^^ bitN k b
 | 0, _, _ => rfl
 | k + 1, a, b => by simp only [bitN, bit1_xor, bitN_xor k]
theorem bitN_add : ∀ (i j c : Nat), bitN (i + j) c = bitN j (bitN i c)
 | 0, j, c => by rw [Nat.zero_add]; rfl
 | i + 1, j, c => by rw [Nat.add_right_comm]; exact bitN_add i j (bit1 c)
theorem bitN_nought (k : Nat) : bitN k 0 = 0 := by
 induction k with
 | zero => rfl
 | succ k ih => exact ih
theorem bit1_zero {c : Nat} (h : c < 4294967296) (h0 : bit1 c = 0) : c = 0 := by
 unfold bit1 at h0
 split at h0
 ·rename_i hc
  exfalso
  have e : c / 2 = 3988292384 := by
   have := congrArg (fun x => x ^^^ 3988292384) h0
   simpa [Nat.xor_assoc] using this
  omega
 ·omega
theorem bitN_zero : ∀ (k : Nat) {c : Nat}, c < 4294967296 → bitN k c = 0 → c = 0
 | 0, _, _, h => h
 | k + 1, _, h, h0 => bit1_zero h (bitN_zero k (bit1_lt h) h0)
theorem bitN_shift : ∀ (k y : Nat), bitN k (2 ^ k * y) = y
 | 0, y => by simp [bitN]
 | k + 1, y => by
  have e : bit1 (2 ^ (k + 1) * y) = 2 ^ k * y := by
   have h : 2 ^ (k + 1) * y = 2 * (2 ^ k * y) := by rw [Nat.pow_succ, Nat.mul_comm (2 ^ k) 2, Nat.mul_assoc]
   unfold bit1
   rw [h, if_neg (by omega)]
   omega
  simp only [bitN, e, bitN_shift k y]
theorem add_xor {k lo : Nat} (h : lo < 2 ^ k) (hi : Nat) : lo + 2 ^ k * hi = lo ^^^ (2 ^ k * hi) := by
 apply Nat.eq_of_testBit_eq
 intro j
 rw [Nat.add_comm, Nat.testBit_xor, Nat.testBit_two_pow_mul_add hi h, Nat.testBit_two_pow_mul]
 by_cases hj : j < k
 ·simp [hj, Nat.not_le.2 hj]
 ·have : lo.testBit j = false := Nat.testBit_lt_two_pow (Nat.lt_of_lt_of_le h (Nat.pow_le_pow_right (by decide) (by omega)))
  simp [hj, this, Nat.not_lt.1 hj]
theorem byte_table (c : Nat) : bitN 8 c = bitN 8 (c % 256) ^^^ (c / 256) := by
 have e : c = c % 256 ^^^ (2 ^ 8 * (c / 256)) := by
  rw [← add_xor (k := 8) (by omega)]; omega
 have h := bitN_xor 8 (c % 256) (2 ^ 8 * (c / 256))
 rw [← e, bitN_shift 8] at h
 exact h
def le : List UInt8 → Nat
 | [] => 0
 | b :: bs => b.toNat + 2 ^ 8 * le bs
theorem le_lt : ∀ bs : List UInt8, le bs < 256 ^ bs.length
 | [] => by simp [le]
 | b :: bs => by
  have h := le_lt bs
  have hb := b.toNat_lt
  simp only [le, List.length_cons, Nat.pow_succ]
  omega
theorem le_zero : ∀ {bs : List UInt8}, le bs = 0 → bs = List.replicate bs.length 0
 | [], _ => rfl
 | b :: bs, h => by
  simp only [le] at h
  have h1 : b.toNat = 0 := by omega
  have h2 : le bs = 0 := by omega
  have e : b = 0 := UInt8.toNat_inj.1 (by simpa using h1)
  rw [List.length_cons, List.replicate_succ, ← le_zero h2, e]
theorem raw_le : ∀ (bs : List UInt8) (c : Nat), raw c bs = bitN (8 * bs.length) (c ^^^ le bs)
 | [], c => by rw [raw_nil, le, Nat.xor_zero]; rfl
 | b :: bs, c => by
  rw [raw_cons, raw_le bs, byte1]
  have e : 8 * (b :: bs).length = 8 + 8 * bs.length := by simp [Nat.mul_add, Nat.add_comm]
  have hb : b.toNat < 2 ^ 8 := b.toNat_lt
  rw [e, bitN_add, le, add_xor hb, ← Nat.xor_assoc, bitN_xor 8 (c ^^^ b.toNat), bitN_shift 8]
theorem raw_append : ∀ (xs ys : List UInt8) (c : Nat), raw c (xs ++ ys) = raw (raw c xs) ys
 | [], _, _ => by rw [raw_nil]; rfl
 | x :: xs, ys, c => by rw [List.cons_append, raw_cons, raw_cons]; exact raw_append xs ys _
theorem crcAdd_append (xs ys : List UInt8) (c : Nat) : crcAdd c (xs ++ ys) = crcAdd (crcAdd c xs) ys := by
 unfold crcAdd
 rw [raw_append, Nat.xor_assoc (raw _ xs), Nat.xor_self, Nat.xor_zero]
theorem crcAdd_nil (c : Nat) : crcAdd c [] = c := by
 unfold crcAdd
 rw [raw_nil, Nat.xor_assoc, Nat.xor_self, Nat.xor_zero]
def xorL : List UInt8 → List UInt8 → List UInt8
 | a :: xs, b :: ys => (a ^^^ b) :: xorL xs ys
 | _, _ => []
theorem xorL_len : ∀ {xs ys : List UInt8}, (xorL xs ys).length = min xs.length ys.length
 | [], _ => by simp [xorL]
 | _ :: _, [] => by simp [xorL]
 | _ :: xs, _ :: ys => by simp [xorL, xorL_len (xs := xs)]
theorem byte1_xor (a b c d : Nat) : byte1 (a ^^^ b) (c ^^^ d) = byte1 a c ^^^ byte1 b d := by
 unfold byte1
 rw [← bitN_xor]
 congr 1
 rw [Nat.xor_assoc, Nat.xor_assoc, ← Nat.xor_assoc b c d, Nat.xor_comm b c, Nat.xor_assoc]
theorem raw_xor : ∀ (xs ys : List UInt8) (a b : Nat), xs.length = ys.length → raw (a ^^^ b) (xorL xs ys) = raw a xs ^^^ raw b ys
 | [], [], _, _, _ => by simp [xorL, raw_nil]
 | [], _ :: _, _, _, h => by simp at h
 | _ :: _, [], _, _, h => by simp at h
 | x :: xs, y :: ys, a, b, h => by
  rw [xorL, raw_cons, raw_cons, raw_cons, UInt8.toNat_xor, byte1_xor]
  exact raw_xor xs ys _ _ (by simpa using h)
theorem crc_three {xs ys zs : List UInt8} (h1 : xs.length = ys.length) (h2 : ys.length = zs.length) :
  crcSum xs ^^^ crcSum ys ^^^ crcSum zs = crcSum (xorL (xorL xs ys) zs) := by
 unfold crcSum crcAdd
 simp only [Nat.zero_xor]
 have e : crcM = (crcM ^^^ crcM) ^^^ crcM := by rw [Nat.xor_self, Nat.zero_xor]
 have h := raw_xor (xorL xs ys) zs (crcM ^^^ crcM) crcM (by rw [xorL_len]; omega)
 rw [raw_xor xs ys _ _ h1] at h
 rw [← e] at h
 rw [h]
 generalize raw crcM xs = p
 generalize raw crcM ys = q
 generalize raw crcM zs = r
 generalize crcM = m
 ac_nf
 rw [Nat.xor_self]
 simp
theorem raw_zeros (n c : Nat) : raw c (List.replicate n 0) = bitN (8 * n) c := by
 have h : ∀ n, le (List.replicate n 0) = 0 := fun n => by
  induction n with
  | zero => rfl
  | succ n ih => rw [List.replicate_succ, le, ih]; rfl
 rw [raw_le, h, Nat.xor_zero, List.length_replicate]
theorem raw_four {i j : Nat} {x : List UInt8} (hx : x.length ≤ 4) : raw 0 (List.replicate i 0 ++ x ++ List.replicate j 0) = 0 ↔ x = List.replicate x.length 0 := by
 rw [raw_append, raw_append, raw_zeros i 0, bitN_nought, raw_zeros, raw_le, Nat.zero_xor]
 have hl : le x < 4294967296 := Nat.lt_of_lt_of_le (le_lt x) (Nat.le_trans (Nat.pow_le_pow_right (by decide) hx) (by decide))
 constructor
 ·intro h
  exact le_zero (bitN_zero _ hl (bitN_zero _ (bitN_lt _ hl) h))
 ·intro h
  have : le x = 0 := by
   have h2 := raw_zeros x.length 0
   rw [h]
   have : ∀ n, le (List.replicate n 0) = 0 := fun n => by
    induction n with
    | zero => rfl
    | succ n ih => rw [List.replicate_succ, le, ih]; rfl
   exact this _
  rw [this, bitN_nought, bitN_nought]
theorem xor_eq_zero {a b : Nat} : a ^^^ b = 0 ↔ a = b := by
 constructor
 ·intro h
  have := congrArg (fun x => x ^^^ b) h
  simpa [Nat.xor_assoc] using this
 ·rintro rfl; exact Nat.xor_self _
theorem crc_same {xs ys : List UInt8} (h : xs.length = ys.length) : crcSum xs = crcSum ys ↔ raw 0 (xorL xs ys) = 0 := by
 have h1 := raw_xor xs ys crcM crcM h
 rw [Nat.xor_self] at h1
 rw [h1, xor_eq_zero]
 unfold crcSum crcAdd
 simp only [Nat.zero_xor]
 constructor
 ·intro h
  have := congrArg (fun x => x ^^^ crcM) h
  simpa [Nat.xor_assoc] using this
 ·intro h; rw [h]
end
section
def patch (xs : List UInt8) (p : Nat) (zs : List UInt8) : Nat → List UInt8
 | 0 => xs
 | k + 1 => (patch xs p zs k).set (p + k) ((patch xs p zs k).getD (p + k) 0 ^^^ zs.getD k 0)
theorem patch_len (xs : List UInt8) (p : Nat) (zs : List UInt8) : ∀ k, (patch xs p zs k).length = xs.length
 | 0 => rfl
 | k + 1 => by rw [patch, List.length_set, patch_len xs p zs k]
theorem getD_set {l : List UInt8} {i j : Nat} {v : UInt8} (h : i < l.length) : (l.set i v).getD j 0 = if i = j then v else l.getD j 0 := by
 simp only [List.getD, List.getElem?_set]
 split
 ·rename_i e; subst e; simp
 ·rfl
theorem patch_getD (xs : List UInt8) (p : Nat) (zs : List UInt8) : ∀ k j, p + k ≤ xs.length → (patch xs p zs k).getD j 0 = if p ≤ j ∧ j < p + k then xs.getD j 0 ^^^ zs.getD (j - p) 0 else xs.getD j 0
 | 0, j, _ => by rw [if_neg (by omega)]; rfl
 | k + 1, j, h => by
  rw [patch, getD_set (by rw [patch_len]; omega), patch_getD xs p zs k _ (by omega), patch_getD xs p zs k _ (by omega)]
  by_cases e : p + k = j
  ·subst e
   rw [if_pos rfl, if_neg (by omega), if_pos (by omega), Nat.add_sub_cancel_left]
  ·rw [if_neg e]
   by_cases h1 : p ≤ j ∧ j < p + k
   ·rw [if_pos h1, if_pos (by omega)]
   ·rw [if_neg h1, if_neg (by omega)]
theorem xorL_getD : ∀ (xs ys : List UInt8) (j : Nat), xs.length = ys.length → (xorL xs ys).getD j 0 = xs.getD j 0 ^^^ ys.getD j 0
 | [], [], j, _ => by simp [xorL]
 | [], _ :: _, _, h => by simp at h
 | _ :: _, [], _, h => by simp at h
 | x :: xs, y :: ys, 0, _ => by simp [xorL]
 | x :: xs, y :: ys, j + 1, h => by
  simp only [xorL, List.getD_cons_succ]
  exact xorL_getD xs ys j (by simpa using h)
theorem ext_getD {a b : List UInt8} (hl : a.length = b.length) (h : ∀ j, j < a.length → a.getD j 0 = b.getD j 0) : a = b := by
 refine List.ext_getElem hl fun j h1 h2 => ?_
 have := h j h1
 simpa [List.getD, h1, h2] using this
theorem patch_xor (xs : List UInt8) (p : Nat) (zs : List UInt8) (h : p + zs.length ≤ xs.length) :
  xorL xs (patch xs p zs zs.length) = List.replicate p 0 ++ zs ++ List.replicate (xs.length - p - zs.length) 0 := by
 have hl : xs.length = (patch xs p zs zs.length).length := (patch_len xs p zs _).symm
 refine ext_getD (by rw [xorL_len, ← hl]; simp; omega) fun j hj => ?_
 rw [xorL_getD _ _ _ hl, patch_getD _ _ _ _ _ h]
 have e : ∀ x y : UInt8, x ^^^ (x ^^^ y) = y := fun x y => by rw [← UInt8.xor_assoc, UInt8.xor_self, UInt8.zero_xor]
 by_cases h1 : p ≤ j ∧ j < p + zs.length
 ·rw [if_pos h1, e]
  simp only [List.getD]
  rw [List.append_assoc, List.getElem?_append_right (by simp; omega), List.getElem?_append_left (by simp; omega), List.length_replicate]
 ·rw [if_neg h1, UInt8.xor_self]
  rw [xorL_len, ← hl] at hj
  simp only [List.getD]
  by_cases h2 : j < p
  ·rw [List.append_assoc, List.getElem?_append_left (by simp; omega)]
   simp [h2]
  ·rw [List.getElem?_append_right (by simp; omega)]
   simp only [List.getElem?_replicate, List.length_append, List.length_replicate]
   split <;> rfl
theorem patch_sum {xs : List UInt8} {p : Nat} {zs : List UInt8} (h : p + zs.length ≤ xs.length) (h4 : zs.length ≤ 4) :
  crcSum xs = crcSum (patch xs p zs zs.length) ↔ zs = List.replicate zs.length 0 := by
 rw [crc_same (patch_len xs p zs _).symm, patch_xor xs p zs h, raw_four h4]
theorem enc_zeros (x : Nat) (hx : x < 4294967296) : enc x 4 = List.replicate (enc x 4).length 0 ↔ x = 0 := by
 constructor
 ·intro h
  have e := num_enc x 4
  rw [h, enc_len] at e
  have z : num (List.replicate 4 0) = 0 := by decide
  rw [z] at e
  have e2 : x % 4294967296 = 0 := e.symm
  omega
 ·rintro rfl
  decide
theorem tells {xs : List UInt8} {p over : Nat} (h : p + 4 ≤ xs.length) (ho : over < 4294967296) :
  crcSum xs = crcSum (patch xs p (enc over 4) 4) ↔ over = 0 := by
 have := patch_sum (xs := xs) (p := p) (zs := enc over 4) (by rw [enc_len]; exact h) (by rw [enc_len]; decide)
 rw [enc_zeros over ho, enc_len] at this
 exact this
end
section
open Go.RowKit
theorem bitN_snoc (j c : Nat) : bitN (j + 1) c = bit1 (bitN j c) := bitN_add j 1 c
theorem raw_snoc {bs : List UInt8} {k : Nat} (h : k < bs.length) (c : Nat) : raw c (bs.take (k + 1)) = bitN 8 (raw c (bs.take k) ^^^ nth bs k) := by
 rw [take_snoc_b h, raw_append, raw_cons, raw_nil, nth_of_lt h]; rfl
theorem crcSum_lt (bs : List UInt8) : crcSum bs < 4294967296 := by
 unfold crcSum
 exact crcAdd_lt bs (by decide)
theorem xor_byte {y b : Nat} (hy : y < 4294967296) (hb : b < 256) : bits .xor .u32 (y : Int) ((b : Int) % 4294967296) = ((y ^^^ b : Nat) : Int) := by
 rw [show (b : Int) % 4294967296 = (b : Int) from by omega]
 exact u32_xor_nat _ _ hy (by omega)
theorem half (q : Nat) (h : q < 4294967296) : (q : Int) / 2 % 4294967296 = (q : Int) / 2 := by omega
theorem xor_ones {y : Nat} (hy : y < 4294967296) : bits .xor .u32 (y : Int) 4294967295 = ((y ^^^ crcM : Nat) : Int) := u32_xor_nat y 4294967295 hy (by decide)
theorem xor_poly {y : Nat} (hy : y < 4294967296) : bits .xor .u32 ((y : Int) / 2) 3988292384 = ((y / 2 ^^^ 3988292384 : Nat) : Int) := u32_xor_nat (y / 2) 3988292384 (by omega) (by decide)
def CrcRel (n c : Nat) (bs : List UInt8) (x i : Value) : Prop :=
 ∃ k : Nat, k ≤ n ∧ i = .int .i64 (k : Int) ∧ x = .int .u32 ((raw c (bs.take k) : Nat) : Int)
def BitRel (y : Nat) (x i : Value) : Prop :=
 ∃ j : Nat, j ≤ 8 ∧ i = .int .i64 (j : Int) ∧ x = .int .u32 ((bitN j y : Nat) : Int)
theorem refAdd (A : Option Addr) (n c B x : Nat) (bs : List UInt8) (w : World) (ha : Rd w B A n bs) (hn : n ≤ 140737488355328) (hx : x < 4294967296) :
  Calls Tryz.prog 121 #[.int .u32 (x : Int), .slice A n c] w fun e w' => e = .returned (.int .u32 (crcAdd x bs : Int)) ∧ w = w' := by
 have HA := qH ha
 clear ha
 have hones := xor_ones hx
 have HM : Hid (x ^^^ crcM < 4294967296) := Nat.xor_lt_two_pow (n := 32) hx (by decide)
 have HE : Hid (crcAdd x bs = raw (x ^^^ crcM) bs ^^^ crcM) := rfl
 go_enter Tryz.func121, Tryz.ntmps121
 go_wp2
 clear hones
 generalize x ^^^ crcM = x0 at *
 go_loop [0, 5, 6] (fun x i _ => CrcRel n x0 bs x i) (fun _ i _ => n - (intOf i).toNat)
 case atStart => exact ⟨0, Nat.zero_le _, rfl, rfl⟩
 case round =>
  obtain ⟨k, hk, rfl, rfl⟩ := hrel
  by_cases hlt : k < n
  ·obtain ⟨b, o, rfl, hbo, hc⟩ := HA.out.2 (by omega)
   have hcell : w.cell? ⟨b, o + k, none⟩ = some (.int .u8 (nth bs k : Int)) := hc k (by omega)
   clear hc
   have HS := qH (raw_snoc (bs := bs) (k := k) (by rw [HA.out.1]; exact hlt) x0)
   have HY : Hid (raw x0 (bs.take k) < 4294967296) := raw_lt _ HM.out
   have hxb := xor_byte HY.out (nth_lt bs k)
   have HZ : Hid (raw x0 (bs.take k) ^^^ nth bs k < 4294967296) := Nat.xor_lt_two_pow (n := 32) HY.out (by have := nth_lt bs k; omega)
   generalize raw x0 (bs.take k) ^^^ nth bs k = z at *
   generalize raw x0 (bs.take k) = y at *
   go_wp2
   clear hxb hcell
   go_loop [0, 6] (fun x i => BitRel z x i) (fun _ i => 8 - (intOf i).toNat)
   case atStart => exact ⟨0, Nat.zero_le _, rfl, rfl⟩
   case round =>
    obtain ⟨j, hj, rfl, rfl⟩ := hrel
    by_cases hlt2 : j < 8
    ·have HT := qH (bitN_snoc j z)
     have HQ : Hid (bitN j z < 4294967296) := bitN_lt j HZ.out
     generalize bitN j z = q at *
     have hpoly := xor_poly HQ.out
     have hhalf := half q HQ.out
     by_cases hodd : q % 2 = 1
     ·have ho : ((q : Int) % 2 == 1) = true := by simp; omega
      go_wp2
      go_round
      case rel => exact ⟨j + 1, by omega, by go_num, by rw [HT.out, bit1, if_pos hodd]⟩
      case measure => simp [intOf]; omega
     ·have ho : ((q : Int) % 2 == 1) = false := by simp; omega
      go_wp2
      go_round
      case rel => exact ⟨j + 1, by omega, by go_num, by rw [HT.out, bit1, if_neg hodd]; first | rfl | simp⟩
      case measure => simp [intOf]; omega
    ·obtain rfl : j = 8 := by omega
     go_wp2
     go_round
     case rel => exact ⟨k + 1, by omega, by go_num, by rw [HS.out]⟩
     case measure => simp [intOf]; omega
  ·obtain rfl : k = n := by omega
   rw [List.take_of_length_le (by rw [HA.out.1]; exact Nat.le_refl _)]
   have HY : Hid (raw x0 bs < 4294967296) := raw_lt _ HM.out
   generalize raw x0 bs = y at *
   have hones := xor_ones HY.out
   go_wp2
   go_ret
   exact ⟨by rw [HE.out]; rfl, rfl⟩
theorem refSum (A : Option Addr) (n c B : Nat) (bs : List UInt8) (w : World) (ha : Rd w B A n bs) (hn : n ≤ 140737488355328) :
  Calls Tryz.prog 99 #[.slice A n c] w fun e w' => e = .returned (.int .u32 (crcSum bs : Int)) ∧ w = w' := by
 have HA := qH ha
 clear ha
 go_enter Tryz.func99, Tryz.ntmps99
 go_wp2_with fail
 refine (refAdd A n c B 0 bs _ HA.out hn (by decide)).mono ?_
 rintro e w' ⟨rfl, rfl⟩
 go_wp2
 go_ret
 exact ⟨rfl, rfl⟩
theorem refCrcPut (A : Option Addr) (n c : Nat) (bs : List UInt8) (w : World) (ha : Rd w w.heap.size A n bs) (hn : n ≤ 140737488350000) :
  Calls Tryz.prog 81 #[.slice A n c] w fun e w' => RetB 5 w (bs ++ enc (crcSum bs) 4) e w' := by
 have HA := qH ha
 clear ha
 have HL : Hid (crcSum bs < 4294967296) := crcSum_lt bs
 go_enter Tryz.func81, Tryz.ntmps81
 go_wp2_with fail
 refine (refSum A n c _ bs w HA.out (by omega)).mono ?_
 rintro e w' ⟨rfl, rfl⟩
 generalize hs : crcSum bs = s at *
 have HS := qH hs
 clear hs
 have hl : s < 18446744073709551616 := by have := HL.out; omega
 have hw : (s : Int) % 18446744073709551616 = (s : Int) := by omega
 go_wp2_with fail
 refine (refPut s 4 w hl (by decide)).mono ?_
 rintro e w1 ⟨A1, n1, c1, rfl, hown, hbel⟩
 have H1 := qH (HA.out.to hbel)
 have H2 := qH (Rd.of_own hown)
 obtain rfl : n1 = 4 := by rw [← H2.out.1, enc_len]
 clear hown hw hl
 go_wp2_with fail
 refine (refCat A A1 n 4 c c1 bs _ w1 H1.out H2.out (by omega)).mono ?_
 rintro e w2 ⟨A2, n2, c2, rfl, hown2, hbel2⟩
 have hsz := hbel.size
 go_wp2
 go_ret
 rw [HS.out]
 exact RetB.mk (own_mono hown2 hsz) (hbel.trans (hbel2.mono hsz))
def chkOk (bs : List UInt8) : Bool := decide (4 ≤ bs.length ∧ bs.take (bs.length - 4) ++ enc (crcSum (bs.take (bs.length - 4))) 4 = bs)
def chkOf (bs : List UInt8) : List UInt8 := if chkOk bs then bs.take (bs.length - 4) else []
def RetChk (T : TypeId) (w : World) (bs : List UInt8) (ok : Bool) (e : Ending) (w' : World) : Prop :=
 ∃ A n c, e = .returned (.tuple #[.slice A n c, .bool ok]) ∧ w'.ownsRow w.heap.size T 1 (.slice A n c) n (bs.map bval) ∧ Below w.heap.size w w'
theorem RetChk.mk {T : TypeId} {w w' : World} {bs : List UInt8} {v : Value} {n : Nat} {ok : Bool} (h : w'.ownsRow w.heap.size T 1 v n (bs.map bval)) (hb : Below w.heap.size w w') : RetChk T w bs ok (.returned (.tuple #[v, .bool ok])) w' := by
 obtain ⟨A, c, rfl⟩ := own_slice h
 exact ⟨A, n, c, rfl, h, hb⟩
end
end Go.Proofs.YtffdjnhhmfpkgaaGreat