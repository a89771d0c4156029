/- Plain mathematics of big-endian numbers: num (the number of a row), enc (the n-byte row of a number), and how the order of rows of one length is that of their numbers. No program. -/
import Derived.Test.YtopilgedcnbdaaaDoorTz
import Derived.Test.YtopilgedcnbdaaaDoorBase
import Derived.Laws.BitsAllLaws
namespace Go.Proofs.YtopilgedcnbdaaaDoor
set_option maxRecDepth 1000000
set_option maxHeartbeats 8000000
def num : List UInt8 → Nat
 | [] => 0
 | b :: bs => b.toNat * 256 ^ bs.length + num bs
def enc (x : Nat) : Nat → List UInt8
 | 0 => []
 | k + 1 => UInt8.ofNat (x / 256 ^ k) :: enc x k
theorem enc_len (x n : Nat) : (enc x n).length = n := by
 induction n with
 | zero => rfl
 | succ n ih => simp [enc, ih]
theorem num_lt : ∀ bs : List UInt8, num bs < 256 ^ bs.length
 | [] => by simp [num]
 | b :: bs => by
  have h := num_lt bs
  have hb := b.toNat_lt
  simp only [num, List.length_cons, Nat.pow_succ]
  have : b.toNat * 256 ^ bs.length + 256 ^ bs.length ≤ 256 * 256 ^ bs.length := by
   rw [← Nat.succ_mul]; exact Nat.mul_le_mul_right _ (by omega)
  omega
theorem num_snoc : ∀ (bs : List UInt8) (b : UInt8), num (bs ++ [b]) = num bs * 256 + b.toNat
 | [], b => by simp [num]
 | a :: bs, b => by
  simp only [List.cons_append, num, num_snoc bs b, List.length_append, List.length_cons, List.length_nil, Nat.pow_succ, Nat.add_mul, Nat.zero_add, Nat.mul_assoc]
  omega
theorem num_enc (x : Nat) : ∀ n, num (enc x n) = x % 256 ^ n
 | 0 => by simp [enc, num, Nat.mod_one]
 | n + 1 => by
  have h := Nat.mod_mul (x := x) (a := 256 ^ n) (b := 256)
  have e : (UInt8.ofNat (x / 256 ^ n)).toNat = x / 256 ^ n % 256 := UInt8.toNat_ofNat'
  simp only [enc, num, enc_len, num_enc x n, e]
  rw [Nat.pow_succ, h, Nat.mul_comm (256 ^ n)]
  omega
theorem num_inj : ∀ {a b : List UInt8}, a.length = b.length → num a = num b → a = b
 | [], [], _, _ => rfl
 | [], _ :: _, h, _ => by simp at h
 | _ :: _, [], h, _ => by simp at h
 | a :: xs, b :: ys, h, hn => by
  have hl : xs.length = ys.length := by simpa using h
  simp only [num, hl] at hn
  have h1 := num_lt xs
  have h2 := num_lt ys
  rw [hl] at h1
  have hab : a.toNat = b.toNat := by
   rcases Nat.lt_trichotomy a.toNat b.toNat with g | g | g
   ·have := Nat.mul_le_mul_right (256 ^ ys.length) (show a.toNat + 1 ≤ b.toNat from g)
    rw [Nat.add_mul] at this; omega
   ·exact g
   ·have := Nat.mul_le_mul_right (256 ^ ys.length) (show b.toNat + 1 ≤ a.toNat from g)
    rw [Nat.add_mul] at this; omega
  rw [hab] at hn
  rw [UInt8.toNat_inj.1 hab, num_inj hl (by omega)]
theorem enc_num (bs : List UInt8) : enc (num bs) bs.length = bs :=
 num_inj (enc_len _ _) (by rw [num_enc, Nat.mod_eq_of_lt (num_lt bs)])
theorem ord_num : ∀ {a b : List UInt8}, a.length = b.length → (ord a b < 0 ↔ num a < num b)
 | [], [], _ => by simp [ord, num]
 | [], _ :: _, h => by simp at h
 | _ :: _, [], h => by simp at h
 | a :: xs, b :: ys, h => by
  have hl : xs.length = ys.length := by simpa using h
  have h1 := num_lt xs
  have h2 := num_lt ys
  rw [hl] at h1
  simp only [num, hl, ord, UInt8.lt_iff_toNat_lt]
  rcases Nat.lt_trichotomy a.toNat b.toNat with g | g | g
  ·have := Nat.mul_le_mul_right (256 ^ ys.length) (show a.toNat + 1 ≤ b.toNat from g)
   rw [Nat.add_mul] at this
   simp [g]; omega
  ·simp only [g, Nat.lt_irrefl, if_false, ord_num hl]; omega
  ·have := Nat.mul_le_mul_right (256 ^ ys.length) (show b.toNat + 1 ≤ a.toNat from g)
   rw [Nat.add_mul] at this
   have g' : ¬ a.toNat < b.toNat := by omega
   simp [g, g']; omega
theorem ord_range : ∀ a b : List UInt8, ord a b = -1 ∨ ord a b = 0 ∨ ord a b = 1
 | [], [] => by simp [ord]
 | [], _ :: _ => by simp [ord]
 | _ :: _, [] => by simp [ord]
 | a :: xs, b :: ys => by
  unfold ord
  have := ord_range xs ys
  split
  ·simp
  ·split
   ·simp
   ·exact this
theorem ord_swap : ∀ a b : List UInt8, ord b a = - ord a b
 | [], [] => by simp [ord]
 | [], _ :: _ => by simp [ord]
 | _ :: _, [] => by simp [ord]
 | a :: xs, b :: ys => by
  unfold ord
  have := ord_swap xs ys
  by_cases h1 : a < b
  ·have h2 : ¬ b < a := UInt8.lt_asymm h1
   simp [h1, h2]
  ·by_cases h2 : b < a
   ·simp [h1, h2]
   ·simp [h1, h2, this]
theorem ord_trans : ∀ a b c : List UInt8, ord a b < 0 → ord b c < 0 → ord a c < 0
 | _, [], [], _, h => by simp [ord] at h
 | _ :: _, [], _ :: _, h, _ => by simp [ord] at h
 | [], [], _ :: _, h, _ => by simp [ord] at h
 | _, _ :: _, [], _, h => by simp [ord] at h
 | [], _ :: _, _ :: _, _, _ => by simp [ord]
 | a :: xs, b :: ys, c :: zs, h1, h2 => by
  have ih := ord_trans xs ys zs
  simp only [ord, UInt8.lt_iff_toNat_lt] at h1 h2 ⊢
  by_cases p1 : a.toNat < b.toNat
  ·by_cases p2 : b.toNat < c.toNat
   ·rw [if_pos (by omega)]; decide
   ·rw [if_neg p2] at h2
    by_cases p3 : c.toNat < b.toNat
    ·rw [if_pos p3] at h2; simp at h2
    ·rw [if_pos (by omega)]; decide
  ·rw [if_neg p1] at h1
   by_cases p3 : b.toNat < a.toNat
   ·rw [if_pos p3] at h1; simp at h1
   ·rw [if_neg p3] at h1
    by_cases p2 : b.toNat < c.toNat
    ·rw [if_pos (by omega)]; decide
    ·rw [if_neg p2] at h2
     by_cases p4 : c.toNat < b.toNat
     ·rw [if_pos p4] at h2; simp at h2
     ·rw [if_neg p4] at h2
      rw [if_neg (by omega), if_neg (by omega)]
      exact ih h1 h2
theorem num_drop {bs : List UInt8} {k : Nat} (h : k < bs.length) : num (bs.drop k) = nth bs k * 256 ^ (bs.length - k - 1) + num (bs.drop (k + 1)) := by
 rw [List.drop_eq_getElem_cons h]
 simp only [num, nth_of_lt h, List.length_drop]
 rfl
theorem num_take {bs : List UInt8} {k : Nat} (h : k < bs.length) : num (bs.take (k + 1)) = num (bs.take k) * 256 + nth bs k := by
 rw [take_snoc_b h, num_snoc, nth_of_lt h]
theorem wrap_step (x u b : Nat) (hb : b < 256) :
  IntKind.u64.wrap ((x : Int) + IntKind.u64.wrap ((u : Int) * IntKind.u64.wrap (b : Int))) = (((x + u * b) % 18446744073709551616 : Nat) : Int) := by
 simp only [IntKind.wrap_u64]
 rw [show ((b : Int) % 18446744073709551616) = b from by omega, ← Int.natCast_mul]
 omega
theorem wrap_unit (u : Nat) : IntKind.u64.wrap ((u : Int) * 256) = ((u * 256 % 18446744073709551616 : Nat) : Int) := by
 simp only [IntKind.wrap_u64]
 omega
theorem pow_le8 {n : Nat} (h : n ≤ 8) : 256 ^ n ≤ 18446744073709551616 := Nat.le_trans (Nat.pow_le_pow_right (by decide) h) (by decide)
theorem num_lt8 {bs : List UInt8} (h : bs.length ≤ 8) : num bs < 18446744073709551616 := Nat.lt_of_lt_of_le (num_lt bs) (pow_le8 h)
theorem num_step {bs : List UInt8} {n i j : Nat} (hl : bs.length = n) (h8 : n ≤ 8) (hi : i = n - 1 - j) (hj : j < n) :
  (num (bs.drop (n - j)) + 256 ^ j % 18446744073709551616 * nth bs i) % 18446744073709551616 = num (bs.drop (n - (j + 1))) := by
 have e : n - (j + 1) = i := by omega
 have e2 : n - j = i + 1 := by omega
 have e3 : bs.length - i - 1 = j := by omega
 have h := num_drop (bs := bs) (k := i) (by omega)
 rw [e3] at h
 have hlt : num (bs.drop i) < 18446744073709551616 := num_lt8 (by simp; omega)
 rw [e, e2, h, Nat.add_mod, Nat.mod_mul_mod, ← Nat.add_mod, Nat.mul_comm (256 ^ j), Nat.add_comm]
 rw [h] at hlt
 exact Nat.mod_eq_of_lt hlt
theorem or_step (x b : Nat) (hx : x < 72057594037927936) (hb : b < 256) :
  bits BinOp.or IntKind.u64 (IntKind.u64.wrap ((x : Int) * 256)) (IntKind.u64.wrap (b : Int)) = ((x * 256 + b : Nat) : Int) := by
 rw [show IntKind.u64.wrap ((x : Int) * 256) = ((x * 256 : Nat) : Int) from by simp only [IntKind.wrap_u64]; omega,
  show IntKind.u64.wrap (b : Int) = (b : Int) from by simp only [IntKind.wrap_u64]; omega,
  u64_or_nat _ _ (by omega) (by omega), nat_join 8 _ _ (by omega) (by omega)]
theorem num_take_lt {bs : List UInt8} {n k : Nat} (hl : bs.length = n) (h8 : n ≤ 8) (hk : k < n) : num (bs.take k) < 72057594037927936 := by
 refine Nat.lt_of_lt_of_le (num_lt _) (Nat.le_trans (Nat.pow_le_pow_right (by decide) (show (bs.take k).length ≤ 7 by simp; omega)) (by decide))
theorem row_step {n k : Nat} (x : Nat) (hk : k < n) :
  (List.replicate (n - k) (0 : UInt8) ++ enc x k).set (n - 1 - k) (UInt8.ofNat (x / 256 ^ k)) = List.replicate (n - (k + 1)) 0 ++ enc x (k + 1) := by
 have e : n - k = (n - (k + 1)) + 1 := by omega
 have e2 : n - 1 - k = n - (k + 1) := by omega
 rw [e, e2, List.replicate_succ', List.append_assoc, List.set_append_right _ _ (by simp)]
 simp [enc]
theorem shr_byte (x k : Nat) : ((x : Int) / 2 ^ (8 * k) % 256) = ((UInt8.ofNat (x / 256 ^ k)).toNat : Int) := by
 rw [← u8_mod, Int.pow_mul, show ((2 : Int) ^ 8) = ((256 : Nat) : Int) from by decide, ← Int.natCast_pow, ← Int.natCast_ediv]
theorem enc_mod32 (x : Nat) : enc (x % 4294967296) 4 = enc x 4 :=
 num_inj (by rw [enc_len, enc_len]) (by rw [num_enc, num_enc]; omega)
end Go.Proofs.YtopilgedcnbdaaaDoor