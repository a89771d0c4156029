/- Several texts in one (a claim has 60 files at most): Num, RefA, RefB, Bytes, Kit. -/
import Derived.Test.YtffdjnhhmfpkgaaGreatTz
import Derived.Test.YtffdjnhhmfpkgaaGreatBase
import Derived.Laws.BitsAllLaws
import Derived.Test.YtffdjnhhmfpkgaaGreatChecked
import Derived.Laws.BytesArg
import Derived.Laws.BytesString
import Derived.Lib.BytesEntry
import Derived.Lib.Bytealg
import Derived.Deep.WholeRow
namespace Go.Proofs.YtffdjnhhmfpkgaaGreat
set_option maxRecDepth 1000000
set_option maxHeartbeats 8000000
set_option linter.unusedVariables false
set_option linter.unusedSimpArgs false
section
def num : List UInt8 → Nat
 | [] => 0
 | b :: bs => b.toNat * 256 ^ bs.length + num bs
def enc (x : Nat) : Nat → List UInt8
 | 0 => []
 | k + 1 => UInt8.ofNat (x / 256 ^ k) :: enc x k
theorem enc_len (x n : Nat) : (enc x n).length = n := by
 induction n with
 | zero => rfl
 | succ n ih => simp [enc, ih]
theorem num_lt : ∀ bs : List UInt8, num bs < 256 ^ bs.length
 | [] => by simp [num]
 | b :: bs => by
  have h := num_lt bs
  have hb := b.toNat_lt
  simp only [num, List.length_cons, Nat.pow_succ]
  have : b.toNat * 256 ^ bs.length + 256 ^ bs.length ≤ 256 * 256 ^ bs.length := by
   rw [← Nat.succ_mul]; exact Nat.mul_le_mul_right _ (by omega)
  omega
theorem num_snoc : ∀ (bs : List UInt8) (b : UInt8), num (bs ++ [b]) = num bs * 256 + b.toNat
 | [], b => by simp [num]
 | a :: bs, b => by
  simp only [List.cons_append, num, num_snoc bs b, List.length_append, List.length_cons, List.length_nil, Nat.pow_succ, Nat.add_mul, Nat.zero_add, Nat.mul_assoc]
  omega
theorem num_enc (x : Nat) : ∀ n, num (enc x n) = x % 256 ^ n
 | 0 => by simp [enc, num, Nat.mod_one]
 | n + 1 => by
  have h := Nat.mod_mul (x := x) (a := 256 ^ n) (b := 256)
  have e : (UInt8.ofNat (x / 256 ^ n)).toNat = x / 256 ^ n % 256 := UInt8.toNat_ofNat'
  simp only [enc, num, enc_len, num_enc x n, e]
  rw [Nat.pow_succ, h, Nat.mul_comm (256 ^ n)]
  omega
theorem num_inj : ∀ {a b : List UInt8}, a.length = b.length → num a = num b → a = b
 | [], [], _, _ => rfl
 | [], _ :: _, h, _ => by simp at h
 | _ :: _, [], h, _ => by simp at h
 | a :: xs, b :: ys, h, hn => by
  have hl : xs.length = ys.length := by simpa using h
  simp only [num, hl] at hn
  have h1 := num_lt xs
  have h2 := num_lt ys
  rw [hl] at h1
  have hab : a.toNat = b.toNat := by
   rcases Nat.lt_trichotomy a.toNat b.toNat with g | g | g
   ·have := Nat.mul_le_mul_right (256 ^ ys.length) (show a.toNat + 1 ≤ b.toNat from g)
    rw [Nat.add_mul] at this; omega
   ·exact g
   ·have := Nat.mul_le_mul_right (256 ^ ys.length) (show b.toNat + 1 ≤ a.toNat from g)
    rw [Nat.add_mul] at this; omega
  rw [hab] at hn
  rw [UInt8.toNat_inj.1 hab, num_inj hl (by omega)]
theorem enc_num (bs : List UInt8) : enc (num bs) bs.length = bs :=
 num_inj (enc_len _ _) (by rw [num_enc, Nat.mod_eq_of_lt (num_lt bs)])
theorem ord_num : ∀ {a b : List UInt8}, a.length = b.length → (ord a b < 0 ↔ num a < num b)
 | [], [], _ => by simp [ord, num]
 | [], _ :: _, h => by simp at h
 | _ :: _, [], h => by simp at h
 | a :: xs, b :: ys, h => by
  have hl : xs.length = ys.length := by simpa using h
  have h1 := num_lt xs
  have h2 := num_lt ys
  rw [hl] at h1
  simp only [num, hl, ord, UInt8.lt_iff_toNat_lt]
  rcases Nat.lt_trichotomy a.toNat b.toNat with g | g | g
  ·have := Nat.mul_le_mul_right (256 ^ ys.length) (show a.toNat + 1 ≤ b.toNat from g)
   rw [Nat.add_mul] at this
   simp [g]; omega
  ·simp only [g, Nat.lt_irrefl, if_false, ord_num hl]; omega
  ·have := Nat.mul_le_mul_right (256 ^ ys.length) (show b.toNat + 1 ≤ a.toNat from g)
   rw [Nat.add_mul] at this
   have g' : ¬ a.toNat < b.toNat := by omega
   simp [g, g']; omega
theorem ord_range : ∀ a b : List UInt8, ord a b = -1 ∨ ord a b = 0 ∨ ord a b = 1
 | [], [] => by simp [ord]
 | [], _ :: _ => by simp [ord]
 | _ :: _, [] => by simp [ord]
 | a :: xs, b :: ys => by
  unfold ord
  have := ord_range xs ys
  split
  ·simp
  ·split
   ·simp
   ·exact this
theorem ord_swap : ∀ a b : List UInt8, ord b a = - ord a b
 | [], [] => by simp [ord]
 | [], _ :: _ => by simp [ord]
 | _ :: _, [] => by simp [ord]
 | a :: xs, b :: ys => by
  unfold ord
  have := ord_swap xs ys
  by_cases h1 : a < b
  ·have h2 : ¬ b < a := UInt8.lt_asymm h1
   simp [h1, h2]
  ·by_cases h2 : b < a
   ·simp [h1, h2]
   ·simp [h1, h2, this]
theorem ord_trans : ∀ a b c : List UInt8, ord a b < 0 → ord b c < 0 → ord a c < 0
 | _, [], [], _, h => by simp [ord] at h
 | _ :: _, [], _ :: _, h, _ => by simp [ord] at h
 | [], [], _ :: _, h, _ => by simp [ord] at h
 | _, _ :: _, [], _, h => by simp [ord] at h
 | [], _ :: _, _ :: _, _, _ => by simp [ord]
 | a :: xs, b :: ys, c :: zs, h1, h2 => by
  have ih := ord_trans xs ys zs
  simp only [ord, UInt8.lt_iff_toNat_lt] at h1 h2 ⊢
  by_cases p1 : a.toNat < b.toNat
  ·by_cases p2 : b.toNat < c.toNat
   ·rw [if_pos (by omega)]; decide
   ·rw [if_neg p2] at h2
    by_cases p3 : c.toNat < b.toNat
    ·rw [if_pos p3] at h2; simp at h2
    ·rw [if_pos (by omega)]; decide
  ·rw [if_neg p1] at h1
   by_cases p3 : b.toNat < a.toNat
   ·rw [if_pos p3] at h1; simp at h1
   ·rw [if_neg p3] at h1
    by_cases p2 : b.toNat < c.toNat
    ·rw [if_pos (by omega)]; decide
    ·rw [if_neg p2] at h2
     by_cases p4 : c.toNat < b.toNat
     ·rw [if_pos p4] at h2; simp at h2
     ·rw [if_neg p4] at h2
      rw [if_neg (by omega), if_neg (by omega)]
      exact ih h1 h2
theorem num_drop {bs : List UInt8} {k : Nat} (h : k < bs.length) : num (bs.drop k) = nth bs k * 256 ^ (bs.length - k - 1) + num (bs.drop (k + 1)) := by
 rw [List.drop_eq_getElem_cons h]
 simp only [num, nth_of_lt h, List.length_drop]
 rfl
theorem num_take {bs : List UInt8} {k : Nat} (h : k < bs.length) : num (bs.take (k + 1)) = num (bs.take k) * 256 + nth bs k := by
 rw [take_snoc_b h, num_snoc, nth_of_lt h]
theorem wrap_step (x u b : Nat) (hb : b < 256) :
  IntKind.u64.wrap ((x : Int) + IntKind.u64.wrap ((u : Int) * IntKind.u64.wrap (b : Int))) = (((x + u * b) % 18446744073709551616 : Nat) : Int) := by
 simp only [IntKind.wrap_u64]
 rw [show ((b : Int) % 18446744073709551616) = b from by omega, ← Int.natCast_mul]
 omega
theorem wrap_unit (u : Nat) : IntKind.u64.wrap ((u : Int) * 256) = ((u * 256 % 18446744073709551616 : Nat) : Int) := by
 simp only [IntKind.wrap_u64]
 omega
theorem pow_le8 {n : Nat} (h : n ≤ 8) : 256 ^ n ≤ 18446744073709551616 := Nat.le_trans (Nat.pow_le_pow_right (by decide) h) (by decide)
theorem num_lt8 {bs : List UInt8} (h : bs.length ≤ 8) : num bs < 18446744073709551616 := Nat.lt_of_lt_of_le (num_lt bs) (pow_le8 h)
theorem num_step {bs : List UInt8} {n i j : Nat} (hl : bs.length = n) (h8 : n ≤ 8) (hi : i = n - 1 - j) (hj : j < n) :
  (num (bs.drop (n - j)) + 256 ^ j % 18446744073709551616 * nth bs i) % 18446744073709551616 = num (bs.drop (n - (j + 1))) := by
 have e : n - (j + 1) = i := by omega
 have e2 : n - j = i + 1 := by omega
 have e3 : bs.length - i - 1 = j := by omega
 have h := num_drop (bs := bs) (k := i) (by omega)
 rw [e3] at h
 have hlt : num (bs.drop i) < 18446744073709551616 := num_lt8 (by simp; omega)
 rw [e, e2, h, Nat.add_mod, Nat.mod_mul_mod, ← Nat.add_mod, Nat.mul_comm (256 ^ j), Nat.add_comm]
 rw [h] at hlt
 exact Nat.mod_eq_of_lt hlt
theorem or_step (x b : Nat) (hx : x < 72057594037927936) (hb : b < 256) :
  bits BinOp.or IntKind.u64 (IntKind.u64.wrap ((x : Int) * 256)) (IntKind.u64.wrap (b : Int)) = ((x * 256 + b : Nat) : Int) := by
 rw [show IntKind.u64.wrap ((x : Int) * 256) = ((x * 256 : Nat) : Int) from by simp only [IntKind.wrap_u64]; omega,
  show IntKind.u64.wrap (b : Int) = (b : Int) from by simp only [IntKind.wrap_u64]; omega,
  u64_or_nat _ _ (by omega) (by omega), nat_join 8 _ _ (by omega) (by omega)]
theorem num_take_lt {bs : List UInt8} {n k : Nat} (hl : bs.length = n) (h8 : n ≤ 8) (hk : k < n) : num (bs.take k) < 72057594037927936 := by
 refine Nat.lt_of_lt_of_le (num_lt _) (Nat.le_trans (Nat.pow_le_pow_right (by decide) (show (bs.take k).length ≤ 7 by simp; omega)) (by decide))
theorem row_step {n k : Nat} (x : Nat) (hk : k < n) :
  (List.replicate (n - k) (0 : UInt8) ++ enc x k).set (n - 1 - k) (UInt8.ofNat (x / 256 ^ k)) = List.replicate (n - (k + 1)) 0 ++ enc x (k + 1) := by
 have e : n - k = (n - (k + 1)) + 1 := by omega
 have e2 : n - 1 - k = n - (k + 1) := by omega
 rw [e, e2, List.replicate_succ', List.append_assoc, List.set_append_right _ _ (by simp)]
 simp [enc]
theorem shr_byte (x k : Nat) : ((x : Int) / 2 ^ (8 * k) % 256) = ((UInt8.ofNat (x / 256 ^ k)).toNat : Int) := by
 rw [← u8_mod, Int.pow_mul, show ((2 : Int) ^ 8) = ((256 : Nat) : Int) from by decide, ← Int.natCast_pow, ← Int.natCast_ediv]
theorem enc_mod32 (x : Nat) : enc (x % 4294967296) 4 = enc x 4 :=
 num_inj (by rw [enc_len, enc_len]) (by rw [num_enc, num_enc]; omega)
end
section
open Go.RowKit
theorem isU8 : U8 Tryz.prog 35 5 := ⟨Tryz.underlying35, by kernel_rfl⟩
def CatRel (B n p : Nat) (w : World) (pre bs : List UInt8) (v i : Value) (wr : World) : Prop :=
 ∃ k : Nat, k ≤ n ∧ i = .int .i64 k ∧ wr.ownsRow B 5 1 v (p + k) ((pre ++ bs.take k).map bval) ∧ Below B w wr
theorem refCat (A A' : Option Addr) (n m c d : Nat) (xs ys : List UInt8) (w : World) (ha : Rd w w.heap.size A n xs) (hb : Rd w w.heap.size A' m ys) (hn : n + m ≤ 140737488355328) :
  Calls Tryz.prog 69 #[.slice A n c, .slice A' m d] w fun e w' => RetB 5 w (xs ++ ys) e w' := by
 have HA := qH ha
 have HB := qH hb
 clear ha hb
 go_enter Tryz.func69, Tryz.ntmps69
 go_wp2
 go_loopw [5, 6] (fun v i wr => CatRel w.heap.size n 0 w [] xs v i wr) (fun _ i _ => n - (intOf i).toNat)
 case atStart => exact ⟨0, Nat.zero_le _, rfl, by simpa using World.ownsRow_nil w w.heap.size 5 1, Below.refl _ _⟩
 case round =>
  obtain ⟨k, hk, rfl, hown, hbel⟩ := hrel
  have hsz := hbel.size
  by_cases hlt : k < n
  ·obtain ⟨b, o, rfl, hbo, hc⟩ := HA.out.2 (by omega)
   have hcell : wr.cell? ⟨b, o + k, none⟩ = some (.int .u8 (nth xs k : Int)) := (hbel.cell hbo).trans (hc k hlt)
   clear hc
   go_wp2_with (at_builtin; refine wpList_push isU8 rfl _ _ rfl rfl rfl hown hbel hsz (by omega) (xs.getD k 0) rfl ?_; intro v1 w1 hown1 hbel1 hsz1)
   go_roundw
   case rel => exact ⟨k + 1, by omega, by go_num, by rw [take_snoc_getD (by rw [HA.out.1]; omega), ← List.append_assoc]; exact hown1, hbel1⟩
   case measure => simp [intOf]; omega
  ·obtain rfl : k = n := by omega
   go_wp2
   go_loopw [5, 7] (fun v i wr => CatRel w.heap.size m k w xs ys v i wr) (fun _ i _ => m - (intOf i).toNat)
   case atStart => exact ⟨0, Nat.zero_le _, rfl, by simpa [← HA.out.1] using hown, hbel⟩
   case round =>
    obtain ⟨j, hj, rfl, hown, hbel⟩ := hrel
    have hsz := hbel.size
    by_cases hlt : j < m
    ·obtain ⟨b, o, rfl, hbo, hc⟩ := HB.out.2 (by omega)
     have hcell : wr.cell? ⟨b, o + j, none⟩ = some (.int .u8 (nth ys j : Int)) := (hbel.cell hbo).trans (hc j hlt)
     clear hc
     go_wp2_with (at_builtin; refine wpList_push isU8 rfl _ _ rfl rfl rfl hown hbel hsz (by omega) (ys.getD j 0) rfl ?_; intro v1 w1 hown1 hbel1 hsz1)
     go_roundw
     case rel => exact ⟨j + 1, by omega, by go_num, by rw [take_snoc_getD (by rw [HB.out.1]; omega), ← List.append_assoc]; exact hown1, hbel1⟩
     case measure => simp [intOf]; omega
    ·obtain rfl : j = m := by omega
     go_wp2
     go_ret
     exact RetB.mk (by rw [List.take_of_length_le (by rw [HB.out.1]; exact Nat.le_refl _)] at hown; exact hown) hbel
theorem refCopy (A : Option Addr) (n c : Nat) (xs : List UInt8) (w : World) (ha : Rd w w.heap.size A n xs) (hn : n ≤ 140737488355328) :
  Calls Tryz.prog 42 #[.slice A n c] w fun e w' => RetB 5 w xs e w' := by
 have HA := qH ha
 clear ha
 go_enter Tryz.func42, Tryz.ntmps42
 go_wp2_with fail
 refine (refCat none A 0 n 0 c [] xs _ (Rd.nil _ _ _) HA.out (by omega)).mono ?_
 rintro e w1 ⟨A1, n1, c1, rfl, hown, hbel⟩
 go_wp2
 go_ret
 exact RetB.mk hown hbel
def OrdRel (n m : Nat) (w : World) (xs ys : List UInt8) (i : Value) (wr : World) : Prop :=
 ∃ k : Nat, k ≤ n ∧ k ≤ m ∧ i = .int .i64 k ∧ xs.take k = ys.take k ∧ ∃ q, wr = w.drewN q
theorem refOrder (A A' : Option Addr) (n m c d B : Nat) (xs ys : List UInt8) (w : World) (ha : Rd w B A n xs) (hb : Rd w B A' m ys) (hn : n ≤ 140737488355328) (hm : m ≤ 140737488355328) :
  Calls Tryz.prog 43 #[.slice A n c, .slice A' m d] w fun e w' => RetQ w (.int .i64 (ord xs ys)) e w' := by
 have HA := qH ha
 have HB := qH hb
 clear ha hb
 go_enter Tryz.func43, Tryz.ntmps43
 go_wp2
 go_loopw [5] (fun i wr => OrdRel n m w xs ys i wr) (fun i _ => n - (intOf i).toNat)
 case atStart => exact ⟨0, Nat.zero_le _, Nat.zero_le _, rfl, rfl, 0, rfl⟩
 case round =>
  obtain ⟨k, hk, hk', rfl, htake, q, rfl⟩ := hrel
  have HT := qH htake
  clear htake
  by_cases h1 : k < n
  ·by_cases h2 : k < m
   ·obtain ⟨b, o, rfl, _, hc⟩ := HA.out.2 (by omega)
    obtain ⟨b', o', rfl, _, hc'⟩ := HB.out.2 (by omega)
    have hcell : w.cell? ⟨b, o + k, none⟩ = some (.int .u8 (nth xs k : Int)) := hc k h1
    have hcell' : w.cell? ⟨b', o' + k, none⟩ = some (.int .u8 (nth ys k : Int)) := hc' k h2
    clear hc hc'
    have e1 : k < xs.length := by rw [HA.out.1]; exact h1
    have e2 : k < ys.length := by rw [HB.out.1]; exact h2
    by_cases hl : nth xs k < nth ys k
    ·go_wp2
     go_quiet (fail)
     go_wp2
     go_ret
     exact ⟨ret_int (ord_lt e1 e2 HT.out hl).symm, drew2 _ _ _⟩
    ·by_cases hg : nth ys k < nth xs k
     ·go_wp2
      go_quiet (fail)
      go_wp2
      go_quiet (fail)
      go_wp2
      go_ret
      exact ⟨ret_int (ord_gt e1 e2 HT.out hg).symm, drew3 _ _ _ _⟩
     ·go_wp2
      go_quiet (fail)
      go_wp2
      go_quiet (fail)
      go_wp2
      go_roundw
      case rel => exact ⟨k + 1, by omega, by omega, by go_num, take_step e1 e2 HT.out hl hg, _, rfl⟩
      case measure => simp [intOf]; omega
   ·obtain rfl : k = m := by omega
    have e1 : ys.length < xs.length := by rw [HA.out.1, HB.out.1]; exact h1
    have HO : Hid (ord xs ys = 1) := ord_long e1 (by
     have := HT.out; rw [List.take_of_length_le (l := ys) (by rw [HB.out.1]; exact Nat.le_refl _)] at this; rw [HB.out.1]; exact this)
    clear e1
    go_wp2
    go_ret
    exact ⟨ret_int HO.out.symm, _, rfl⟩
  ·obtain rfl : k = n := by omega
   have HO1 : k < m → Hid (ord xs ys = -1) := fun h => ord_short (by rw [HA.out.1, HB.out.1]; exact h) (by
     have := HT.out; rw [List.take_of_length_le (l := xs) (by rw [HA.out.1]; exact Nat.le_refl _)] at this; rw [HA.out.1]; exact this)
   have HO2 : ¬ k < m → Hid (ord xs ys = 0) := fun h => ord_iff.2 (by
     have := HT.out
     rw [List.take_of_length_le (l := xs) (by rw [HA.out.1]; exact Nat.le_refl _), List.take_of_length_le (l := ys) (by rw [HB.out.1]; omega)] at this; exact this)
   by_cases h2 : k < m
   ·have HO := HO1 h2
    clear HO1 HO2
    go_wp2
    go_ret
    exact ⟨ret_int HO.out.symm, _, rfl⟩
   ·have HO := HO2 h2
    clear HO1 HO2
    go_wp2
    go_ret
    exact ⟨ret_int HO.out.symm, _, rfl⟩
theorem refSame (A A' : Option Addr) (n m c d B : Nat) (xs ys : List UInt8) (w : World) (ha : Rd w B A n xs) (hb : Rd w B A' m ys) (hn : n ≤ 140737488355328) (hm : m ≤ 140737488355328) :
  Calls Tryz.prog 20 #[.slice A n c, .slice A' m d] w fun e w' => RetQ w (.bool (decide (xs = ys))) e w' := by
 have HA := qH ha
 have HB := qH hb
 clear ha hb
 go_enter Tryz.func20, Tryz.ntmps20
 go_wp2_with fail
 refine (refOrder A A' n m c d B xs ys _ HA.out HB.out hn hm).mono ?_
 rintro e w1 ⟨rfl, q, rfl⟩
 go_wp2
 go_ret
 exact ⟨ret_bool (by rw [Bool.eq_iff_iff]; simp [ord_iff]), q, rfl⟩
theorem refSameT (A A' : Option Addr) (n m c d B : Nat) (xs ys : List UInt8) (w : World) (h : xs = ys) (ha : Rd w B A n xs) (hb : Rd w B A' m ys) (hn : n ≤ 140737488355328) (hm : m ≤ 140737488355328) :
  Calls Tryz.prog 20 #[.slice A n c, .slice A' m d] w fun e w' => RetQ w (.bool true) e w' := by
 subst h
 refine (refSame A A' n m c d B xs xs w ha hb hn hm).mono ?_
 rintro e w1 ⟨rfl, q, rfl⟩
 exact ⟨by simp, q, rfl⟩
end
section
open Go.RowKit
def PutRel (B n : Nat) (w : World) (x : Nat) (y v i : Value) (wr : World) : Prop :=
 ∃ k : Nat, k ≤ n ∧ i = .int .i64 k ∧ y = .int .u64 ((x / 256 ^ k : Nat) : Int) ∧ wr.ownsRow B 5 1 v k ((enc x k).reverse.map bval) ∧ Below B w wr
def PutRel2 (B n : Nat) (w : World) (bs : List UInt8) (v i : Value) (wr : World) : Prop :=
 ∃ j : Nat, j ≤ n ∧ i = .int .i64 ((n : Int) - 1 - j) ∧ wr.ownsRow B 5 1 v j ((bs.take j).map bval) ∧ Below B w wr
theorem refPut (x n : Nat) (w : World) (hx : x < 18446744073709551616) (hn : n ≤ 8) :
  Calls Tryz.prog 79 #[.int .u64 (x : Int), .int .i64 (n : Int)] w fun e w' => RetB 5 w (enc x n) e w' := by
 go_enter Tryz.func79, Tryz.ntmps79
 go_wp2
 go_loopw [0, 5, 6] (fun y v i wr => PutRel w.heap.size n w x y v i wr) (fun _ _ i _ => n - (intOf i).toNat)
 case atStart => exact ⟨0, Nat.zero_le _, rfl, by simp, by simpa [enc] using World.ownsRow_nil w w.heap.size 5 1, Below.refl _ _⟩
 case round =>
  obtain ⟨k, hk, rfl, rfl, hown, hbel⟩ := hrel
  have hsz := hbel.size
  by_cases hlt : k < n
  ·have hq : x / 256 ^ k ≤ x := Nat.div_le_self _ _
   generalize hy : x / 256 ^ k = y at *
   have HY := qH hy
   clear hy
   go_wp2_with (at_builtin; refine wpList_push isU8 rfl _ _ rfl rfl rfl hown hbel hsz (by omega) (UInt8.ofNat y) (u8_mod y) ?_; intro v1 w1 hown1 hbel1 hsz1)
   go_roundw
   case rel => exact ⟨k + 1, by omega, by go_num, by rw [Nat.pow_succ, ← Nat.div_div_eq_div_mul, HY.out]; go_num, by simp only [enc, List.reverse_cons, HY.out]; exact hown1, hbel1⟩
   case measure => simp [intOf]; omega
  ·obtain rfl : k = n := by omega
   generalize hy : x / 256 ^ k = y at *
   clear hy
   obtain ⟨A, c, rfl⟩ := own_slice hown
   have HR := qH (Rd.of_own hown)
   clear hown
   obtain ⟨wo, rfl⟩ : ∃ wo : World, wo = wr := ⟨_, rfl⟩
   go_wp2
   go_loopw [7, 8] (fun v i wr => PutRel2 wo.heap.size k wo (enc x k) v i wr) (fun _ i _ => (intOf i + 1).toNat)
   case atStart => exact ⟨0, Nat.zero_le _, by go_num, by simpa using World.ownsRow_nil wo wo.heap.size 5 1, Below.refl _ _⟩
   case round =>
    obtain ⟨j, hj, rfl, hown, hbel2⟩ := hrel
    have hsz2 := hbel2.size
    by_cases hlt : j < k
    ·obtain ⟨i, hi⟩ : ∃ i, i = k - 1 - j := ⟨_, rfl⟩
     obtain ⟨b, o, rfl, hbo, hc⟩ := HR.out.2 (by omega)
     have hcell : wr.cell? ⟨b, o + i, none⟩ = some (.int .u8 (nth (enc x k).reverse i : Int)) := (hbel2.cell hbo).trans (hc i (by omega))
     clear hc
     have HI := qH hi
     have ei : ((k : Int) - 1 - j) = (i : Int) := by omega
     clear hi
     rw [ei]
     have hik : i < k := by have := HI.out; omega
     clear ei
     go_wp2_with (at_builtin; refine wpList_push isU8 rfl _ _ rfl rfl rfl hown hbel2 hsz2 (by omega) ((enc x k).reverse.getD i 0) rfl ?_; intro v1 w1 hown1 hbel1 hsz1)
     go_roundw
     case rel => exact ⟨j + 1, by omega, by rw [show (k : Int) - 1 - ((j + 1 : Nat) : Int) = (i : Int) - 1 from by have := HI.out; omega], by
      rw [take_snoc_getD (by rw [enc_len]; exact hlt), ← rev_getD (i := i) (by rw [enc_len]; have := HI.out; omega)]; exact hown1, hbel1⟩
     case measure => simp [intOf]
    ·obtain rfl : j = k := by omega
     rw [show (j : Int) - 1 - j = -1 from by omega]
     go_wp2
     go_ret
     refine RetB.mk (own_mono (by rw [List.take_of_length_le (by rw [enc_len]; exact Nat.le_refl _)] at hown; exact hown) hsz) (hbel.trans (hbel2.mono hsz))
def RNumRel (n : Nat) (bs : List UInt8) (x u i : Value) : Prop :=
 ∃ j : Nat, j ≤ n ∧ i = .int .i64 ((n : Int) - 1 - j) ∧ x = .int .u64 ((num (bs.drop (n - j)) : Nat) : Int) ∧ u = .int .u64 ((256 ^ j % 18446744073709551616 : Nat) : Int)
def numOf (bs : List UInt8) : Nat := if bs.length = 0 ∨ 8 < bs.length then 0 else num bs
def numOk (bs : List UInt8) : Bool := decide (0 < bs.length ∧ bs.length ≤ 8)
theorem refNumber (A : Option Addr) (n c B : Nat) (bs : List UInt8) (w : World) (ha : Rd w B A n bs) (hn : n ≤ 140737488355328) :
  Calls Tryz.prog 114 #[.slice A n c] w fun e w' => e = .returned (.tuple #[.int .u64 (numOf bs : Int), .bool (numOk bs)]) ∧ w = w' := by
 by_cases h0 : n = 0
 ·subst h0
  go_enter Tryz.func114, Tryz.ntmps114
  go_wp2
  go_ret2
  refine ⟨?_, rfl⟩
  have hl := ha.1
  rw [show numOf bs = 0 from by unfold numOf; rw [if_pos (by omega)], show numOk bs = false from by simp [numOk]; omega]
  rfl
 ·have h0' : ((n : Int) == 0) = false := by simp; omega
  by_cases h8 : 8 < n
  ·go_enter Tryz.func114, Tryz.ntmps114
   go_wp2
   go_ret2
   refine ⟨?_, rfl⟩
   have hl := ha.1
   rw [show numOf bs = 0 from by unfold numOf; rw [if_pos (by omega)], show numOk bs = false from by simp [numOk]; omega]
   rfl
  ·have HA := qH ha
   clear ha
   have H0 := qH h0'
   clear h0'
   go_enter Tryz.func114, Tryz.ntmps114
   have h0' := H0.out
   go_wp2
   clear h0'
   go_loop [4, 5, 6] (fun x u i => RNumRel n bs x u i) (fun _ _ i => (intOf i + 1).toNat)
   case atStart => exact ⟨0, Nat.zero_le _, by go_num, by rw [Nat.sub_zero, ← HA.out.1, List.drop_length]; rfl, rfl⟩
   case round =>
    obtain ⟨j, hj, rfl, rfl, rfl⟩ := hrel
    by_cases hlt : j < n
    ·obtain ⟨i, hi⟩ : ∃ i, i = n - 1 - j := ⟨_, rfl⟩
     obtain ⟨b, o, rfl, hbo, hc⟩ := HA.out.2 (by omega)
     have hcell : w.cell? ⟨b, o + i, none⟩ = some (.int .u8 (nth bs i : Int)) := hc i (by omega)
     clear hc
     have HI := qH hi
     have ei : ((n : Int) - 1 - j) = (i : Int) := by omega
     clear hi
     rw [ei]
     have hik : i < n := by have := HI.out; omega
     clear ei
     generalize hx : num (bs.drop (n - j)) = x
     generalize hu : 256 ^ j % 18446744073709551616 = u
     have HX := qH hx
     have HU := qH hu
     clear hx hu
     go_wp2
     go_round
     case rel =>
      rw [wrap_step _ _ _ (nth_lt _ _), wrap_unit]
      refine ⟨j + 1, by omega, by rw [show (n : Int) - 1 - ((j + 1 : Nat) : Int) = (i : Int) - 1 from by have := HI.out; omega], ?_, ?_⟩
      ·rw [← HX.out, ← HU.out, num_step HA.out.1 (by omega) HI.out hlt]
      ·rw [← HU.out, Nat.mod_mul_mod, Nat.pow_succ]
     case measure => simp [intOf]
    ·obtain rfl : j = n := by omega
     rw [show (j : Int) - 1 - j = -1 from by omega]
     go_wp2
     go_ret2
     refine ⟨?_, rfl⟩
     have hl := HA.out.1
     rw [show numOf bs = num bs from by unfold numOf; rw [if_neg (by omega)], show numOk bs = true from by simp [numOk]; omega]
     rfl
def loadOf (bs : List UInt8) (at_ : Int) (k : Nat) : Nat := if 0 ≤ at_ ∧ at_ + k ≤ bs.length then num ((bs.drop at_.toNat).take k) else 0
def loadOk (bs : List UInt8) (at_ : Int) (k : Nat) : Bool := decide (0 ≤ at_ ∧ at_ + k ≤ bs.length)
theorem loadOf_no {bs : List UInt8} {at_ : Int} {k : Nat} (h : ¬ (0 ≤ at_ ∧ at_ + k ≤ bs.length)) : loadOf bs at_ k = 0 ∧ loadOk bs at_ k = false := by
 exact ⟨if_neg h, decide_eq_false h⟩
theorem loadOf_yes {bs : List UInt8} {p k : Nat} (h : p + k ≤ bs.length) (hk : 0 < k) (h8 : k ≤ 8) :
  loadOf bs p k = numOf ((bs.take (p + k)).drop p) ∧ loadOk bs p k = true ∧ numOk ((bs.take (p + k)).drop p) = true := by
 have h' : (0 : Int) ≤ (p : Int) ∧ (p : Int) + k ≤ bs.length := by omega
 have hl : ((bs.take (p + k)).drop p).length = k := by simp; omega
 refine ⟨?_, ?_, ?_⟩
 ·simp only [loadOf, if_pos h', numOf, hl]
  rw [if_neg (by omega), Int.toNat_natCast, List.drop_take]
  congr 2; omega
 ·simp only [loadOk]; exact decide_eq_true h'
 ·simp only [numOk, hl]; exact decide_eq_true ⟨hk, h8⟩
end
section
open Go.RowKit
def numsOf (bs : List UInt8) : List Int := bs.map fun b => (b.toNat : Int)
theorem bytesOf_numsOf (bs : List UInt8) : Lib.bytesOf (numsOf bs) = bs := by
 unfold Lib.bytesOf numsOf
 rw [List.map_map]
 have : ((fun n : Int => UInt8.ofNat n.toNat) ∘ fun b : UInt8 => (b.toNat : Int)) = id := by funext b; simp
 rw [this, List.map_id]
theorem Rd.conv {P : Program} {w : World} {B n : Nat} {A : Option Addr} {bs : List UInt8} (h : Rd w B A n bs) (c : Nat) (src e dst : TypeId) (hs : P.underlying src = some (.slice e)) (he : P.underlying e = some (.int .u8)) (hd : P.underlying dst = some .string) :
  (convert src dst (.slice A n c)).run P w = .ok (.string (strOfNums (numsOf bs))) w := by
 rcases Nat.eq_zero_or_pos n with rfl | hn
 ·obtain rfl : bs = [] := List.eq_nil_of_length_eq_zero h.1
  rw [run_convert_bytes_string w src dst e _ 0 c hs he hd]
  cases A <;> simp [Conv.bytesToString, loadCells, numsOf] <;> rfl
 ·obtain ⟨b, o, rfl, _, hc⟩ := h.2 hn
  refine run_convert_bytes_arg (P := P) w src e hs he b o n c (numsOf bs) (by simp [numsOf, h.1]) (fun i hi => ?_) dst hd
  have hl : i < bs.length := by rw [h.1]; exact hi
  rw [hc i hi, nth_of_lt hl]
  simp [numsOf, List.getD, List.getElem?_eq_getElem hl]
theorem bEqual (A A' : Option Addr) (n m c d B : Nat) (xs ys : List UInt8) (w : World) (ha : Rd w B A n xs) (hb : Rd w B A' m ys) :
  Calls Tryz.prog 149 #[.slice A n c, .slice A' m d] w fun e w' => e = .returned (.bool (decide (xs = ys))) ∧ w = w' := by
 have h1 := ha.conv c 35 5 9 Tryz.underlying35 Tryz.underlying5 Tryz.underlying9
 have h2 := hb.conv d 35 5 9 Tryz.underlying35 Tryz.underlying5 Tryz.underlying9
 have e1 : (strOfNums (numsOf xs)).toList = xs := by rw [Lib.strOfNums_toList, bytesOf_numsOf]
 have e2 : (strOfNums (numsOf ys)).toList = ys := by rw [Lib.strOfNums_toList, bytesOf_numsOf]
 generalize strOfNums (numsOf xs) = s1 at *
 generalize strOfNums (numsOf ys) = s2 at *
 have E1 := qH e1
 have E2 := qH e2
 clear e1 e2 ha hb
 go_enter Tryz.func149, Tryz.ntmps149
 go_wp2
 go_ret
 refine ⟨ret_bool ?_, rfl⟩
 rw [E1.out, E2.out]
 rw [Bool.eq_iff_iff]; simp
theorem wSame (A A' : Option Addr) (n m c d B : Nat) (xs ys : List UInt8) (w : World) (ha : Rd w B A n xs) (hb : Rd w B A' m ys) :
  Calls Tryz.prog 134 #[.slice A n c, .slice A' m d] w fun e w' => e = .returned (.bool (decide (xs = ys))) ∧ w = w' := by
 have HA := qH ha
 have HB := qH hb
 clear ha hb
 go_enter Tryz.func134, Tryz.ntmps134
 go_wp2_with fail
 refine (bEqual A A' n m c d B xs ys _ HA.out HB.out).mono ?_
 rintro e w1 ⟨rfl, rfl⟩
 go_wp2
 go_ret
 exact ⟨rfl, rfl⟩
theorem ord_eq : ∀ a b : List UInt8, Lib.compareBytes a b = ord a b
 | [], [] => rfl
 | [], _ :: _ => rfl
 | _ :: _, [] => rfl
 | a :: xs, b :: ys => by simp [Lib.compareBytes, ord, ord_eq xs ys]
theorem run_bytesOf {P : Program} {w : World} {B n c : Nat} {A : Option Addr} {bs : List UInt8} (h : Rd w B A n bs) :
  (Extern.Bytes.bytesOf (.slice A n c)).run P w = .ok ⟨bs.toArray⟩ w := by
 rcases A with _ | ad
 ·obtain rfl : n = 0 := by
   rcases Nat.eq_zero_or_pos n with h0 | h0
   ·exact h0
   ·obtain ⟨_, _, e, _⟩ := h.2 h0; cases e
  obtain rfl : bs = [] := List.eq_nil_of_length_eq_zero h.1
  rfl
 ·have hl : (numsOf bs).length = n := by simp [numsOf, h.1]
  have := Lib.run_loadBytesX (P := P) w (numsOf bs) ad .empty (fun j x hj => by
   have hjn : j < n := by
    rcases Nat.lt_or_ge j n with g | g
    ·exact g
    ·rw [List.getElem?_eq_none (by omega)] at hj; cases hj
   obtain ⟨b, o, e, _, hc⟩ := h.2 (by omega)
   obtain rfl : ad = ⟨b, o, none⟩ := by injection e
   have e : (⟨b, o, none⟩ : Addr).add j = ⟨b, o + j, none⟩ := by unfold Addr.add; split <;> simp_all
   have hjl : j < bs.length := by rw [h.1]; exact hjn
   rw [e, hc j hjn, nth_of_lt hjl]
   simp only [numsOf, List.getElem?_map, List.getElem?_eq_getElem hjl, Option.map_some, Option.some.injEq] at hj
   rw [hj])
  rw [hl, bytesOf_numsOf] at this
  have e : (ByteArray.empty.data ++ bs.toArray) = bs.toArray := by simp
  rw [e] at this
  exact this
def RdS (w : World) (B : Nat) (A : Option Addr) (n : Nat) (bss : List (List UInt8)) : Prop :=
 bss.length = n ∧ (0 < n → ∃ b o, A = some ⟨b, o, none⟩ ∧ b < B ∧ ∀ j, j < n → ∃ A' m c, w.cell? ⟨b, o + j, none⟩ = some (.slice A' m c) ∧ Rd w B A' m (bss.getD j []))
def tot (bss : List (List UInt8)) (k : Nat) : Nat := (bss.take k).flatten.length
theorem take_snoc_rows {bss : List (List UInt8)} {k : Nat} (h : k < bss.length) : (bss.take (k + 1)).flatten = (bss.take k).flatten ++ bss.getD k [] := by
 rw [List.take_succ_eq_append_getElem h, List.flatten_append]; simp [List.getD, List.getElem?_eq_getElem h]
theorem tot_succ {bss : List (List UInt8)} {k : Nat} (h : k < bss.length) : tot bss (k + 1) = tot bss k + (bss.getD k []).length := by
 unfold tot; rw [take_snoc_rows h, List.length_append]
theorem tot_le (bss : List (List UInt8)) (k : Nat) : tot bss k ≤ bss.flatten.length := by
 have h : bss.flatten = (bss.take k).flatten ++ (bss.drop k).flatten := by rw [← List.flatten_append, List.take_append_drop]
 unfold tot; rw [h, List.length_append]; omega
theorem tot_mono (bss : List (List UInt8)) {k : Nat} (h : k < bss.length) : tot bss k ≤ tot bss (k + 1) := by rw [tot_succ h]; omega
def SizeRel (n : Nat) (bss : List (List UInt8)) (s i : Value) : Prop :=
 ∃ k : Nat, k ≤ n ∧ i = .int .i64 (k : Int) ∧ s = .int .i64 ((tot bss k : Nat) : Int)
def CatAllRel (B n : Nat) (w : World) (bss : List (List UInt8)) (v i : Value) (wr : World) : Prop :=
 ∃ k : Nat, k ≤ n ∧ i = .int .i64 (k : Int) ∧ wr.ownsRow B 5 1 v (tot bss k) (((bss.take k).flatten).map bval) ∧ Below B w wr
theorem wCat (A : Option Addr) (n c : Nat) (bss : List (List UInt8)) (w : World) (ha : RdS w w.heap.size A n bss) (hn : n ≤ 140737488355328) (ht : bss.flatten.length ≤ 140737488355328) :
  Calls Tryz.prog 94 #[.slice A n c] w fun e w' => RetB 5 w bss.flatten e w' := by
 have HA := qH ha
 clear ha
 go_enter Tryz.func94, Tryz.ntmps94
 go_wp2
 go_loop [3, 11] (fun s i => SizeRel n bss s i) (fun _ i => n - (intOf i).toNat)
 case atStart => exact ⟨0, Nat.zero_le _, rfl, by simp [tot]⟩
 case round =>
  obtain ⟨k, hk, rfl, rfl⟩ := hrel
  by_cases hlt : k < n
  ·obtain ⟨b, o, rfl, hbo, hc⟩ := HA.out.2 (by omega)
   obtain ⟨A', m, c', hcell, hrd⟩ := hc k hlt
   have ht0 : tot bss k ≤ 140737488355328 := Nat.le_trans (tot_le _ _) ht
   have ht1 : tot bss k + m ≤ 140737488355328 := by
    have h := tot_le bss (k + 1)
    rw [tot_succ (by rw [HA.out.1]; exact hlt), hrd.1] at h; omega
   have HT : Hid (tot bss (k + 1) = tot bss k + m) := by
    have := tot_succ (bss := bss) (k := k) (by rw [HA.out.1]; exact hlt)
    rw [hrd.1] at this; exact this
   clear hc hrd
   generalize tot bss k = t0 at *
   go_wp2
   go_round
   case rel => exact ⟨k + 1, by omega, by go_num, by rw [HT.out]; go_num⟩
   case measure => simp [intOf]; omega
  ·obtain rfl : k = n := by omega
   have ht0 : tot bss k ≤ 140737488355328 := Nat.le_trans (tot_le _ _) ht
   generalize htk : tot bss k = t0 at *
   clear htk
   go_wp2_with (at_make; refine wpList_makeB0 isU8 rfl _ _ rfl t0 rfl rfl rfl (by omega) (Below.refl w.heap.size w) (Nat.le_refl _) ?_; intro w0 hown0 hbel0 hsz0)
   go_loopw [6, 24] (fun v i wr => CatAllRel w.heap.size k w bss v i wr) (fun _ i _ => k - (intOf i).toNat)
   case atStart => exact ⟨0, Nat.zero_le _, rfl, by simpa [tot] using hown0, hbel0⟩
   case round =>
    obtain ⟨j, hj, rfl, hown, hbel⟩ := hrel
    have hsz := hbel.size
    by_cases hlt : j < k
    ·obtain ⟨b, o, rfl, hbo, hc⟩ := HA.out.2 (by omega)
     obtain ⟨A', m, c', hcell0, hrd⟩ := hc j hlt
     have hcell : wr.cell? ⟨b, o + j, none⟩ = some (.slice A' m c') := (hbel.cell hbo).trans hcell0
     have ht1 : tot bss j + m ≤ 140737488355328 := by
      have h := tot_le bss (j + 1)
      rw [tot_succ (by rw [HA.out.1]; exact hlt), hrd.1] at h; omega
     have HR := qH (hrd.below hbel)
     have HT : Hid (tot bss (j + 1) = tot bss j + m) := by
      have := tot_succ (bss := bss) (k := j) (by rw [HA.out.1]; exact hlt)
      rw [hrd.1] at this; exact this
     clear hc hrd hcell0
     go_wp2_with (at_builtin; refine wpList_pushAll isU8 rfl _ _ rfl rfl rfl hown HR.out hbel hsz ht1 ?_; intro v1 w1 hown1 hbel1 hsz1)
     go_roundw
     case rel => exact ⟨j + 1, by omega, by go_num, by rw [HT.out, take_snoc_rows (by rw [HA.out.1]; exact hlt)]; exact hown1, hbel1⟩
     case measure => simp [intOf]; omega
    ·obtain rfl : j = k := by omega
     go_wp2
     go_ret
     exact RetB.mk (by rw [List.take_of_length_le (by rw [HA.out.1]; exact Nat.le_refl _)] at hown; exact hown) hbel
theorem RdS.lit {w : World} (vs : List Value) (T : TypeId) (bss : List (List UInt8)) (hl : bss.length = vs.length)
  (h : ∀ j, j < vs.length → ∃ A m c, vs[j]? = some (.slice A m c) ∧ Rd w w.heap.size A m (bss.getD j [])) :
  RdS (w.alloc (.cells vs.toArray T)) (w.heap.size + 1) (some ⟨w.heap.size, 0, none⟩) vs.length bss := by
 refine ⟨hl, fun _ => ⟨w.heap.size, 0, rfl, by omega, fun j hj => ?_⟩⟩
 obtain ⟨A, m, c, hv, hr⟩ := h j hj
 refine ⟨A, m, c, ?_, ((hr.below ((Below.refl _ _).alloc (Nat.le_refl _) _)).more (by omega))⟩
 rw [World.cell?_alloc_at _ _ _ _ (by rfl)]
 simpa using hv
theorem RdS.nil (w : World) (B : Nat) (A : Option Addr) : RdS w B A 0 [] := ⟨rfl, fun h => absurd h (Nat.lt_irrefl 0)⟩
end
section
open Go.RowKit
theorem Rd.lit {w : World} (bs : List UInt8) (vs : List Value) (T : TypeId) (h : bs.map bval = vs) : Rd (w.alloc (.cells vs.toArray T)) (w.heap.size + 1) (some ⟨w.heap.size, 0, none⟩) vs.length bs := by
 subst h
 refine ⟨by simp, fun hn => ⟨w.heap.size, 0, rfl, by omega, fun j hj => ?_⟩⟩
 have hl : j < bs.length := by simpa using hj
 rw [World.cell?_alloc_at _ _ _ _ (by rfl), nth_of_lt hl]
 simp [hl, bval]
theorem Rd.front {w : World} {B n : Nat} {A : Option Addr} {bs : List UInt8} (h : Rd w B A n bs) {k : Nat} (hk : k ≤ n) : Rd w B A k (bs.take k) := by
 refine ⟨by simp [h.1]; omega, fun h0 => ?_⟩
 obtain ⟨b, o, e, hb, hc⟩ := h.2 (by omega)
 refine ⟨b, o, e, hb, fun j hj => ?_⟩
 rw [hc j (by omega)]
 simp [nth, List.getD, hj]
theorem Rd.grow {w : World} {n : Nat} {A : Option Addr} {bs : List UInt8} (h : Rd w w.heap.size A n bs) (o : Obj) : Rd (w.alloc o) (w.alloc o).heap.size A n bs := h.to ((Below.refl _ _).alloc (Nat.le_refl _) o)
theorem two_blocks (w : World) (c c' : Array Value) (t : TypeId) : ((w.alloc (.cells c t)).alloc (.cells c' t)).heap[w.heap.size]? = some (.cells c t (0, 0)) ∧ ((w.alloc (.cells c t)).alloc (.cells c' t)).heap[w.heap.size + 1]? = some (.cells c' t (0, 0)) := by
 refine ⟨(Below.heap_alloc (w.alloc _) _ w.heap.size (by simp)).trans (heap_alloc_last w _), ?_⟩
 have h := heap_alloc_last (w.alloc (.cells c t)) (.cells c' t)
 rwa [show (w.alloc (.cells c t)).heap.size = w.heap.size + 1 from by simp] at h
theorem below_setRow {B g : Nat} {a w : World} (h : Below B a w) (hg : B ≤ g) (cs : Array Value) : Below B a (w.setRow g cs) :=
 ⟨h.os, h.tape, h.output, by rw [setRow_size]; exact h.size, fun k hk => (setRow_other w g k cs (by omega)).trans (h.block k hk)⟩
theorem RetB.from {T : TypeId} {w0 w w' : World} {bs : List UInt8} {e : Ending} (hb : Below w0.heap.size w0 w) (h : RetB T w bs e w') : RetB T w0 bs e w' := by
 obtain ⟨A, n, c, rfl, hown, hbel⟩ := h
 exact ⟨A, n, c, rfl, own_mono hown hb.size, hb.trans (hbel.mono hb.size)⟩
theorem RetB.is {T : TypeId} {w w' : World} {bs bs' : List UInt8} {e : Ending} (h : RetB T w bs e w') (hb : bs = bs') : RetB T w bs' e w' := hb ▸ h
theorem wf_u32 {x : Int} (h : (Lit.int .u32 x).wf = true) : ∃ n : Nat, x = (n : Int) ∧ n < 4294967296 := by
 have h1 : IntKind.u32.min = 0 := rfl
 have h2 : IntKind.u32.max = 4294967295 := rfl
 simp only [Lit.wf, Bool.and_eq_true, decide_eq_true_eq, h1, h2] at h
 exact ⟨x.toNat, by omega, by omega⟩
theorem wf_u8' {x : Int} (h : (Lit.int .u8 x).wf = true) : ∃ n : Nat, x = (n : Int) ∧ n < 256 := by
 obtain ⟨h1, h2⟩ := wf_u8 h
 exact ⟨x.toNat, by omega, by omega⟩
theorem refSameB (A A' : Option Addr) (n m c d : Nat) (xs ys : List UInt8) (w : World) (ha : Rd w w.heap.size A n xs) (hb : Rd w w.heap.size A' m ys) (hn : n ≤ 140737488355328) (hm : m ≤ 140737488355328) :
  Calls Tryz.prog 20 #[.slice A n c, .slice A' m d] w fun e w' => e = .returned (.bool (decide (xs = ys))) ∧ Below w.heap.size w w' := by
 refine (refSame A A' n m c d _ xs ys w ha hb hn hm).mono ?_
 rintro e w1 ⟨rfl, q, rfl⟩
 exact ⟨rfl, below_drewN (Below.refl _ _) q⟩
theorem refSameBT (A A' : Option Addr) (n m c d : Nat) (xs ys : List UInt8) (w : World) (h : xs = ys) (ha : Rd w w.heap.size A n xs) (hb : Rd w w.heap.size A' m ys) (hn : n ≤ 140737488355328) (hm : m ≤ 140737488355328) :
  Calls Tryz.prog 20 #[.slice A n c, .slice A' m d] w fun e w' => e = .returned (.bool true) ∧ Below w.heap.size w w' := by
 subst h
 refine (refSameB A A' n m c d xs xs w ha hb hn hm).mono ?_
 rintro e w1 ⟨rfl, h⟩
 exact ⟨by simp, h⟩
def IncRel (B n c : Nat) (A : Option Addr) (w : World) (i : Value) (wr : World) : Prop :=
 ∃ (k : Nat) (bs : List UInt8), k ≤ n ∧ i = .int .i64 (k : Int) ∧ wr.ownsRow B 5 1 (.slice A n c) n (bs.map bval) ∧ Below B w wr
theorem wCat1 (A : Option Addr) (n c : Nat) (xs : List UInt8) (w : World) (ha : Rd w w.heap.size A n xs) (hn : n ≤ 140737488355328) :
  Calls Tryz.prog 94 #[.slice (some ⟨w.heap.size, 0, none⟩) 1 1] (w.alloc (.cells #[.slice A n c] 35)) fun e w' => RetB 5 w xs e w' := by
 have S := RdS.lit (w := w) [.slice A n c] 35 [xs] rfl (fun j hj => by
  rcases j with _ | j
  ·exact ⟨_, _, _, rfl, ha⟩
  ·simp at hj)
 have hl := ha.1
 exact (wCat _ 1 1 [xs] (w.alloc (.cells #[.slice A n c] 35)) (by simpa using S) (by decide) (by simp; omega)).mono fun e w' h => (h.from ((Below.refl _ _).alloc (Nat.le_refl _) _)).is (by simp)
theorem wCat2 (A A' : Option Addr) (n m c d : Nat) (xs ys : List UInt8) (w : World) (ha : Rd w w.heap.size A n xs) (hb : Rd w w.heap.size A' m ys) (hn : n + m ≤ 140737488355328) :
  Calls Tryz.prog 94 #[.slice (some ⟨w.heap.size, 0, none⟩) 2 2] (w.alloc (.cells #[.slice A n c, .slice A' m d] 35)) fun e w' => RetB 5 w (xs ++ ys) e w' := by
 have S := RdS.lit (w := w) [.slice A n c, .slice A' m d] 35 [xs, ys] rfl (fun j hj => by
  rcases j with _ | _ | j
  ·exact ⟨_, _, _, rfl, ha⟩
  ·exact ⟨_, _, _, rfl, hb⟩
  ·simp at hj; omega)
 have hl := ha.1
 have hl' := hb.1
 exact (wCat _ 2 2 [xs, ys] (w.alloc (.cells #[.slice A n c, .slice A' m d] 35)) (by simpa using S) (by decide) (by simp; omega)).mono fun e w' h => (h.from ((Below.refl _ _).alloc (Nat.le_refl _) _)).is (by simp)
end
end Go.Proofs.YtffdjnhhmfpkgaaGreat