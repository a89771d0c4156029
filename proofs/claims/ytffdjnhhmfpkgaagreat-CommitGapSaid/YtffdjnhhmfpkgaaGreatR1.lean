/- Several texts in one (a claim has 60 files at most): ShaM, ShaRefA, ShaRefN, ShaRefE, ShaRefT, ShaRefS, ShaRefC. -/
import Derived.Test.YtffdjnhhmfpkgaaGreatTz
import Derived.Test.YtffdjnhhmfpkgaaGreatRow
import Derived.Test.YtffdjnhhmfpkgaaGreatR0
import Derived.Laws.BitsAllLaws
import Derived.Test.YtffdjnhhmfpkgaaGreatRB
import Derived.Deep.RegionHeld3
import Derived.Deep.LoopGhost
import Derived.Deep.RegionLaw
import Derived.Deep.MidRow
namespace Go.Proofs.YtffdjnhhmfpkgaaGreat
set_option maxRecDepth 1000000
set_option maxHeartbeats 8000000
set_option linter.unusedVariables false
set_option linter.unusedSimpArgs false
section
def rotr (x n : Nat) : Nat := (x / 2 ^ n + x * 2 ^ (32 - n)) % 4294967296
theorem rotr_lt (x n : Nat) : rotr x n < 4294967296 := Nat.mod_lt _ (by decide)
def sp (x : Nat) : Nat := rotr x 7 ^^^ rotr x 18 ^^^ x / 8
def sq (x : Nat) : Nat := rotr x 17 ^^^ rotr x 19 ^^^ x / 1024
def sE (x : Nat) : Nat := rotr x 6 ^^^ rotr x 11 ^^^ rotr x 25
def sA (x : Nat) : Nat := rotr x 2 ^^^ rotr x 13 ^^^ rotr x 22
def chz (e f g : Nat) : Nat := (e &&& f) ||| ((4294967295 - e) &&& g)
def maj (a b c : Nat) : Nat := (a &&& b) ^^^ (a &&& c) ^^^ (b &&& c)
def shaK : List Nat := [0x428a2f98, 0x71374491, 0xb5c0fbcf, 0xe9b5dba5, 0x3956c25b, 0x59f111f1, 0x923f82a4, 0xab1c5ed5, 0xd807aa98, 0x12835b01, 0x243185be, 0x550c7dc3, 0x72be5d74, 0x80deb1fe, 0x9bdc06a7, 0xc19bf174,
 0xe49b69c1, 0xefbe4786, 0x0fc19dc6, 0x240ca1cc, 0x2de92c6f, 0x4a7484aa, 0x5cb0a9dc, 0x76f988da, 0x983e5152, 0xa831c66d, 0xb00327c8, 0xbf597fc7, 0xc6e00bf3, 0xd5a79147, 0x06ca6351, 0x14292967,
 0x27b70a85, 0x2e1b2138, 0x4d2c6dfc, 0x53380d13, 0x650a7354, 0x766a0abb, 0x81c2c92e, 0x92722c85, 0xa2bfe8a1, 0xa81a664b, 0xc24b8b70, 0xc76c51a3, 0xd192e819, 0xd6990624, 0xf40e3585, 0x106aa070,
 0x19a4c116, 0x1e376c08, 0x2748774c, 0x34b0bcb5, 0x391c0cb3, 0x4ed8aa4a, 0x5b9cca4f, 0x682e6ff3, 0x748f82ee, 0x78a5636f, 0x84c87814, 0x8cc70208, 0x90befffa, 0xa4506ceb, 0xbef9a3f7, 0xc67178f2]
def shaF : List Nat := [0x6a09e667, 0xbb67ae85, 0x3c6ef372, 0xa54ff53a, 0x510e527f, 0x9b05688c, 0x1f83d9ab, 0x5be0cd19]
def nextW (blk : List UInt8) (ws : List Nat) : Nat :=
 if ws.length < 16 then num ((blk.drop (4 * ws.length)).take 4)
 else (nx ws (ws.length - 16) + nx ws (ws.length - 7) + sp (nx ws (ws.length - 15)) + sq (nx ws (ws.length - 2))) % 4294967296
def numsW (blk : List UInt8) : Nat → List Nat
 | 0 => []
 | i + 1 => numsW blk i ++ [nextW blk (numsW blk i)]
theorem numsW_len (blk : List UInt8) : ∀ i, (numsW blk i).length = i
 | 0 => rfl
 | i + 1 => by rw [numsW, List.length_append, numsW_len blk i]; rfl
theorem numsW_lt (blk : List UInt8) : ∀ i j, nx (numsW blk i) j < 4294967296
 | 0, j => by simp [numsW, nx]
 | i + 1, j => by
  rw [numsW]
  rcases Nat.lt_trichotomy j (numsW blk i).length with h | h | h
  ·rw [nx_left h]; exact numsW_lt blk i j
  ·subst h
   rw [nx_last]
   unfold nextW
   split
   ·refine Nat.lt_of_lt_of_le (num_lt _) ?_
    refine Nat.le_trans (Nat.pow_le_pow_right (by decide) (show _ ≤ 4 by simp; omega)) (by decide)
   ·exact Nat.mod_lt _ (by decide)
  ·have : (numsW blk i ++ [nextW blk (numsW blk i)]).length ≤ j := by simp; omega
   simp [nx, List.getD, List.getElem?_eq_none this]
structure HReg where
 a : Nat
 b : Nat
 c : Nat
 d : Nat
 e : Nat
 f : Nat
 g : Nat
 h : Nat
structure HReg.Ok (r : HReg) : Prop where
 a : r.a < 4294967296
 b : r.b < 4294967296
 c : r.c < 4294967296
 d : r.d < 4294967296
 e : r.e < 4294967296
 f : r.f < 4294967296
 g : r.g < 4294967296
 h : r.h < 4294967296
def rT (r : HReg) (k w : Nat) : Nat := (r.h + sE r.e + chz r.e r.f r.g + k + w) % 4294967296
def rU (r : HReg) : Nat := (sA r.a + maj r.a r.b r.c) % 4294967296
def rnd (k w : Nat) (r : HReg) : HReg :=
 { a := (rT r k w + rU r) % 4294967296, b := r.a, c := r.b, d := r.c, e := (r.d + rT r k w) % 4294967296, f := r.e, g := r.f, h := r.g }
theorem rnd_ok {k w : Nat} {r : HReg} (h : r.Ok) : (rnd k w r).Ok :=
 ⟨Nat.mod_lt _ (by decide), h.a, h.b, h.c, Nat.mod_lt _ (by decide), h.e, h.f, h.g⟩
def regs (s : List Nat) (ws : List Nat) : Nat → HReg
 | 0 => ⟨nx s 0, nx s 1, nx s 2, nx s 3, nx s 4, nx s 5, nx s 6, nx s 7⟩
 | i + 1 => rnd (nx shaK i) (nx ws i) (regs s ws i)
def Is8 (s : List Nat) : Prop := s.length = 8 ∧ ∀ j, nx s j < 4294967296
theorem regs_ok {s ws : List Nat} (h : Is8 s) : ∀ i, (regs s ws i).Ok
 | 0 => ⟨h.2 0, h.2 1, h.2 2, h.2 3, h.2 4, h.2 5, h.2 6, h.2 7⟩
 | i + 1 => rnd_ok (regs_ok h i)
def sumL (s : List Nat) (r : HReg) : List Nat :=
 [(nx s 0 + r.a) % 4294967296, (nx s 1 + r.b) % 4294967296, (nx s 2 + r.c) % 4294967296, (nx s 3 + r.d) % 4294967296, (nx s 4 + r.e) % 4294967296, (nx s 5 + r.f) % 4294967296, (nx s 6 + r.g) % 4294967296, (nx s 7 + r.h) % 4294967296]
def eatL (s : List Nat) (blk : List UInt8) : List Nat := sumL s (regs s (numsW blk 64) 64)
theorem is8_of (a b c d e f g h : Nat) (ha : a < 4294967296) (hb : b < 4294967296) (hc : c < 4294967296) (hd : d < 4294967296) (he : e < 4294967296) (hf : f < 4294967296) (hg : g < 4294967296) (hh : h < 4294967296) : Is8 [a, b, c, d, e, f, g, h] := by
 refine ⟨rfl, fun j => ?_⟩
 unfold nx
 match j with
 | 0 => exact ha
 | 1 => exact hb
 | 2 => exact hc
 | 3 => exact hd
 | 4 => exact he
 | 5 => exact hf
 | 6 => exact hg
 | 7 => exact hh
 | j + 8 => simp [List.getD]
theorem sumL_8 (s : List Nat) (r : HReg) : Is8 (sumL s r) :=
 is8_of _ _ _ _ _ _ _ _ (Nat.mod_lt _ (by decide)) (Nat.mod_lt _ (by decide)) (Nat.mod_lt _ (by decide)) (Nat.mod_lt _ (by decide)) (Nat.mod_lt _ (by decide)) (Nat.mod_lt _ (by decide)) (Nat.mod_lt _ (by decide)) (Nat.mod_lt _ (by decide))
theorem eatL_8 (s : List Nat) (blk : List UInt8) : Is8 (eatL s blk) := sumL_8 _ _
theorem shaF_8 : Is8 shaF := is8_of _ _ _ _ _ _ _ _ (by decide) (by decide) (by decide) (by decide) (by decide) (by decide) (by decide) (by decide)
def zerosOf (n : Nat) : Nat := (64 - (n + 9) % 64) % 64
def tailL (n : Nat) : List UInt8 := 128 :: List.replicate (zerosOf n) 0 ++ enc (8 * n) 8
theorem tailL_len (n : Nat) : (tailL n).length = zerosOf n + 9 := by simp [tailL, enc_len]
theorem tail_whole (n : Nat) : (n + (tailL n).length) % 64 = 0 := by rw [tailL_len]; unfold zerosOf; omega
def eatAll (s : List Nat) (bs : List UInt8) : Nat → List Nat
 | 0 => s
 | i + 1 => eatL (eatAll s bs i) ((bs.take (64 * i + 64)).drop (64 * i))
theorem eatAll_8 {s : List Nat} (h : Is8 s) (bs : List UInt8) : ∀ i, Is8 (eatAll s bs i)
 | 0 => h
 | _ + 1 => eatL_8 _ _
def printL (s : List Nat) : List UInt8 := (s.map fun x => enc x 4).flatten
def sumAll (bs : List UInt8) : List Nat := eatAll shaF (bs ++ tailL bs.length) ((bs.length + (tailL bs.length).length) / 64)
def shaL (bs : List UInt8) : List UInt8 := printL (sumAll bs)
theorem printL_len {s : List Nat} (h : s.length = 8) : (printL s).length = 32 := by
 match s, h with
 | [a, b, c, d, e, f, g, i], _ => simp [printL, enc_len]
theorem shaL_len (bs : List UInt8) : (shaL bs).length = 32 := printL_len (eatAll_8 shaF_8 _ _).1
def chainL : List (List UInt8) → List UInt8
 | [] => shaL []
 | x :: l => l.foldl (fun t b => shaL (t ++ b)) (shaL x)
theorem rot_join {x n : Nat} (h : n < 32) (hn : 0 < n) (hx : x < 4294967296) : (x / 2 ^ n) ||| (x * 2 ^ (32 - n) % 4294967296) = rotr x n := by
 have hp : 2 ^ n * 2 ^ (32 - n) = 4294967296 := by rw [← Nat.pow_add, show n + (32 - n) = 32 from by omega]
 have h1 : x / 2 ^ n < 2 ^ (32 - n) := by
  rw [Nat.div_lt_iff_lt_mul (Nat.pow_pos (by decide)), Nat.mul_comm, hp]; exact hx
 have h2 : x * 2 ^ (32 - n) % 4294967296 = (x % 2 ^ n) * 2 ^ (32 - n) := by
  rw [← hp, Nat.mul_mod_mul_right]
 have h3 : x = 2 ^ n * (x / 2 ^ n) + x % 2 ^ n := (Nat.div_add_mod x (2 ^ n)).symm
 have h4 : x * 2 ^ (32 - n) = 4294967296 * (x / 2 ^ n) + (x % 2 ^ n) * 2 ^ (32 - n) := by
  conv => lhs; rw [h3, Nat.add_mul, Nat.mul_right_comm, hp]
 have h5 : (x % 2 ^ n) * 2 ^ (32 - n) + 2 ^ (32 - n) ≤ 4294967296 := by
  have : x % 2 ^ n + 1 ≤ 2 ^ n := Nat.mod_lt _ (Nat.pow_pos (by decide))
  have := Nat.mul_le_mul_right (2 ^ (32 - n)) this
  rw [Nat.add_mul, hp] at this
  omega
 have h6 : rotr x n = (x % 2 ^ n) * 2 ^ (32 - n) + x / 2 ^ n := by
  unfold rotr
  rw [h4]
  generalize (x % 2 ^ n) * 2 ^ (32 - n) = r at *
  generalize x / 2 ^ n = q at *
  generalize 2 ^ (32 - n) = p at *
  omega
 rw [h2, h6, Nat.or_comm, Nat.mul_comm, ← Nat.two_pow_add_eq_or_of_lt h1]
end
section
open Go.RowKit
theorem pow_lt32 {n : Nat} (h : n < 32) : 2 ^ n < 4294967296 := Nat.lt_of_le_of_lt (Nat.pow_le_pow_right (by decide) (show n ≤ 31 by omega)) (by decide)
theorem pow_int {n : Nat} (h : n < 32) : (2 : Int) ^ n % 4294967296 = ((2 ^ n : Nat) : Int) := by
 have h1 := pow_lt32 h
 have h2 : (2 : Int) ^ n = ((2 ^ n : Nat) : Int) := by norm_cast
 rw [h2]
 generalize 2 ^ n = p at h1 ⊢
 omega
theorem turn_val {x n : Nat} (h1 : 0 < n) (h2 : n < 32) :
  (((x : Int) / (2 ^ n % 4294967296) % 4294967296 + (x : Int) * (2 ^ (32 - n) % 4294967296) % 4294967296) % 4294967296) = (rotr x n : Int) := by
 rw [pow_int h2, pow_int (n := 32 - n) (by omega), ← Int.natCast_ediv, ← Int.natCast_mul]
 unfold rotr
 omega
end
section
open Go.RowKit
def NumsRel (B : Nat) (w : World) (blk : List UInt8) (v i : Value) (wr : World) : Prop :=
 ∃ k : Nat, k ≤ 64 ∧ i = .int .i64 (k : Int) ∧ wr.ownsRow B 135 1 v k ((numsW blk k).map (kv .u32)) ∧ Below B w wr
theorem loadOf_num {blk : List UInt8} {k : Nat} (hl : blk.length = 64) (hk : k < 16) : loadOf blk (4 * (k : Int)) 4 = nextW blk (numsW blk k) := by
 unfold loadOf nextW
 rw [numsW_len, if_pos (by omega), if_pos hk, show (4 * (k : Int)).toNat = 4 * k from by omega]
theorem nextW_lt (blk : List UInt8) (k : Nat) : nextW blk (numsW blk k) < 4294967296 := by
 have h := numsW_lt blk (k + 1) k
 rw [numsW] at h
 have e := nx_last (numsW blk k) (nextW blk (numsW blk k))
 rw [numsW_len] at e
 rw [e] at h; exact h
theorem u32_xors {a b c : Nat} (ha : a < 4294967296) (hb : b < 4294967296) (hc : c < 4294967296) :
  bits .xor .u32 (bits .xor .u32 (a : Int) (b : Int)) (c : Int) = ((a ^^^ b ^^^ c : Nat) : Int) := by
 rw [u32_xor_nat _ _ ha hb, u32_xor_nat _ _ (Nat.xor_lt_two_pow (n := 32) ha hb) hc]
end
section
open Go.RowKit
theorem not_u32 {e : Nat} (he : e < 4294967296) : bits BinOp.xor IntKind.u32 (if IntKind.u32.signed = true then -1 else IntKind.u32.max) (e : Int) = ((4294967295 - e : Nat) : Int) := by
 have h1 : (if IntKind.u32.signed = true then (-1 : Int) else IntKind.u32.max) = ((4294967295 : Nat) : Int) := by decide
 rw [h1, u32_xor_nat _ _ (by decide) he]
 congr 1
 have h2 : (4294967295 : Nat) ^^^ e = 2 ^ 32 - (e + 1) := by
  apply Nat.eq_of_testBit_eq
  intro i
  rw [Nat.testBit_xor, show (4294967295 : Nat) = 2 ^ 32 - 1 from rfl, Nat.testBit_two_pow_sub_one, Nat.testBit_two_pow_sub_succ he]
  by_cases hi : i < 32
  ·simp [hi]
  ·have : e.testBit i = false := Nat.testBit_lt_two_pow (Nat.lt_of_lt_of_le he (Nat.pow_le_pow_right (n := 2) (by decide) (show 32 ≤ i by omega)))
   simp [hi, this]
 rw [h2]; omega
theorem ch_val {e f g : Nat} (he : e < 4294967296) (hf : f < 4294967296) (hg : g < 4294967296) :
  bits BinOp.or IntKind.u32 (bits BinOp.and IntKind.u32 (e : Int) (f : Int)) (bits BinOp.and IntKind.u32 (bits BinOp.xor IntKind.u32 (if IntKind.u32.signed = true then -1 else IntKind.u32.max) (e : Int)) (g : Int)) = ((chz e f g : Nat) : Int) := by
 rw [not_u32 he, u32_and_nat _ _ he hf, u32_and_nat _ _ (by omega) hg, u32_or_nat _ _ (Nat.lt_of_le_of_lt Nat.and_le_left he) (Nat.lt_of_le_of_lt Nat.and_le_right hg)]
 rfl
theorem t_val {h e f g k w : Nat} (hh : h < 4294967296) (he : e < 4294967296) (hf : f < 4294967296) (hg : g < 4294967296) :
  (((h : Int) + bits BinOp.xor IntKind.u32 (bits BinOp.xor IntKind.u32 ((rotr e 6 : Nat) : Int) ((rotr e 11 : Nat) : Int)) ((rotr e 25 : Nat) : Int) +
   bits BinOp.or IntKind.u32 (bits BinOp.and IntKind.u32 (e : Int) (f : Int)) (bits BinOp.and IntKind.u32 (bits BinOp.xor IntKind.u32 (if IntKind.u32.signed = true then -1 else IntKind.u32.max) (e : Int)) (g : Int)) + (k : Int)) % 4294967296 + (w : Int)) % 4294967296
   = (((h + sE e + chz e f g + k + w) % 4294967296 : Nat) : Int) := by
 rw [ch_val he hf hg, u32_xors (rotr_lt e 6) (rotr_lt e 11) (rotr_lt e 25)]
 unfold sE
 omega
theorem maj_val {a b c : Nat} (ha : a < 4294967296) (hb : b < 4294967296) (hc : c < 4294967296) :
  bits BinOp.xor IntKind.u32 (bits BinOp.xor IntKind.u32 (bits BinOp.and IntKind.u32 (a : Int) (b : Int)) (bits BinOp.and IntKind.u32 (a : Int) (c : Int))) (bits BinOp.and IntKind.u32 (b : Int) (c : Int)) = ((maj a b c : Nat) : Int) := by
 rw [u32_and_nat _ _ ha hb, u32_and_nat _ _ ha hc, u32_and_nat _ _ hb hc, u32_xors (Nat.lt_of_le_of_lt Nat.and_le_left ha) (Nat.lt_of_le_of_lt Nat.and_le_left ha) (Nat.lt_of_le_of_lt Nat.and_le_left hb)]
 rfl
theorem u_val {a b c t : Nat} (ha : a < 4294967296) (hb : b < 4294967296) (hc : c < 4294967296) :
  ((t : Int) + (bits BinOp.xor IntKind.u32 (bits BinOp.xor IntKind.u32 ((rotr a 2 : Nat) : Int) ((rotr a 13 : Nat) : Int)) ((rotr a 22 : Nat) : Int) +
   bits BinOp.xor IntKind.u32 (bits BinOp.xor IntKind.u32 (bits BinOp.and IntKind.u32 (a : Int) (b : Int)) (bits BinOp.and IntKind.u32 (a : Int) (c : Int))) (bits BinOp.and IntKind.u32 (b : Int) (c : Int))) % 4294967296) % 4294967296
   = (((t + (sA a + maj a b c) % 4294967296) % 4294967296 : Nat) : Int) := by
 rw [maj_val ha hb hc, u32_xors (rotr_lt a 2) (rotr_lt a 13) (rotr_lt a 22)]
 unfold sA
 omega
def RegIs (r : HReg) (a b c d e f g h : Value) : Prop :=
 a = .int .u32 (r.a : Int) ∧ b = .int .u32 (r.b : Int) ∧ c = .int .u32 (r.c : Int) ∧ d = .int .u32 (r.d : Int) ∧ e = .int .u32 (r.e : Int) ∧ f = .int .u32 (r.f : Int) ∧ g = .int .u32 (r.g : Int) ∧ h = .int .u32 (r.h : Int)
def EatRel (w : World) (s ws : List Nat) (a b c d e f g h i : Value) (wr : World) : Prop :=
 ∃ k : Nat, k ≤ 64 ∧ i = .int .i64 (k : Int) ∧ RegIs (regs s ws k) a b c d e f g h ∧ ∃ q, wr = w.drewN q
end
section
open Go.RowKit
def PadRow (j : Nat) : List UInt8 := 128 :: List.replicate j 0
theorem padRow_len (j : Nat) : (PadRow j).length = j + 1 := by simp [PadRow]
theorem padRow_snoc (j : Nat) : PadRow (j + 1) = PadRow j ++ [0] := by
 unfold PadRow; rw [List.replicate_succ', List.cons_append]
def fillB (bs : List UInt8) (m : Nat) : List UInt8 := bs.take m ++ List.replicate (bs.length - m) 0
theorem fillB_len {bs : List UInt8} {m : Nat} (h : m ≤ bs.length) : (fillB bs m).length = bs.length := by simp [fillB]; omega
theorem fillB_zero (bs : List UInt8) : fillB bs 0 = List.replicate bs.length 0 := by simp [fillB]
theorem fillB_all (bs : List UInt8) : fillB bs bs.length = bs := by simp [fillB]
theorem fillB_set {bs : List UInt8} {m : Nat} (h : m < bs.length) : (fillB bs m).set m (bs.getD m 0) = fillB bs (m + 1) := by
 unfold fillB
 rw [List.set_append_right _ _ (by simp; omega), take_snoc_getD h, show bs.length - m = (bs.length - (m + 1)) + 1 from by omega, List.replicate_succ]
 simp [Nat.min_eq_left (Nat.le_of_lt h)]
theorem printL_at : ∀ (s : List Nat) (k j : Nat), k < s.length → j < 4 → (printL s).getD (4 * k + j) 0 = (enc (nx s k) 4).getD j 0
 | [], _, _, h, _ => by simp at h
 | x :: s, 0, j, _, hj => by
  simp only [printL, List.map_cons, List.flatten_cons, Nat.mul_zero, Nat.zero_add, nx, List.getD_cons_zero]
  simp only [List.getD]
  rw [List.getElem?_append_left (by rw [enc_len]; exact hj)]
 | x :: s, k + 1, j, h, hj => by
  have ih := printL_at s k j (by simpa using h) hj
  simp only [printL, List.map_cons, List.flatten_cons, nx, List.getD_cons_succ] at ih ⊢
  rw [← ih]
  simp only [List.getD]
  rw [List.getElem?_append_right (by rw [enc_len]; omega), enc_len, show 4 * (k + 1) + j - 4 = 4 * k + j from by omega]
theorem arrB_zeros (n : Nat) : arrB (List.replicate n 0) = Array.replicate n (Value.int .u8 0) := by
 unfold arrB
 rw [List.map_replicate]
 exact List.toArray_replicate ..
theorem tag_info : (Tryz.prog.info? 32).map (fun i => (i.zero, i.size)) = some (some (.agg (Array.replicate 32 (.int .u8 0))), 32) := by kernel_rfl
def zeros32 : List UInt8 := List.replicate 32 0
theorem tag_zero (w : World) : (zeroValue 32).run Tryz.prog w = .ok (.agg (arrB zeros32)) w := by
 rw [zeros32, arrB_zeros]; exact (zero_of_info tag_info).1 w
theorem tag_size {bs : List UInt8} (h : bs.length = 32) : (Tryz.prog.info? 32).map (·.size) = some (arrB bs).size := by
 rw [arrB_size, h]; exact (zero_of_info tag_info).2
def TagAt (w : World) (g : Nat) (bs : List UInt8) : Prop := bs.length = 32 ∧ w.heap[g]? = some (.cells (arrB bs) 32 (0, 0))
theorem TagAt.below {w w' : World} {g : Nat} {bs : List UInt8} (h : TagAt w g bs) (hb : Below w.heap.size w w') : TagAt w' g bs := by
 refine ⟨h.1, ?_⟩
 have hlt := heap_at_lt h.2
 rw [hb.block g hlt]; exact h.2
theorem TagAt.cell {w : World} {g j : Nat} {bs : List UInt8} (h : TagAt w g bs) (hj : j < 32) : w.cell? ⟨g, j, none⟩ = some (.int .u8 (nth bs j : Int)) ∧ w.frozen? ⟨g, j, none⟩ = false := by
 refine ⟨?_, by simp [World.frozen?, h.2]⟩
 rw [cell_of_row _ _ j _ _ (0, 0) h.2]
 exact arrB_at (by rw [h.1]; exact hj)
theorem TagAt.set {w : World} {g j : Nat} {bs : List UInt8} (h : TagAt w g bs) (y : UInt8) : TagAt (w.setCell ⟨g, j, none⟩ (.int .u8 (y.toNat : Int))) g (bs.set j y) := by
 refine ⟨by rw [List.length_set]; exact h.1, ?_⟩
 rw [heap_setCell_same _ _ _ _ _ _ h.2, arrB_set]
theorem TagAt.other {w : World} {g : Nat} {bs : List UInt8} (h : TagAt w g bs) (a : Addr) (v : Value) (hne : g ≠ a.block) : TagAt (w.setCell a v) g bs :=
 ⟨h.1, (Below.heap_setCell w a v g hne).trans h.2⟩
theorem two_tags (w : World) (bs : List UInt8) (h : bs.length = 32) : TagAt ((w.alloc (.cells (arrB bs) 32)).alloc (.cells (arrB bs) 32)) w.heap.size bs ∧ TagAt ((w.alloc (.cells (arrB bs) 32)).alloc (.cells (arrB bs) 32)) (w.heap.size + 1) bs :=
 ⟨⟨h, (two_blocks w _ _ _).1⟩, ⟨h, (two_blocks w _ _ _).2⟩⟩
def PrintRel (w : World) (out : List UInt8) (i : Value) (wr : World) : Prop :=
 ∃ k : Nat, k ≤ 8 ∧ i = .int .i64 (k : Int) ∧ TagAt wr w.heap.size zeros32 ∧ TagAt wr (w.heap.size + 1) (fillB out (4 * k)) ∧ Below w.heap.size w wr
def PrintRel2 (w : World) (out : List UInt8) (k gz : Nat) (row : List UInt8) (i : Value) (wr : World) : Prop :=
 ∃ j : Nat, j ≤ 4 ∧ i = .int .i64 (j : Int) ∧ TagAt wr w.heap.size zeros32 ∧ TagAt wr (w.heap.size + 1) (fillB out (4 * k + j)) ∧ Rd wr (gz + 1) (some ⟨gz, 0, none⟩) 4 row ∧ Below w.heap.size w wr
end
section
open Go.RowKit
def SumRel (w1 : World) (all : List UInt8) (m : Nat) (s i : Value) (wr : World) : Prop :=
 ∃ (k : Nat) (A : Option Addr) (c : Nat), k ≤ m ∧ i = .int .i64 ((64 * k : Nat) : Int) ∧ s = .slice A 8 c ∧ RdK .u32 wr wr.heap.size A 8 (eatAll shaF all k) ∧ Below w1.heap.size w1 wr
end
section
open Go.RowKit
theorem chainL_snoc (x : List UInt8) (l : List (List UInt8)) (b : List UInt8) : chainL (x :: l ++ [b]) = shaL (chainL (x :: l) ++ b) := by
 simp [chainL, List.foldl_append]
theorem chainL_len (l : List (List UInt8)) : (chainL l).length = 32 := by
 cases l with
 | nil => exact shaL_len _
 | cons x l =>
  rcases List.eq_nil_or_concat l with rfl | ⟨l', b, rfl⟩
  ·exact shaL_len _
  ·rw [List.concat_eq_append, ← List.cons_append, chainL_snoc]; exact shaL_len _
theorem rows_split {bss : List (List UInt8)} {n : Nat} (h : bss.length = n + 1) : bss = bss.take n ++ [bss.getD n []] := by
 have h1 := List.take_succ_eq_append_getElem (l := bss) (i := n) (by omega)
 rw [List.take_of_length_le (by omega)] at h1
 have h2 : bss.getD n [] = bss[n] := by simp [List.getD, List.getElem?_eq_getElem (show n < bss.length by omega)]
 rw [h2]; exact h1
theorem RdS.front {w : World} {B n : Nat} {A : Option Addr} {bss : List (List UInt8)} (h : RdS w B A n bss) {k : Nat} (hk : k ≤ n) : RdS w B A k (bss.take k) := by
 refine ⟨by simp [h.1]; omega, fun h0 => ?_⟩
 obtain ⟨b, o, e, hb, hc⟩ := h.2 (by omega)
 refine ⟨b, o, e, hb, fun j hj => ?_⟩
 obtain ⟨A', m, c, h1, h2⟩ := hc j (by omega)
 refine ⟨A', m, c, h1, ?_⟩
 simpa [List.getD, hj] using h2
theorem RdS.below {w w' : World} {B n : Nat} {A : Option Addr} {bss : List (List UInt8)} (h : RdS w B A n bss) (hb : Below B w w') : RdS w' B A n bss := by
 refine ⟨h.1, fun h0 => ?_⟩
 obtain ⟨b, o, e, hlt, hc⟩ := h.2 h0
 refine ⟨b, o, e, hlt, fun j hj => ?_⟩
 obtain ⟨A', m, c, h1, h2⟩ := hc j hj
 exact ⟨A', m, c, (hb.cell hlt).trans h1, h2.below hb⟩
theorem RdS.more {w : World} {B B' n : Nat} {A : Option Addr} {bss : List (List UInt8)} (h : RdS w B A n bss) (hB : B ≤ B') : RdS w B' A n bss := by
 refine ⟨h.1, fun h0 => ?_⟩
 obtain ⟨b, o, e, hlt, hc⟩ := h.2 h0
 refine ⟨b, o, e, by omega, fun j hj => ?_⟩
 obtain ⟨A', m, c, h1, h2⟩ := hc j hj
 exact ⟨A', m, c, h1, h2.more hB⟩
theorem RdS.to {w w' : World} {n : Nat} {A : Option Addr} {bss : List (List UInt8)} (h : RdS w w.heap.size A n bss) (hb : Below w.heap.size w w') : RdS w' w'.heap.size A n bss := (h.below hb).more hb.size
theorem slice_h1 {P : Program} {T U : TypeId} (hul : P.underlying T = some (.slice U)) (hs : ∀ w : World, (sizeOf U).run P w = .ok 1 w) (A : Option Addr) {n c h : Nat} (h2 : h ≤ n) (hc : n ≤ c) :
  ∀ (k' : IntKind) (w : World), (Instr.slice T (.slice A n c) none (some (.int k' (h : Int))) none).run P w = .ok (.slice A h c) w := by
 intro k' w
 have he : P.elem T = U := by simp [Program.elem, hul]
 rw [run_slice_h (ht := by rw [he]; exact hul) (kh := k') (h := (h : Int)) (h0 := by omega) (h2 := by omega), he, hs]
 simp only [Result.andThen, sliced]
 congr 1
 cases A with
 | none => simp
 | some a => simp [addr_add_zero]
theorem rows_size (w : World) : (sizeOf 35).run Tryz.prog w = .ok 1 w := by
 have h : (Tryz.prog.info? 35).map (·.size) = some 1 := by kernel_rfl
 cases hi : Tryz.prog.info? 35 with
 | none => rw [hi] at h; cases h
 | some i => rw [hi] at h; simp at h; simp [sizeOf, typeInfo, hi, h]
theorem TagAt.range {w : World} {g : Nat} {bs : List UInt8} (h : TagAt w g bs) : w.rangeAt g 0 (bs.map bval) := fun j v hv => by
 rw [Nat.zero_add, cell_of_row _ _ j _ _ (0, 0) h.2]
 simpa [arrB] using hv
theorem TagAt.loads {w : World} {g : Nat} {bs : List UInt8} (h : TagAt w g bs) :
  (Instr.loadAt 32 (.pointer (some ⟨g, 0, none⟩))).run Tryz.prog w = .ok (.agg (arrB bs)) w ∧ (loadVar 32 ⟨g, 0, none⟩).run Tryz.prog w = .ok (.agg (arrB bs)) w := by
 have h2 := run_loadVar_row (P := Tryz.prog) w g 32 32 (arrB bs) (0, 0) _ h.2 Tryz.underlying32 rfl (tag_size h.1)
 exact ⟨by simp only [Instr.loadAt, Instr.sureAddr, Sem.run_bind, Sem.run_pure, Result.andThen]; exact h2, h2⟩
def tagv (bs : List UInt8) (j : Nat) : Value := .int .u8 (nth bs j : Int)
theorem tagv_all {bs : List UInt8} (h : bs.length = 32) : #[tagv bs 0, tagv bs 1, tagv bs 2, tagv bs 3, tagv bs 4, tagv bs 5, tagv bs 6, tagv bs 7, tagv bs 8, tagv bs 9, tagv bs 10, tagv bs 11, tagv bs 12, tagv bs 13, tagv bs 14, tagv bs 15, tagv bs 16, tagv bs 17, tagv bs 18, tagv bs 19, tagv bs 20, tagv bs 21, tagv bs 22, tagv bs 23, tagv bs 24, tagv bs 25, tagv bs 26, tagv bs 27, tagv bs 28, tagv bs 29, tagv bs 30, tagv bs 31] = arrB bs := by
 apply Array.ext
 ·rw [arrB_size, h]; rfl
 ·intro i h1 h2
  have h3 : i < 32 := by simpa using h1
  have e : ∀ (l : List Value) (hl : l = (List.range 32).map (tagv bs)) (hi : i < l.length), l[i] = tagv bs i := by
   rintro l rfl hi; simp
  have e2 := arrB_at (bs := bs) (j := i) (by omega)
  rw [Array.getElem?_eq_getElem h2] at e2
  injection e2 with e2
  rw [e2]
  exact e _ rfl _
theorem TagAt.cells {w : World} {g : Nat} {bs : List UInt8} (h : TagAt w g bs) : ∀ j, j < 32 → w.cell? ⟨g, j, none⟩ = some (tagv bs j) := fun j hj => (h.cell hj).1
theorem TagAt.rd {w : World} {g : Nat} {bs : List UInt8} (h : TagAt w g bs) : Rd w w.heap.size (some ⟨g, 0, none⟩) 32 bs :=
 ⟨h.1, fun _ => ⟨g, 0, rfl, heap_at_lt h.2, fun j hj => by rw [Nat.zero_add]; exact (h.cell hj).1⟩⟩
theorem run_storeTag {P : Program} {w : World} {g : Nat} {old bs : List UInt8} (h : TagAt w g old) (hl : bs.length = 32) :
  (storeCells ⟨g, 0, none⟩ (arrB bs).toList 0).run P w = .ok () (w.setRow g (arrB bs)) := by
 have h1 := run_storeCells_from (P := P) g 32 (arrB bs).toList 0 (arrB old) w h.2 (by simp [arrB_size, h.1, hl]) (fun v hv => (Array.all_eq_true_iff_forall_mem.1 (arrB_one bs)) v (by simpa using hv))
 simpa using h1
theorem TagAt.setRow {w : World} {g : Nat} {old bs : List UInt8} (h : TagAt w g old) (hl : bs.length = 32) : TagAt (w.setRow g (arrB bs)) g bs := ⟨hl, setRow_heap _ _ _ _ _ _ h.2⟩
end
end Go.Proofs.YtffdjnhhmfpkgaaGreat