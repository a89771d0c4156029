/- Plain mathematics of SHA-256: turning, a block's numbers, rounds, eating, tails, sums, chains, digits, as the chapter says them. No program. -/
import Derived.Test.YtopilgedcnbdaaaDoorTz
import Derived.Test.YtopilgedcnbdaaaDoorRow
import Derived.Test.YtopilgedcnbdaaaDoorNum
import Derived.Laws.BitsAllLaws
namespace Go.Proofs.YtopilgedcnbdaaaDoor
set_option maxRecDepth 1000000
set_option maxHeartbeats 8000000
def rotr (x n : Nat) : Nat := (x / 2 ^ n + x * 2 ^ (32 - n)) % 4294967296
theorem rotr_lt (x n : Nat) : rotr x n < 4294967296 := Nat.mod_lt _ (by decide)
def sp (x : Nat) : Nat := rotr x 7 ^^^ rotr x 18 ^^^ x / 8
def sq (x : Nat) : Nat := rotr x 17 ^^^ rotr x 19 ^^^ x / 1024
def sE (x : Nat) : Nat := rotr x 6 ^^^ rotr x 11 ^^^ rotr x 25
def sA (x : Nat) : Nat := rotr x 2 ^^^ rotr x 13 ^^^ rotr x 22
def chz (e f g : Nat) : Nat := (e &&& f) ||| ((4294967295 - e) &&& g)
def maj (a b c : Nat) : Nat := (a &&& b) ^^^ (a &&& c) ^^^ (b &&& c)
def shaK : List Nat := [0x428a2f98, 0x71374491, 0xb5c0fbcf, 0xe9b5dba5, 0x3956c25b, 0x59f111f1, 0x923f82a4, 0xab1c5ed5, 0xd807aa98, 0x12835b01, 0x243185be, 0x550c7dc3, 0x72be5d74, 0x80deb1fe, 0x9bdc06a7, 0xc19bf174,
 0xe49b69c1, 0xefbe4786, 0x0fc19dc6, 0x240ca1cc, 0x2de92c6f, 0x4a7484aa, 0x5cb0a9dc, 0x76f988da, 0x983e5152, 0xa831c66d, 0xb00327c8, 0xbf597fc7, 0xc6e00bf3, 0xd5a79147, 0x06ca6351, 0x14292967,
 0x27b70a85, 0x2e1b2138, 0x4d2c6dfc, 0x53380d13, 0x650a7354, 0x766a0abb, 0x81c2c92e, 0x92722c85, 0xa2bfe8a1, 0xa81a664b, 0xc24b8b70, 0xc76c51a3, 0xd192e819, 0xd6990624, 0xf40e3585, 0x106aa070,
 0x19a4c116, 0x1e376c08, 0x2748774c, 0x34b0bcb5, 0x391c0cb3, 0x4ed8aa4a, 0x5b9cca4f, 0x682e6ff3, 0x748f82ee, 0x78a5636f, 0x84c87814, 0x8cc70208, 0x90befffa, 0xa4506ceb, 0xbef9a3f7, 0xc67178f2]
def shaF : List Nat := [0x6a09e667, 0xbb67ae85, 0x3c6ef372, 0xa54ff53a, 0x510e527f, 0x9b05688c, 0x1f83d9ab, 0x5be0cd19]
def nextW (blk : List UInt8) (ws : List Nat) : Nat :=
 if ws.length < 16 then num ((blk.drop (4 * ws.length)).take 4)
 else (nx ws (ws.length - 16) + nx ws (ws.length - 7) + sp (nx ws (ws.length - 15)) + sq (nx ws (ws.length - 2))) % 4294967296
def numsW (blk : List UInt8) : Nat → List Nat
 | 0 => []
 | i + 1 => numsW blk i ++ [nextW blk (numsW blk i)]
theorem numsW_len (blk : List UInt8) : ∀ i, (numsW blk i).length = i
 | 0 => rfl
 | i + 1 => by rw [numsW, List.length_append, numsW_len blk i]; rfl
theorem numsW_lt (blk : List UInt8) : ∀ i j, nx (numsW blk i) j < 4294967296
 | 0, j => by simp [numsW, nx]
 | i + 1, j => by
  rw [numsW]
  rcases Nat.lt_trichotomy j (numsW blk i).length with h | h | h
  ·rw [nx_left h]; exact numsW_lt blk i j
  ·subst h
   rw [nx_last]
   unfold nextW
   split
   ·refine Nat.lt_of_lt_of_le (num_lt _) ?_
    refine Nat.le_trans (Nat.pow_le_pow_right (by decide) (show _ ≤ 4 by simp; omega)) (by decide)
   ·exact Nat.mod_lt _ (by decide)
  ·have : (numsW blk i ++ [nextW blk (numsW blk i)]).length ≤ j := by simp; omega
   simp [nx, List.getD, List.getElem?_eq_none this]
structure HReg where
 a : Nat
 b : Nat
 c : Nat
 d : Nat
 e : Nat
 f : Nat
 g : Nat
 h : Nat
structure HReg.Ok (r : HReg) : Prop where
 a : r.a < 4294967296
 b : r.b < 4294967296
 c : r.c < 4294967296
 d : r.d < 4294967296
 e : r.e < 4294967296
 f : r.f < 4294967296
 g : r.g < 4294967296
 h : r.h < 4294967296
def rT (r : HReg) (k w : Nat) : Nat := (r.h + sE r.e + chz r.e r.f r.g + k + w) % 4294967296
def rU (r : HReg) : Nat := (sA r.a + maj r.a r.b r.c) % 4294967296
def rnd (k w : Nat) (r : HReg) : HReg :=
 { a := (rT r k w + rU r) % 4294967296, b := r.a, c := r.b, d := r.c, e := (r.d + rT r k w) % 4294967296, f := r.e, g := r.f, h := r.g }
theorem rnd_ok {k w : Nat} {r : HReg} (h : r.Ok) : (rnd k w r).Ok :=
 ⟨Nat.mod_lt _ (by decide), h.a, h.b, h.c, Nat.mod_lt _ (by decide), h.e, h.f, h.g⟩
def regs (s : List Nat) (ws : List Nat) : Nat → HReg
 | 0 => ⟨nx s 0, nx s 1, nx s 2, nx s 3, nx s 4, nx s 5, nx s 6, nx s 7⟩
 | i + 1 => rnd (nx shaK i) (nx ws i) (regs s ws i)
def Is8 (s : List Nat) : Prop := s.length = 8 ∧ ∀ j, nx s j < 4294967296
theorem regs_ok {s ws : List Nat} (h : Is8 s) : ∀ i, (regs s ws i).Ok
 | 0 => ⟨h.2 0, h.2 1, h.2 2, h.2 3, h.2 4, h.2 5, h.2 6, h.2 7⟩
 | i + 1 => rnd_ok (regs_ok h i)
def sumL (s : List Nat) (r : HReg) : List Nat :=
 [(nx s 0 + r.a) % 4294967296, (nx s 1 + r.b) % 4294967296, (nx s 2 + r.c) % 4294967296, (nx s 3 + r.d) % 4294967296, (nx s 4 + r.e) % 4294967296, (nx s 5 + r.f) % 4294967296, (nx s 6 + r.g) % 4294967296, (nx s 7 + r.h) % 4294967296]
def eatL (s : List Nat) (blk : List UInt8) : List Nat := sumL s (regs s (numsW blk 64) 64)
theorem is8_of (a b c d e f g h : Nat) (ha : a < 4294967296) (hb : b < 4294967296) (hc : c < 4294967296) (hd : d < 4294967296) (he : e < 4294967296) (hf : f < 4294967296) (hg : g < 4294967296) (hh : h < 4294967296) : Is8 [a, b, c, d, e, f, g, h] := by
 refine ⟨rfl, fun j => ?_⟩
 unfold nx
 match j with
 | 0 => exact ha
 | 1 => exact hb
 | 2 => exact hc
 | 3 => exact hd
 | 4 => exact he
 | 5 => exact hf
 | 6 => exact hg
 | 7 => exact hh
 | j + 8 => simp [List.getD]
theorem sumL_8 (s : List Nat) (r : HReg) : Is8 (sumL s r) :=
 is8_of _ _ _ _ _ _ _ _ (Nat.mod_lt _ (by decide)) (Nat.mod_lt _ (by decide)) (Nat.mod_lt _ (by decide)) (Nat.mod_lt _ (by decide)) (Nat.mod_lt _ (by decide)) (Nat.mod_lt _ (by decide)) (Nat.mod_lt _ (by decide)) (Nat.mod_lt _ (by decide))
theorem eatL_8 (s : List Nat) (blk : List UInt8) : Is8 (eatL s blk) := sumL_8 _ _
theorem shaF_8 : Is8 shaF := is8_of _ _ _ _ _ _ _ _ (by decide) (by decide) (by decide) (by decide) (by decide) (by decide) (by decide) (by decide)
def zerosOf (n : Nat) : Nat := (64 - (n + 9) % 64) % 64
def tailL (n : Nat) : List UInt8 := 128 :: List.replicate (zerosOf n) 0 ++ enc (8 * n) 8
theorem tailL_len (n : Nat) : (tailL n).length = zerosOf n + 9 := by simp [tailL, enc_len]
theorem tail_whole (n : Nat) : (n + (tailL n).length) % 64 = 0 := by rw [tailL_len]; unfold zerosOf; omega
def eatAll (s : List Nat) (bs : List UInt8) : Nat → List Nat
 | 0 => s
 | i + 1 => eatL (eatAll s bs i) ((bs.take (64 * i + 64)).drop (64 * i))
theorem eatAll_8 {s : List Nat} (h : Is8 s) (bs : List UInt8) : ∀ i, Is8 (eatAll s bs i)
 | 0 => h
 | _ + 1 => eatL_8 _ _
def printL (s : List Nat) : List UInt8 := (s.map fun x => enc x 4).flatten
def sumAll (bs : List UInt8) : List Nat := eatAll shaF (bs ++ tailL bs.length) ((bs.length + (tailL bs.length).length) / 64)
def shaL (bs : List UInt8) : List UInt8 := printL (sumAll bs)
theorem printL_len {s : List Nat} (h : s.length = 8) : (printL s).length = 32 := by
 match s, h with
 | [a, b, c, d, e, f, g, i], _ => simp [printL, enc_len]
theorem shaL_len (bs : List UInt8) : (shaL bs).length = 32 := printL_len (eatAll_8 shaF_8 _ _).1
def chainL : List (List UInt8) → List UInt8
 | [] => shaL []
 | x :: l => l.foldl (fun t b => shaL (t ++ b)) (shaL x)
theorem rot_join {x n : Nat} (h : n < 32) (hn : 0 < n) (hx : x < 4294967296) : (x / 2 ^ n) ||| (x * 2 ^ (32 - n) % 4294967296) = rotr x n := by
 have hp : 2 ^ n * 2 ^ (32 - n) = 4294967296 := by rw [← Nat.pow_add, show n + (32 - n) = 32 from by omega]
 have h1 : x / 2 ^ n < 2 ^ (32 - n) := by
  rw [Nat.div_lt_iff_lt_mul (Nat.pow_pos (by decide)), Nat.mul_comm, hp]; exact hx
 have h2 : x * 2 ^ (32 - n) % 4294967296 = (x % 2 ^ n) * 2 ^ (32 - n) := by
  rw [← hp, Nat.mul_mod_mul_right]
 have h3 : x = 2 ^ n * (x / 2 ^ n) + x % 2 ^ n := (Nat.div_add_mod x (2 ^ n)).symm
 have h4 : x * 2 ^ (32 - n) = 4294967296 * (x / 2 ^ n) + (x % 2 ^ n) * 2 ^ (32 - n) := by
  conv => lhs; rw [h3, Nat.add_mul, Nat.mul_right_comm, hp]
 have h5 : (x % 2 ^ n) * 2 ^ (32 - n) + 2 ^ (32 - n) ≤ 4294967296 := by
  have : x % 2 ^ n + 1 ≤ 2 ^ n := Nat.mod_lt _ (Nat.pow_pos (by decide))
  have := Nat.mul_le_mul_right (2 ^ (32 - n)) this
  rw [Nat.add_mul, hp] at this
  omega
 have h6 : rotr x n = (x % 2 ^ n) * 2 ^ (32 - n) + x / 2 ^ n := by
  unfold rotr
  rw [h4]
  generalize (x % 2 ^ n) * 2 ^ (32 - n) = r at *
  generalize x / 2 ^ n = q at *
  generalize 2 ^ (32 - n) = p at *
  omega
 rw [h2, h6, Nat.or_comm, Nat.mul_comm, ← Nat.two_pow_add_eq_or_of_lt h1]
end Go.Proofs.YtopilgedcnbdaaaDoor