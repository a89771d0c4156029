/- The contract of the document's own Eat (citadelref03): a state of eight numbers that eats a block. -/
import Derived.Test.YtopilgedcnbdaaaDoorTz
import Derived.Test.YtopilgedcnbdaaaDoorShaRefN
namespace Go.Proofs.YtopilgedcnbdaaaDoor
set_option maxRecDepth 1000000
set_option maxHeartbeats 8000000
open Go.RowKit
set_option linter.unusedVariables false
theorem not_u32 {e : Nat} (he : e < 4294967296) : bits BinOp.xor IntKind.u32 (if IntKind.u32.signed = true then -1 else IntKind.u32.max) (e : Int) = ((4294967295 - e : Nat) : Int) := by
 have h1 : (if IntKind.u32.signed = true then (-1 : Int) else IntKind.u32.max) = ((4294967295 : Nat) : Int) := by decide
 rw [h1, u32_xor_nat _ _ (by decide) he]
 congr 1
 have h2 : (4294967295 : Nat) ^^^ e = 2 ^ 32 - (e + 1) := by
  apply Nat.eq_of_testBit_eq
  intro i
  rw [Nat.testBit_xor, show (4294967295 : Nat) = 2 ^ 32 - 1 from rfl, Nat.testBit_two_pow_sub_one, Nat.testBit_two_pow_sub_succ he]
  by_cases hi : i < 32
  ·simp [hi]
  ·have : e.testBit i = false := Nat.testBit_lt_two_pow (Nat.lt_of_lt_of_le he (Nat.pow_le_pow_right (n := 2) (by decide) (show 32 ≤ i by omega)))
   simp [hi, this]
 rw [h2]; omega
theorem ch_val {e f g : Nat} (he : e < 4294967296) (hf : f < 4294967296) (hg : g < 4294967296) :
  bits BinOp.or IntKind.u32 (bits BinOp.and IntKind.u32 (e : Int) (f : Int)) (bits BinOp.and IntKind.u32 (bits BinOp.xor IntKind.u32 (if IntKind.u32.signed = true then -1 else IntKind.u32.max) (e : Int)) (g : Int)) = ((chz e f g : Nat) : Int) := by
 rw [not_u32 he, u32_and_nat _ _ he hf, u32_and_nat _ _ (by omega) hg, u32_or_nat _ _ (Nat.lt_of_le_of_lt Nat.and_le_left he) (Nat.lt_of_le_of_lt Nat.and_le_right hg)]
 rfl
theorem t_val {h e f g k w : Nat} (hh : h < 4294967296) (he : e < 4294967296) (hf : f < 4294967296) (hg : g < 4294967296) :
  (((h : Int) + bits BinOp.xor IntKind.u32 (bits BinOp.xor IntKind.u32 ((rotr e 6 : Nat) : Int) ((rotr e 11 : Nat) : Int)) ((rotr e 25 : Nat) : Int) +
   bits BinOp.or IntKind.u32 (bits BinOp.and IntKind.u32 (e : Int) (f : Int)) (bits BinOp.and IntKind.u32 (bits BinOp.xor IntKind.u32 (if IntKind.u32.signed = true then -1 else IntKind.u32.max) (e : Int)) (g : Int)) + (k : Int)) % 4294967296 + (w : Int)) % 4294967296
   = (((h + sE e + chz e f g + k + w) % 4294967296 : Nat) : Int) := by
 rw [ch_val he hf hg, u32_xors (rotr_lt e 6) (rotr_lt e 11) (rotr_lt e 25)]
 unfold sE
 omega
theorem maj_val {a b c : Nat} (ha : a < 4294967296) (hb : b < 4294967296) (hc : c < 4294967296) :
  bits BinOp.xor IntKind.u32 (bits BinOp.xor IntKind.u32 (bits BinOp.and IntKind.u32 (a : Int) (b : Int)) (bits BinOp.and IntKind.u32 (a : Int) (c : Int))) (bits BinOp.and IntKind.u32 (b : Int) (c : Int)) = ((maj a b c : Nat) : Int) := by
 rw [u32_and_nat _ _ ha hb, u32_and_nat _ _ ha hc, u32_and_nat _ _ hb hc, u32_xors (Nat.lt_of_le_of_lt Nat.and_le_left ha) (Nat.lt_of_le_of_lt Nat.and_le_left ha) (Nat.lt_of_le_of_lt Nat.and_le_left hb)]
 rfl
theorem u_val {a b c t : Nat} (ha : a < 4294967296) (hb : b < 4294967296) (hc : c < 4294967296) :
  ((t : Int) + (bits BinOp.xor IntKind.u32 (bits BinOp.xor IntKind.u32 ((rotr a 2 : Nat) : Int) ((rotr a 13 : Nat) : Int)) ((rotr a 22 : Nat) : Int) +
   bits BinOp.xor IntKind.u32 (bits BinOp.xor IntKind.u32 (bits BinOp.and IntKind.u32 (a : Int) (b : Int)) (bits BinOp.and IntKind.u32 (a : Int) (c : Int))) (bits BinOp.and IntKind.u32 (b : Int) (c : Int))) % 4294967296) % 4294967296
   = (((t + (sA a + maj a b c) % 4294967296) % 4294967296 : Nat) : Int) := by
 rw [maj_val ha hb hc, u32_xors (rotr_lt a 2) (rotr_lt a 13) (rotr_lt a 22)]
 unfold sA
 omega
def RegIs (r : HReg) (a b c d e f g h : Value) : Prop :=
 a = .int .u32 (r.a : Int) ∧ b = .int .u32 (r.b : Int) ∧ c = .int .u32 (r.c : Int) ∧ d = .int .u32 (r.d : Int) ∧ e = .int .u32 (r.e : Int) ∧ f = .int .u32 (r.f : Int) ∧ g = .int .u32 (r.g : Int) ∧ h = .int .u32 (r.h : Int)
def EatRel (w : World) (s ws : List Nat) (a b c d e f g h i : Value) (wr : World) : Prop :=
 ∃ k : Nat, k ≤ 64 ∧ i = .int .i64 (k : Int) ∧ RegIs (regs s ws k) a b c d e f g h ∧ ∃ q, wr = w.drewN q
end Go.Proofs.YtopilgedcnbdaaaDoor