/- The contract of the document's own Eat (citadelref03): a state of eight numbers that eats a block. -/
import Derived.Test.YtopilgedcnbdaaaGreatDoorTz
import Derived.Test.YtopilgedcnbdaaaGreatDoorShaRefN
namespace Go.Proofs.YtopilgedcnbdaaaGreatDoor
set_option maxRecDepth 1000000
set_option maxHeartbeats 8000000
open Go.RowKit
set_option linter.unusedVariables false
theorem rTurnZ {x : Nat} {z : Int} (n : Nat) (hz : z = (n : Int)) (q : Nat) (w : World) (hx : x < 4294967296) (h1 : 0 < n) (h2 : n < 32) :
  Calls Tryz.prog 64 #[.int .u32 (x : Int), .int .u64 z] (w.drewN q) fun e w'' => e = .returned (.int .u32 (rotr x n : Int)) ∧ ∃ m, w'' = w.drewN m := by
 subst hz
 exact (rTurn x n (w.drewN q) hx h1 h2).mono fun _ _ ⟨he, hw⟩ => ⟨he, q, hw.symm⟩
theorem not_u32 {e : Nat} (he : e < 4294967296) : bits BinOp.xor IntKind.u32 (if IntKind.u32.signed = true then -1 else IntKind.u32.max) (e : Int) = ((4294967295 - e : Nat) : Int) := by
 have h1 : (if IntKind.u32.signed = true then (-1 : Int) else IntKind.u32.max) = ((4294967295 : Nat) : Int) := by decide
 rw [h1, u32_xor_nat _ _ (by decide) he]
 congr 1
 have h2 : (4294967295 : Nat) ^^^ e = 2 ^ 32 - (e + 1) := by
  apply Nat.eq_of_testBit_eq
  intro i
  rw [Nat.testBit_xor, show (4294967295 : Nat) = 2 ^ 32 - 1 from rfl, Nat.testBit_two_pow_sub_one, Nat.testBit_two_pow_sub_succ he]
  by_cases hi : i < 32
  ·simp [hi]
  ·have : e.testBit i = false := Nat.testBit_lt_two_pow (Nat.lt_of_lt_of_le he (Nat.pow_le_pow_right (n := 2) (by decide) (show 32 ≤ i by omega)))
   simp [hi, this]
 rw [h2]; omega
theorem ch_val {e f g : Nat} (he : e < 4294967296) (hf : f < 4294967296) (hg : g < 4294967296) :
  bits BinOp.or IntKind.u32 (bits BinOp.and IntKind.u32 (e : Int) (f : Int)) (bits BinOp.and IntKind.u32 (bits BinOp.xor IntKind.u32 (if IntKind.u32.signed = true then -1 else IntKind.u32.max) (e : Int)) (g : Int)) = ((chz e f g : Nat) : Int) := by
 rw [not_u32 he, u32_and_nat _ _ he hf, u32_and_nat _ _ (by omega) hg, u32_or_nat _ _ (Nat.lt_of_le_of_lt Nat.and_le_left he) (Nat.lt_of_le_of_lt Nat.and_le_right hg)]
 rfl
theorem t_val {h e f g k w : Nat} (hh : h < 4294967296) (he : e < 4294967296) (hf : f < 4294967296) (hg : g < 4294967296) :
  (((h : Int) + bits BinOp.xor IntKind.u32 (bits BinOp.xor IntKind.u32 ((rotr e 6 : Nat) : Int) ((rotr e 11 : Nat) : Int)) ((rotr e 25 : Nat) : Int) +
   bits BinOp.or IntKind.u32 (bits BinOp.and IntKind.u32 (e : Int) (f : Int)) (bits BinOp.and IntKind.u32 (bits BinOp.xor IntKind.u32 (if IntKind.u32.signed = true then -1 else IntKind.u32.max) (e : Int)) (g : Int)) + (k : Int)) % 4294967296 + (w : Int)) % 4294967296
   = (((h + sE e + chz e f g + k + w) % 4294967296 : Nat) : Int) := by
 rw [ch_val he hf hg, u32_xors (rotr_lt e 6) (rotr_lt e 11) (rotr_lt e 25)]
 unfold sE
 omega
theorem maj_val {a b c : Nat} (ha : a < 4294967296) (hb : b < 4294967296) (hc : c < 4294967296) :
  bits BinOp.xor IntKind.u32 (bits BinOp.xor IntKind.u32 (bits BinOp.and IntKind.u32 (a : Int) (b : Int)) (bits BinOp.and IntKind.u32 (a : Int) (c : Int))) (bits BinOp.and IntKind.u32 (b : Int) (c : Int)) = ((maj a b c : Nat) : Int) := by
 rw [u32_and_nat _ _ ha hb, u32_and_nat _ _ ha hc, u32_and_nat _ _ hb hc, u32_xors (Nat.lt_of_le_of_lt Nat.and_le_left ha) (Nat.lt_of_le_of_lt Nat.and_le_left ha) (Nat.lt_of_le_of_lt Nat.and_le_left hb)]
 rfl
theorem u_val {a b c t : Nat} (ha : a < 4294967296) (hb : b < 4294967296) (hc : c < 4294967296) :
  ((t : Int) + (bits BinOp.xor IntKind.u32 (bits BinOp.xor IntKind.u32 ((rotr a 2 : Nat) : Int) ((rotr a 13 : Nat) : Int)) ((rotr a 22 : Nat) : Int) +
   bits BinOp.xor IntKind.u32 (bits BinOp.xor IntKind.u32 (bits BinOp.and IntKind.u32 (a : Int) (b : Int)) (bits BinOp.and IntKind.u32 (a : Int) (c : Int))) (bits BinOp.and IntKind.u32 (b : Int) (c : Int))) % 4294967296) % 4294967296
   = (((t + (sA a + maj a b c) % 4294967296) % 4294967296 : Nat) : Int) := by
 rw [maj_val ha hb hc, u32_xors (rotr_lt a 2) (rotr_lt a 13) (rotr_lt a 22)]
 unfold sA
 omega
def RegIs (r : HReg) (a b c d e f g h : Value) : Prop :=
 a = .int .u32 (r.a : Int) ∧ b = .int .u32 (r.b : Int) ∧ c = .int .u32 (r.c : Int) ∧ d = .int .u32 (r.d : Int) ∧ e = .int .u32 (r.e : Int) ∧ f = .int .u32 (r.f : Int) ∧ g = .int .u32 (r.g : Int) ∧ h = .int .u32 (r.h : Int)
def EatRel (w : World) (s ws : List Nat) (a b c d e f g h i : Value) (wr : World) : Prop :=
 ∃ k : Nat, k ≤ 64 ∧ i = .int .i64 (k : Int) ∧ RegIs (regs s ws k) a b c d e f g h ∧ ∃ q, wr = w.drewN q
theorem rEat (A A' : Option Addr) (c d : Nat) (s : List Nat) (blk : List UInt8) (w : World) (hs : RdK .u32 w w.heap.size A 8 s) (hs8 : Is8 s) (ha : Rd w w.heap.size A' 64 blk) (hd : 64 ≤ d) (hd' : d ≤ 9223372036854775807) :
  Calls Tryz.prog 41 #[.slice A 8 c, .slice A' 64 d] w fun e w' => RetK .u32 100 w (eatL s blk) e w' := by
 have HS := qH hs
 have HA := qH ha
 clear hs ha
 go_enter Tryz.func41, Tryz.ntmps41
 go_wp2_with fail
 refine (rNumbers A' d blk w HA.out hd hd').mono ?_
 rintro e w1 ⟨A1, n1, c1, rfl, hown1, hb⟩
 have W := qH (RdK.of_own hown1)
 obtain rfl : n1 = 64 := by rw [← W.out.1, numsW_len]
 have B := qH hb
 replace HS := qH (HS.out.to hb)
 clear hown1 hb HA
 go_wp2_with fail
 refine (rTable w1).mono ?_
 rintro e w2 ⟨A2, n2, c2, rfl, hown2, hb⟩
 have T := qH (RdK.of_own hown2)
 obtain rfl : n2 = 64 := by rw [← T.out.1]; rfl
 replace W := qH (W.out.to hb)
 replace HS := qH (HS.out.to hb)
 replace B := qH (B.out.trans (hb.mono B.out.size))
 clear hown2 hb
 obtain ⟨b, o, rfl, hbo, hc⟩ := HS.out.2 (by decide)
 obtain ⟨b1, o1, rfl, hbo1, hc1⟩ := W.out.2 (by decide)
 obtain ⟨b2, o2, rfl, hbo2, hc2⟩ := T.out.2 (by decide)
 have f0 := hc 0 (by decide)
 rw [Nat.add_zero] at f0
 have f1 := hc 1 (by decide)
 have f2 := hc 2 (by decide)
 have f3 := hc 3 (by decide)
 have f4 := hc 4 (by decide)
 have f5 := hc 5 (by decide)
 have f6 := hc 6 (by decide)
 have f7 := hc 7 (by decide)
 have HC1 := qH hc1
 have HC2 := qH hc2
 clear hc hc1 hc2 hbo hbo1 hbo2
 go_wp2_with fail
 go_quiet (fail)
 go_wp2_with fail
 go_loopw [7, 8, 9, 10, 11, 12, 13, 14, 15] (fun a b c d e f g h i wr => EatRel w2 s (numsW blk 64) a b c d e f g h i wr) (fun _ _ _ _ _ _ _ _ i _ => 64 - (intOf i).toNat)
 case atStart => exact ⟨0, Nat.zero_le _, rfl, ⟨rfl, rfl, rfl, rfl, rfl, rfl, rfl, rfl⟩, _, rfl⟩
 case round =>
  obtain ⟨k, hk, rfl, ⟨rfl, rfl, rfl, rfl, rfl, rfl, rfl, rfl⟩, hq⟩ := hrel
  have HK := qH hk
  have HQ := qH hq
  clear hk hq
  by_cases h64 : (k : Int) < 64
  ·have RO := qH (regs_ok (ws := numsW blk 64) hs8 k)
   have HE : Hid (regs s (numsW blk 64) (k + 1) = rnd (nx shaK k) (nx (numsW blk 64) k) (regs s (numsW blk 64) k)) := rfl
   have g1 : wr.cell? ⟨b1, o1 + k, none⟩ = some (.int .u32 (nx (numsW blk 64) k : Int)) := by
    obtain ⟨q, rfl⟩ := HQ.out; exact HC1.out k (by omega)
   have g2 : wr.cell? ⟨b2, o2 + k, none⟩ = some (.int .u32 (nx shaK k : Int)) := by
    obtain ⟨q, rfl⟩ := HQ.out; exact HC2.out k (by omega)
   generalize regs s (numsW blk 64) k = r at *
   obtain ⟨a, b_, c_, d_, e_, f_, g_, h_⟩ := r
   generalize nx (numsW blk 64) k = wk at *
   generalize nx shaK k = kk at *
   have ha := RO.out.a
   have he := RO.out.e
   dsimp only at ha he
   go_wp2_with fail
   go_quiet (first | (go_at_call 64; (with_reducible refine rTurnZ 6 ?_ _ _ he ?_ ?_) <;> decide) | (go_at_call 64; (with_reducible refine rTurnZ 11 ?_ _ _ he ?_ ?_) <;> decide) | (go_at_call 64; (with_reducible refine rTurnZ 25 ?_ _ _ he ?_ ?_) <;> decide))
   have hh := RO.out.h
   have hf := RO.out.f
   have hg := RO.out.g
   have hb := RO.out.b
   have hc := RO.out.c
   dsimp only at hh hf hg hb hc
   rw [t_val hh he hf hg]
   generalize hz : wr.drewN nq = wz
   generalize htt : (h_ + sE e_ + chz e_ f_ g_ + kk + wk) % 4294967296 = tt
   have HZ := qH hz
   have HTT := qH htt
   clear hz htt g1 g2
   go_wp2_with fail
   refine (rTurn a 2 _ ha (by decide) (by decide)).mono ?_
   rintro e w' ⟨rfl, rfl⟩
   go_wp2_with fail
   refine (rTurn a 13 _ ha (by decide) (by decide)).mono ?_
   rintro e w' ⟨rfl, rfl⟩
   go_wp2_with fail
   refine (rTurn a 22 _ ha (by decide) (by decide)).mono ?_
   rintro e w' ⟨rfl, rfl⟩
   go_wp2_with fail
   go_roundw
   case rel =>
    rw [u_val ha hb hc]
    refine ⟨k + 1, by have := HK.out; omega, by go_num, ?_, ?_⟩
    ·rw [HE.out]
     refine ⟨?_, rfl, rfl, rfl, ?_, rfl, rfl, rfl⟩
     ·simp only [rnd, rT, rU, HTT.out]
     ·simp only [rnd, rT, HTT.out]; congr 1
    ·obtain ⟨q, rfl⟩ := HQ.out
     exact ⟨q + nq, by rw [← HZ.out, World.drewN_drewN]⟩
   case measure => simp [intOf]; omega
  ·obtain rfl : k = 64 := by have := HK.out; omega
   have RO := qH (regs_ok (ws := numsW blk 64) hs8 64)
   have h0 : wr.cell? ⟨b, o, none⟩ = some (.int .u32 (nx s 0 : Int)) := by obtain ⟨q, rfl⟩ := HQ.out; exact f0
   have h1 : wr.cell? ⟨b, o + 1, none⟩ = some (.int .u32 (nx s 1 : Int)) := by obtain ⟨q, rfl⟩ := HQ.out; exact f1
   have h2 : wr.cell? ⟨b, o + 2, none⟩ = some (.int .u32 (nx s 2 : Int)) := by obtain ⟨q, rfl⟩ := HQ.out; exact f2
   have h3 : wr.cell? ⟨b, o + 3, none⟩ = some (.int .u32 (nx s 3 : Int)) := by obtain ⟨q, rfl⟩ := HQ.out; exact f3
   have h4 : wr.cell? ⟨b, o + 4, none⟩ = some (.int .u32 (nx s 4 : Int)) := by obtain ⟨q, rfl⟩ := HQ.out; exact f4
   have h5 : wr.cell? ⟨b, o + 5, none⟩ = some (.int .u32 (nx s 5 : Int)) := by obtain ⟨q, rfl⟩ := HQ.out; exact f5
   have h6 : wr.cell? ⟨b, o + 6, none⟩ = some (.int .u32 (nx s 6 : Int)) := by obtain ⟨q, rfl⟩ := HQ.out; exact f6
   have h7 : wr.cell? ⟨b, o + 7, none⟩ = some (.int .u32 (nx s 7 : Int)) := by obtain ⟨q, rfl⟩ := HQ.out; exact f7
   have HL : Hid (eatL s blk = sumL s (regs s (numsW blk 64) 64)) := rfl
   have HB2 : Hid (Below w.heap.size w wr) := by obtain ⟨q, rfl⟩ := HQ.out; exact below_drewN B.out q
   clear f0 f1 f2 f3 f4 f5 f6 f7 HC1 HC2 B HQ
   generalize regs s (numsW blk 64) 64 = r at *
   obtain ⟨a, b_, c_, d_, e_, f_, g_, h_⟩ := r
   go_wp2_with fail
   go_region_held (fun w' => w'.cell? ⟨b, o, none⟩ = some (.int .u32 (nx s 0 : Int)) ∧ w'.cell? ⟨b, o + 1, none⟩ = some (.int .u32 (nx s 1 : Int)) ∧ w'.cell? ⟨b, o + 2, none⟩ = some (.int .u32 (nx s 2 : Int)) ∧ w'.cell? ⟨b, o + 3, none⟩ = some (.int .u32 (nx s 3 : Int)) ∧ w'.cell? ⟨b, o + 4, none⟩ = some (.int .u32 (nx s 4 : Int)) ∧ w'.cell? ⟨b, o + 5, none⟩ = some (.int .u32 (nx s 5 : Int)) ∧ w'.cell? ⟨b, o + 6, none⟩ = some (.int .u32 (nx s 6 : Int)) ∧ w'.cell? ⟨b, o + 7, none⟩ = some (.int .u32 (nx s 7 : Int))) (go_keep) (fail)
   go_wp2_with fail
   have hv : ∀ x y : Nat, IntKind.u32.wrap ((x : Int) + (y : Int)) = (((x + y) % 4294967296 : Nat) : Int) := fun x y => by
    rw [IntKind.wrap_u32']; omega
   simp only [hv]
   go_ret
   rw [HL.out]
   exact RetK.mk (own_top ((sumL s ⟨a, b_, c_, d_, e_, f_, g_, h_⟩).map (kv .u32)) 100 HB2.out.size (kvs_one _ _) (by simp [sumL])).drew (HB2.out.alloc HB2.out.size _).drew
end Go.Proofs.YtopilgedcnbdaaaGreatDoor