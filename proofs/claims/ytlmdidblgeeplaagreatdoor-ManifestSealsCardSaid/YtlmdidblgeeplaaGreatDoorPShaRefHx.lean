/- Several texts in one (a claim has 60 files at most): PushL, ShaP, NumW, ShaRefH. -/
import Derived.Test.YtlmdidblgeeplaaGreatDoorTz
import Derived.Test.YtlmdidblgeeplaaGreatDoorPWA
import Derived.Laws.BytesString
namespace Go.Proofs.YtlmdidblgeeplaaGreatDoor
set_option maxRecDepth 1000000
set_option maxHeartbeats 8000000
set_option linter.unusedVariables false
set_option linter.unusedSimpArgs false
section
open Go.RowKit
theorem wpList_pushAllL {P : Program} {T U : TypeId} (L : U8 P T U) {ops : Array Oper} {rest : List Oper} {o : Oper} {a : Act} {Q : Exit → Act → World → Prop} (hgd : o.guard = none) (s x : Operand)
  (ho : o.op = .call { callee := .builtin .append, args := #[s, x], argTypes := #[T, T] }) {B B' k m c : Nat} {A : Option Addr} {w wr : World} {v : Value} {bs news : List UInt8} (hs : a.eval s = v)
  (hx : a.eval x = .slice A m c) (hm0 : m = 0 → A = none) (hown : wr.ownsRow B U 1 v k (bs.map bval)) (hr : Rd wr B' A m news) (hb : Below B w wr) (hB : B ≤ wr.heap.size) (hk : k + m ≤ 140737488355328)
  (h : ∀ v' w1, w1.ownsRow B U 1 v' (k + m) ((bs ++ news).map bval) → Below B w w1 → Keep (fun k => v.ownBlock = some k) wr w1 → (∀ b, v'.ownBlock = some b → v.ownBlock = some b ∨ wr.heap.size ≤ b) → wpList P ops Q rest (a.put o.dst v') w1) : wpList P ops Q (o :: rest) a wr := by
 obtain ⟨i0, hi, hz0, hz1, hz2⟩ := info_parts L.info
 have hlen : news.length = m := hr.1
 by_cases h0 : m = 0
 ·subst h0
  obtain rfl := hm0 rfl
  obtain rfl : news = [] := List.eq_nil_of_length_eq_zero hlen
  have hrun : (Builtin.append_ #[T, T] o.type #[v, .slice none 0 c]).run P wr = .ok v wr := by
   have hul := L.ul
   rcases hown.2 with ⟨rfl, rfl⟩ | ⟨g, cap, cur, rfl, _, _, hnc, _⟩
   ·simp [Builtin.append_, run_underlying hul, sizeOf, typeInfo, hi, Builtin.lenOf, Builtin.firstCells]
   ·simp [Builtin.append_, run_underlying hul, sizeOf, typeInfo, hi, Builtin.lenOf, Builtin.firstCells, hnc, storeCells]
  refine wpList_plain hgd fun K hK => ?_
  unfold Oper.wp execOp
  simp only [ho, resolve, invoke, builtin, Sem.run_bind, Sem.run_pure, Result.andThen_ok, List.map_toArray, List.map_cons, List.map_nil, hs, hx, hrun]
  exact hK _ _ (h v wr (by simpa using hown) hb (Keep.refl _ _) (fun b e => .inl e))
 ·obtain ⟨b, of, rfl, _, hc⟩ := hr.2 (by omega)
  refine wpList_plain hgd fun K hK => ?_
  refine wp_append_lies _ s x T ho B U i0 (.int .u8 0) 1 1 L.ul hi hz0 hz1 hz2 rfl (by decide) v k _ hs hown ⟨b, of, none⟩ m c (news.map bval) hx (by simpa using hlen) ?_ (bvals_one _) (by omega) ?_ ?_ hB _ rfl ?_
  ·intro j u hu
   have hj : j < m := by
    rcases Nat.lt_or_ge j m with g | g
    ·exact g
    ·rw [List.getElem?_eq_none (by simpa [hlen] using g)] at hu; cases hu
   have e : (⟨b, of, none⟩ : Addr).add j = ⟨b, of + j, none⟩ := by unfold Addr.add; split <;> simp_all
   rw [e, hc j hj, ← hu, List.getElem?_map, List.getElem?_eq_getElem (by omega), nth_of_lt (by omega)]
   rfl
  ·unfold maxLen; omega
  ·omega
  ·intro g cap w1 hown' hgrow hg _
   refine hK _ _ (h _ w1 (by rw [List.map_append]; exact hown') (hb.grown hgrow hB (fun j hj => (hown.lt j hj).1)) ⟨hgrow.os, hgrow.tape, hgrow.output, hgrow.size, fun k hk hn => hgrow.block k hk (fun e => hn e.symm)⟩ (fun b' e => ?_))
   simp only [Value.ownBlock, Option.some.injEq] at e
   subst e
   rcases hg with h | h
   ·exact .inl h
   ·exact .inr (by omega)
end
section
open Go.RowKit
theorem low_bits (n : Nat) (h1 : 0 < n) (h2 : n < 32) : bits .and .u64 ((18446744073709551616 - n : Nat) : Int) 31 = ((32 - n : Nat) : Int) := by
 have h := u64_and_nat (18446744073709551616 - n) 31 (by omega) (by decide)
 rw [nat_mask5] at h
 refine h.trans ?_
 congr 1
 omega
theorem wRotl (x n : Nat) (w : World) (hx : x < 4294967296) (h1 : 0 < n) (h2 : n < 32) :
  Calls Tryz.prog 225 #[.int .u32 (x : Int), .int .i64 (-(n : Int))] w fun e w' => e = .returned (.int .u32 (rotr x n : Int)) ∧ w = w' := by
 obtain ⟨c, hc⟩ : ∃ c, c = 18446744073709551616 - n := ⟨_, rfl⟩
 obtain ⟨s, hs⟩ : ∃ s, s = 32 - n := ⟨_, rfl⟩
 have e1 : IntKind.u64.wrap (-(n : Int)) = (c : Int) := by rw [IntKind.wrap_u64]; omega
 have e2 : bits .and .u64 (c : Int) 31 = (s : Int) := by rw [hc, hs]; exact low_bits n h1 h2
 have e3 : (32 : Int) - (s : Int) = (n : Int) := by omega
 have e6 : bits .or .u32 ((x : Int) * 2 ^ s % 4294967296) ((x : Int) / 2 ^ n) = (rotr x n : Int) := by
  have a1 : (x : Int) * 2 ^ s % 4294967296 = ((x * 2 ^ s % 4294967296 : Nat) : Int) := by rw [Int.natCast_emod, Int.natCast_mul, Int.natCast_pow]; rfl
  have a2 : (x : Int) / 2 ^ n = ((x / 2 ^ n : Nat) : Int) := by rw [Int.natCast_ediv, Int.natCast_pow]; rfl
  rw [a1, a2, u32_or_nat _ _ (Nat.mod_lt _ (by decide)) (Nat.lt_of_le_of_lt (Nat.div_le_self _ _) hx), Nat.or_comm, hs, rot_join h2 h1 hx]
 have E6 := qH e6
 clear hc hs e6
 go_enter Tryz.func225, Tryz.ntmps225
 go_wp2
 go_ret
 exact ⟨ret_int E6.out, rfl⟩
theorem wRotr (x n : Nat) {z : Int} (hz : z = (n : Int)) (w : World) (hx : x < 4294967296) (h1 : 0 < n) (h2 : n < 32) :
  Calls Tryz.prog 220 #[.int .u32 (x : Int), .int .i64 z] w fun e w' => e = .returned (.int .u32 (rotr x n : Int)) ∧ w = w' := by
 subst hz
 have e1 : IntKind.i64.wrap (-(n : Int)) = -(n : Int) := IntWalk.i64_in _ (by omega)
 go_enter Tryz.func220, Tryz.ntmps220
 go_wp2_with fail
 refine (wRotl x n w hx h1 h2).mono ?_
 rintro e w' ⟨rfl, rfl⟩
 go_wp2_with fail
 go_ret
 exact ⟨rfl, rfl⟩
theorem wRotrZ {x : Nat} {z : Int} (n : Nat) (hz : z = (n : Int)) (q : Nat) (w : World) (hx : x < 4294967296) (h1 : 0 < n) (h2 : n < 32) :
  Calls Tryz.prog 220 #[.int .u32 (x : Int), .int .i64 z] (w.drewN q) fun e w'' => e = .returned (.int .u32 (rotr x n : Int)) ∧ ∃ m, w'' = w.drewN m :=
 (wRotr x n hz (w.drewN q) hx h1 h2).mono fun _ _ ⟨he, hw⟩ => ⟨he, q, hw.symm⟩
theorem xor3 {a b c : Nat} (ha : a < 4294967296) (hb : b < 4294967296) (hc : c < 4294967296) :
  bits .xor .u32 (bits .xor .u32 (a : Int) (b : Int)) (c : Int) = ((a ^^^ b ^^^ c : Nat) : Int) := u32_xors ha hb hc
theorem wTurned (x i j k : Nat) {zi zj zk : Int} (hi : zi = (i : Int)) (hj : zj = (j : Int)) (hk : zk = (k : Int)) (w : World) (hx : x < 4294967296) (hi1 : 0 < i ∧ i < 32) (hj1 : 0 < j ∧ j < 32) (hk1 : 0 < k ∧ k < 32) :
  Calls Tryz.prog 203 #[.int .u32 (x : Int), .int .i64 zi, .int .i64 zj, .int .i64 zk] w fun e w' => e = .returned (.int .u32 ((rotr x i ^^^ rotr x j ^^^ rotr x k : Nat) : Int)) ∧ w = w' := by
 subst hi; subst hj; subst hk
 go_enter Tryz.func203, Tryz.ntmps203
 go_wp2_with fail
 refine (wRotr x i rfl w hx hi1.1 hi1.2).mono ?_
 rintro e w' ⟨rfl, rfl⟩
 go_wp2_with fail
 refine (wRotr x j rfl w hx hj1.1 hj1.2).mono ?_
 rintro e w' ⟨rfl, rfl⟩
 go_wp2_with fail
 refine (wRotr x k rfl w hx hk1.1 hk1.2).mono ?_
 rintro e w' ⟨rfl, rfl⟩
 go_wp2_with fail
 go_ret
 exact ⟨ret_int (xor3 (rotr_lt _ _) (rotr_lt _ _) (rotr_lt _ _)), rfl⟩
theorem wShifted (x i j k : Nat) {zi zj zk : Int} (hi : zi = (i : Int)) (hj : zj = (j : Int)) (hk : zk = (k : Int)) (w : World) (hx : x < 4294967296) (hi1 : 0 < i ∧ i < 32) (hj1 : 0 < j ∧ j < 32) (hk1 : 0 < k ∧ k < 32) :
  Calls Tryz.prog 219 #[.int .u32 (x : Int), .int .i64 zi, .int .i64 zj, .int .i64 zk] w fun e w' => e = .returned (.int .u32 ((rotr x i ^^^ rotr x j ^^^ x / 2 ^ k : Nat) : Int)) ∧ ∃ q, w' = w.drewN q := by
 subst hi; subst hj; subst hk
 obtain ⟨i1, i2⟩ := hi1
 obtain ⟨j1, j2⟩ := hj1
 go_enter Tryz.func219, Tryz.ntmps219
 go_wp2_with fail
 go_quiet (first | (go_at_call 220; (with_reducible refine wRotrZ i ?_ _ _ hx ?_ ?_) <;> (first | (with_reducible rfl) | assumption)) | (go_at_call 220; (with_reducible refine wRotrZ j ?_ _ _ hx ?_ ?_) <;> (first | (with_reducible rfl) | assumption)))
 have a2 : (x : Int) / 2 ^ k = ((x / 2 ^ k : Nat) : Int) := by rw [Int.natCast_ediv, Int.natCast_pow]; rfl
 go_wp2_with fail
 go_ret
 exact ⟨ret_int (by rw [a2]; exact xor3 (rotr_lt _ _) (rotr_lt _ _) (Nat.lt_of_le_of_lt (Nat.div_le_self _ _) hx)), _, rfl⟩
theorem wChosen (e f g : Nat) (w : World) (he : e < 4294967296) (hf : f < 4294967296) (hg : g < 4294967296) :
  Calls Tryz.prog 204 #[.int .u32 (e : Int), .int .u32 (f : Int), .int .u32 (g : Int)] w fun e' w' => e' = .returned (.int .u32 ((chz e f g : Nat) : Int)) ∧ w = w' := by
 go_enter Tryz.func204, Tryz.ntmps204
 go_wp2
 go_ret
 exact ⟨ret_int (ch_val he hf hg), rfl⟩
theorem maj_or (a b c : Nat) : (a &&& b ||| a &&& c ||| b &&& c) = maj a b c := by
 unfold maj
 apply Nat.eq_of_testBit_eq
 intro i
 simp only [Nat.testBit_or, Nat.testBit_and, Nat.testBit_xor]
 cases a.testBit i <;> cases b.testBit i <;> cases c.testBit i <;> rfl
theorem wMajority (a b c : Nat) (w : World) (ha : a < 4294967296) (hb : b < 4294967296) (hc : c < 4294967296) :
  Calls Tryz.prog 205 #[.int .u32 (a : Int), .int .u32 (b : Int), .int .u32 (c : Int)] w fun e' w' => e' = .returned (.int .u32 ((maj a b c : Nat) : Int)) ∧ w = w' := by
 go_enter Tryz.func205, Tryz.ntmps205
 go_wp2
 go_ret
 refine ⟨ret_int ?_, rfl⟩
 rw [u32_and_nat _ _ ha hb, u32_and_nat _ _ ha hc, u32_and_nat _ _ hb hc, u32_or_nat _ _ (Nat.lt_of_le_of_lt Nat.and_le_left ha) (Nat.lt_of_le_of_lt Nat.and_le_left ha), u32_or_nat _ _ (Nat.or_lt_two_pow (n := 32) (Nat.lt_of_le_of_lt Nat.and_le_left ha) (Nat.lt_of_le_of_lt Nat.and_le_left ha)) (Nat.lt_of_le_of_lt Nat.and_le_left hb), maj_or]
end
section
open Go.RowKit
def NumRel (n : Nat) (bs : List UInt8) (x i : Value) : Prop :=
 ∃ k : Nat, k ≤ n ∧ i = .int .i64 (k : Int) ∧ x = .int .u64 ((num (bs.take k) : Nat) : Int)
theorem wNumber (A : Option Addr) (n c B : Nat) (bs : List UInt8) (w : World) (ha : Rd w B A n bs) (hn : n ≤ 140737488355328) :
  Calls Tryz.prog 206 #[.slice A n c] w fun e w' => e = .returned (.tuple #[.int .u64 (numOf bs : Int), .bool (numOk bs)]) ∧ w = w' := by
 by_cases h0 : n < 1
 ·go_enter Tryz.func206, Tryz.ntmps206
  go_wp2
  go_ret2
  refine ⟨?_, rfl⟩
  have hl := ha.1
  rw [show numOf bs = 0 from by unfold numOf; rw [if_pos (by omega)], show numOk bs = false from by simp [numOk]; omega]
  rfl
 ·by_cases h8 : 8 < n
  ·go_enter Tryz.func206, Tryz.ntmps206
   go_wp2
   go_ret2
   refine ⟨?_, rfl⟩
   have hl := ha.1
   rw [show numOf bs = 0 from by unfold numOf; rw [if_pos (by omega)], show numOk bs = false from by simp [numOk]; omega]
   rfl
  ·have HA := qH ha
   clear ha
   go_enter Tryz.func206, Tryz.ntmps206
   go_wp2
   go_loop [4, 17] (fun x i => NumRel n bs x i) (fun _ i => n - (intOf i).toNat)
   case atStart => exact ⟨0, Nat.zero_le _, rfl, rfl⟩
   case round =>
    obtain ⟨k, hk, rfl, rfl⟩ := hrel
    by_cases hlt : k < n
    ·obtain ⟨b, o, rfl, hbo, hc⟩ := HA.out.2 (by omega)
     have hcell : w.cell? ⟨b, o + k, none⟩ = some (.int .u8 (nth bs k : Int)) := hc k (by omega)
     clear hc
     generalize hx : num (bs.take k) = x
     have HX := qH hx
     clear hx
     go_wp2
     go_round
     case rel =>
      rw [or_step x _ (by rw [← HX.out]; exact num_take_lt HA.out.1 (by omega) hlt) (nth_lt _ _)]
      exact ⟨k + 1, by omega, by go_num, by rw [num_take (by rw [HA.out.1]; exact hlt), HX.out]⟩
     case measure => simp [intOf]; omega
    ·obtain rfl : k = n := by omega
     go_wp2
     go_ret2
     refine ⟨?_, rfl⟩
     have hl := HA.out.1
     rw [show numOf bs = num bs from by unfold numOf; rw [if_neg (by omega)], show numOk bs = true from by simp [numOk]; omega, List.take_of_length_le (by omega)]
     rfl
def RowRel (B g n x : Nat) (w : World) (i : Value) (wr : World) : Prop :=
 ∃ k : Nat, k ≤ n ∧ i = .int .i64 (k : Int) ∧ wr.ownsRow B 5 1 (.slice (some ⟨g, 0, none⟩) n n) n ((List.replicate (n - k) 0 ++ enc x k).map bval) ∧ Below B w wr
theorem wRow (x n : Nat) (w : World) (hx : x < 18446744073709551616) (h1 : 1 ≤ n) (h8 : n ≤ 8) :
  Calls Tryz.prog 179 #[.int .u64 (x : Int), .int .i64 (n : Int)] w fun e w' => RetB 5 w (enc x n) e w' := by
 go_enter Tryz.func179, Tryz.ntmps179
 go_wp2_with (at_make; refine wpList_makeB isU8 rfl _ _ rfl n rfl rfl rfl rfl (by omega) (Below.refl w.heap.size w) (Nat.le_refl _) ?_; intro w0 hown0 hbel0 hsz0)
 have hg : w.heap.size ≤ w.heap.size := Nat.le_refl _
 go_loopw [16] (fun i wr => RowRel w.heap.size w.heap.size n x w i wr) (fun i _ => n - (intOf i).toNat)
 case atStart => exact ⟨0, Nat.zero_le _, rfl, by simpa [enc] using hown0, hbel0⟩
 case round =>
  obtain ⟨k, hk, rfl, hown, hbel⟩ := hrel
  have hsz := hbel.size
  by_cases hlt : k < n
  ·obtain ⟨hcell, hfr⟩ := own_cell (j := n - 1 - k) hown (by omega)
   have hk8 : (0 : Int) ≤ 8 * (k : Int) := by omega
   have hk64 : 8 * (k : Int) < 64 := by omega
   go_wp2
   go_roundw
   case rel =>
    obtain ⟨h2, h3⟩ := own_set (j := n - 1 - k) hown hbel _ (shr_byte x k) (Nat.le_refl _)
    exact ⟨k + 1, by omega, by go_num, by rw [← row_step x hlt]; exact h2, h3⟩
   case measure => simp [intOf]; omega
  ·obtain rfl : k = n := by omega
   go_wp2
   go_ret
   exact RetB.mk (by simpa using hown) hbel
theorem wload (A : Option Addr) (n c B : Nat) (p : Int) (k : Nat) (bs : List UInt8) (w : World) (ha : Rd w B A n bs) (hn : n ≤ c) (hc : c ≤ 9223372036854775807)
  (hp : -9223372036854775808 ≤ p) (hp' : p ≤ 9223372036854775807) (hk : 0 < k) (hk8 : k ≤ 8) :
  Calls Tryz.prog 185 #[.slice A n c, .int .i64 p, .int .i64 (k : Int)] w fun e w' => e = .returned (.tuple #[.int .u64 (loadOf bs p k : Int), .bool (loadOk bs p k)]) ∧ w = w' := by
 have hl : Hid (bs.length = n) := ha.1
 by_cases h0 : p < 0
 ·have hno := loadOf_no (bs := bs) (at_ := p) (k := k) (by omega)
  have HN := qH hno
  clear hno ha
  go_enter Tryz.func185, Tryz.ntmps185
  go_wp2
  go_ret2
  refine ⟨?_, rfl⟩
  rw [HN.out.1, HN.out.2]
  rfl
 ·by_cases h1 : (n : Int) - k < p
  ·have hno := loadOf_no (bs := bs) (at_ := p) (k := k) (by have := hl.out; omega)
   have HN := qH hno
   clear hno ha
   go_enter Tryz.func185, Tryz.ntmps185
   go_wp2
   go_ret2
   refine ⟨?_, rfl⟩
   rw [HN.out.1, HN.out.2]
   rfl
  ·obtain ⟨q, rfl⟩ := Int.eq_ofNat_of_zero_le (show 0 ≤ p by omega)
   obtain ⟨b, o, rfl, hb⟩ := ha.2 (by omega)
   have hcut := ha.cut (l := q) (k := q + k) (by omega) (by omega)
   rw [Nat.add_sub_cancel_left] at hcut
   have HC := qH hcut
   clear hcut
   have HY := qH (loadOf_yes (bs := bs) (p := q) (k := k) (by have := hl.out; omega) hk hk8)
   clear hb ha
   go_enter Tryz.func185, Tryz.ntmps185
   go_wp2_with fail
   refine (wNumber _ k (c - q) B _ w HC.out (by omega)).mono ?_
   rintro e w' ⟨rfl, rfl⟩
   go_wp2
   go_ret2
   refine ⟨?_, rfl⟩
   rw [HY.out.1, HY.out.2.1, ← HY.out.2.2]
   rfl
theorem loadOf_lt (bs : List UInt8) (p : Int) (k : Nat) : loadOf bs p k < 256 ^ k := by
 unfold loadOf
 split
 ·exact Nat.lt_of_lt_of_le (num_lt _) (Nat.pow_le_pow_right (by decide) (by simp; omega))
 ·exact Nat.pow_pos (by decide)
theorem wLoad32 (A : Option Addr) (n c B : Nat) (p : Int) (bs : List UInt8) (w : World) (ha : Rd w B A n bs) (hn : n ≤ c) (hc : c ≤ 9223372036854775807)
  (hp : -9223372036854775808 ≤ p) (hp' : p ≤ 9223372036854775807) :
  Calls Tryz.prog 159 #[.slice A n c, .int .i64 p] w fun e w' => e = .returned (.tuple #[.int .u32 (loadOf bs p 4 : Int), .bool (loadOk bs p 4)]) ∧ w = w' := by
 have hlt := loadOf_lt bs p 4
 have HA := qH ha
 clear ha
 go_enter Tryz.func159, Tryz.ntmps159
 go_wp2_with fail
 refine (wload A n c B p 4 bs w HA.out hn hc hp hp' (by decide) (by decide)).mono ?_
 rintro e w' ⟨rfl, rfl⟩
 generalize hy : loadOf bs p 4 = y at *
 have HY := qH hy
 clear hy
 go_wp2
 go_ret2
 exact ⟨by rw [HY.out]; rfl, rfl⟩
theorem wLoad64 (A : Option Addr) (n c B : Nat) (p : Int) (bs : List UInt8) (w : World) (ha : Rd w B A n bs) (hn : n ≤ c) (hc : c ≤ 9223372036854775807)
  (hp : -9223372036854775808 ≤ p) (hp' : p ≤ 9223372036854775807) :
  Calls Tryz.prog 154 #[.slice A n c, .int .i64 p] w fun e w' => e = .returned (.tuple #[.int .u64 (loadOf bs p 8 : Int), .bool (loadOk bs p 8)]) ∧ w = w' := by
 have HA := qH ha
 clear ha
 go_enter Tryz.func154, Tryz.ntmps154
 go_wp2_with fail
 refine (wload A n c B p 8 bs w HA.out hn hc hp hp' (by decide) (by decide)).mono ?_
 rintro e w' ⟨rfl, rfl⟩
 go_wp2
 go_ret2
 exact ⟨rfl, rfl⟩
theorem wPut32 (x : Nat) (w : World) (hx : x < 4294967296) :
  Calls Tryz.prog 140 #[.int .u32 (x : Int)] w fun e w' => RetB 5 w (enc x 4) e w' := by
 go_enter Tryz.func140, Tryz.ntmps140
 go_wp2_with fail
 refine (wRow x 4 w (by omega) (by decide) (by decide)).mono ?_
 rintro e w1 ⟨A1, n1, c1, rfl, hown, hbel⟩
 go_wp2
 go_ret
 exact RetB.mk hown hbel
theorem wPut64 (x : Nat) (w : World) (hx : x < 18446744073709551616) :
  Calls Tryz.prog 139 #[.int .u64 (x : Int)] w fun e w' => RetB 5 w (enc x 8) e w' := by
 go_enter Tryz.func139, Tryz.ntmps139
 go_wp2_with fail
 refine (wRow x 8 w hx (by decide) (by decide)).mono ?_
 rintro e w1 ⟨A1, n1, c1, rfl, hown, hbel⟩
 go_wp2
 go_ret
 exact RetB.mk hown hbel
end
section
open Go.RowKit
end
end Go.Proofs.YtlmdidblgeeplaaGreatDoor