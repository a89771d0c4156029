/- Contracts of the program's Tail, Print, Hex (sha). -/
import Derived.Test.YtopilgedcnbdaaaDoorTz
import Derived.Test.YtopilgedcnbdaaaDoorShaG
import Derived.Test.YtopilgedcnbdaaaDoorShaRefC
import Derived.Test.YtopilgedcnbdaaaDoorShaRefH
import Derived.Test.YtopilgedcnbdaaaDoorArrEq
import Derived.Test.YtopilgedcnbdaaaDoorPad
import Derived.Test.YtopilgedcnbdaaaDoorNumW
import Derived.Deep.RegionHeld
import Derived.Laws.CopyOwn
namespace Go.Proofs.YtopilgedcnbdaaaDoor
set_option maxRecDepth 1000000
set_option maxHeartbeats 8000000
open Go.RowKit
set_option linter.unusedVariables false
set_option linter.unusedSimpArgs false
theorem padTail (z : Nat) (hz : z < 64) : padTo [128] (1 + (z : Int)) = 128 :: List.replicate z 0 := by
 have e : (min (1 + (z : Int)) 65536).toNat - 1 = z := by omega
 show [128] ++ List.replicate ((min (1 + (z : Int)) 65536).toNat - 1) 0 = _
 rw [e]
 rfl
theorem wTailNo (n : Int) (w : World) (hn : n < 0) (hn' : -9223372036854775808 ≤ n) :
  Calls Tryd.prog 35 #[.int .i64 n] w fun e w' => RetB 5 w [] e w' := by
 go_enter Tryd.func35, Tryd.ntmps35
 go_wp2_with fail
 go_ret
 exact RetB.mk (by simpa using World.ownsRow_nil w w.heap.size 5 1) (Below.refl _ _)
theorem wTail (n : Nat) (w : World) (hn : n ≤ 1000000000) :
  Calls Tryd.prog 35 #[.int .i64 (n : Int)] w fun e w' => RetB 5 w (tailL n) e w' := by
 have HT : Hid (tailL n = 128 :: List.replicate (zerosOf n) 0 ++ enc (8 * n) 8) := rfl
 have HZ : Hid (zerosOf n = (64 - (n + 9) % 64) % 64) := rfl
 generalize zerosOf n = z at *
 have hz64 : z < 64 := by have := HZ.out; omega
 have HPD := qH (padTail z hz64)
 obtain ⟨r, hr⟩ : ∃ r : Nat, r = n % 64 := ⟨_, rfl⟩
 obtain ⟨m8, hm8⟩ : ∃ m : Nat, m = 8 * n := ⟨_, rfl⟩
 have i1 : (n : Int) % 64 = (r : Int) := by omega
 have i2 : (128 - ((r : Int) + 9)) % 64 = (z : Int) := by have := HZ.out; omega
 have i8 : 8 * (n : Int) = (m8 : Int) := by omega
 have i64 : (m8 : Int) % 18446744073709551616 = (m8 : Int) := by omega
 have HM := qH hm8
 have HI2 : Hid (1 + (128 - ((r : Int) + 1 + 8)) % 64 = 1 + (z : Int)) := by show _ = _; have := HZ.out; omega
 clear hm8 hr i2
 go_enter Tryd.func35, Tryd.ntmps35
 go_wp2_with fail
 rw [HI2.out]
 have R := Rd.lit (w := w) [128] [.int .u8 128] 5 rfl
 have hb0 : Below w.heap.size w (w.alloc (.cells #[.int .u8 128] 5)) := (Below.refl _ _).alloc (Nat.le_refl _) _
 have B := qH hb0
 refine (wPadded _ 1 1 (1 + (z : Int)) [128] (w.alloc (.cells #[.int .u8 128] 5)) (by simpa using R) (by decide) (by omega) (by omega)).mono ?_
 generalize w.alloc (.cells #[.int .u8 128] 5) = w0 at *
 rintro e w1 ⟨A1, n1, c1, rfl, hown1, hb⟩
 rw [HPD.out] at hown1
 have P := qH (Rd.of_own hown1)
 have hn1 : n1 ≤ 64 := by rw [← P.out.1]; simp; omega
 clear hown1 R hb0
 replace B := qH (B.out.trans (hb.mono B.out.size))
 clear hb
 go_wp2_with fail
 refine (wPut64 m8 w1 (by have := HM.out; omega)).mono ?_
 rintro e w2 ⟨A2, n2, c2, rfl, hown2, hb⟩
 have U := qH (Rd.of_own hown2)
 obtain rfl : n2 = 8 := by rw [← U.out.1, enc_len]
 clear hown2
 replace P := qH (P.out.to hb)
 replace B := qH (B.out.trans (hb.mono B.out.size))
 clear hb
 go_wp2_with fail
 refine (wCat2 A1 A2 n1 8 c1 c2 _ _ w2 P.out U.out (by omega)).mono ?_
 rintro e w3 hret
 have O := qH (RetB.from B.out hret)
 obtain ⟨A3, n3, c3, rfl, _, _⟩ := hret
 go_wp2_with fail
 go_ret
 rw [HT.out, ← HM.out]
 exact O.out
theorem printL_row : ∀ (s : List Nat) (k : Nat), k < s.length → (printL s).take (4 * k + 4) = (printL s).take (4 * k) ++ enc (nx s k) 4
 | [], _, h => by simp at h
 | x :: s, 0, h => by
  simp only [printL, List.map_cons, List.flatten_cons, nx, List.getD_cons_zero, Nat.mul_zero, List.take_zero, List.nil_append, Nat.zero_add]
  exact List.take_left' (enc_len x 4)
 | x :: s, k + 1, h => by
  have ih := printL_row s k (by simpa using h)
  simp only [printL, List.map_cons, List.flatten_cons, nx, List.getD_cons_succ] at ih ⊢
  have e1 : 4 * (k + 1) + 4 = (enc x 4).length + (4 * k + 4) := by rw [enc_len]; omega
  have e2 : 4 * (k + 1) = (enc x 4).length + 4 * k := by rw [enc_len]; omega
  rw [e1, e2, List.take_length_add_append, List.take_length_add_append, ih, List.append_assoc]
theorem fill_splice {bs row : List UInt8} {p : Nat} (hp : p + row.length ≤ bs.length) (h : bs.take (p + row.length) = bs.take p ++ row) :
  splice ((fillB bs p).map bval) p (row.map bval) = (fillB bs (p + row.length)).map bval := by
 unfold splice fillB
 rw [← List.map_take, ← List.map_drop, ← List.map_append, ← List.map_append, h]
 congr 1
 have e1 : (bs.take p).length = p := by simp; omega
 rw [List.take_left' e1, List.length_map, List.drop_append, e1, show p + row.length - p = row.length from by omega, List.drop_of_length_le (by omega), List.nil_append, List.drop_replicate, List.append_assoc]
 congr 3
 omega
theorem tag_slice (g p : Nat) (hp : p < 32) (w : World) : (Instr.sliceAt 41 (.pointer (some ⟨g, 0, none⟩)) (some (.int .i64 (p : Int))) none none).run Tryd.prog w = .ok (.slice (some ⟨g, p, none⟩) (32 - p) (32 - p)) w := by
 have hl : Tryd.prog.arrayLen 41 = 32 := by kernel_rfl
 have he : Tryd.prog.elem 41 = 5 := by kernel_rfl
 have hs : (sizeOf 5).run Tryd.prog w = .ok 1 w := sizeOf_one (by kernel_rfl) w
 rw [run_sliceAt_array_l (ht := by kernel_rfl) (kl := .i64) (l := (p : Int)) (h0 := by omega) (h1 := by rw [hl]; omega), he, hl, hs]
 have hne : ¬ (32 = p) := by omega
 simp [Result.andThen, slicedAt, hne, Addr.add]
 omega
theorem rd_src {w : World} {b o n : Nat} {bs : List UInt8} (hl : bs.length = n) (hc : ∀ j, j < n → w.cell? ⟨b, o + j, none⟩ = some (.int .u8 (nth bs j : Int))) (j : Nat) (v : Value) (hv : (bs.map bval)[j]? = some v) :
  w.cell? ((⟨b, o, none⟩ : Addr).add j) = some v := by
 have hj : j < bs.length := by
  rcases Nat.lt_or_ge j bs.length with g | g
  ·exact g
  ·rw [List.getElem?_eq_none (by simpa using g)] at hv; cases hv
 rw [add_none, hc j (by omega), ← hv, List.getElem?_map, List.getElem?_eq_getElem hj, nth_of_lt hj]
 rfl
def PrRel (w : World) (g : Nat) (out : List UInt8) (i : Value) (wr : World) : Prop :=
 ∃ k : Nat, k ≤ 8 ∧ i = .int .i64 (k : Int) ∧ TagAt wr g (fillB out (4 * k)) ∧ Below g w wr
theorem wPrintT (s : List Nat) (w : World) (hs8 : Is8 s) :
  Calls Tryd.prog 34 #[.agg (arrN .u32 s)] w fun e w' => e = .returned (.agg (arrB (printL s))) ∧ Below w.heap.size w w' := by
 have hz := tag_zero
 have HL := qH (printL_len hs8.1)
 have HS := qH hs8
 have HSZ := qH (st_size hs8.1)
 have N0 : Hid (NumAt 81 .u32 (((w.alloc (.cells (arrN .u32 s) 81)).alloc (.cells (arrB zeros32) 41)).alloc (.cells (arrB zeros32) 41)) w.heap.size s) := ((NumAt.new _ .u32 w s).alloc _).alloc _
 have T : Hid (TagAt (((w.alloc (.cells (arrN .u32 s) 81)).alloc (.cells (arrB zeros32) 41)).alloc (.cells (arrB zeros32) 41)) (w.heap.size + 1) zeros32 ∧ TagAt (((w.alloc (.cells (arrN .u32 s) 81)).alloc (.cells (arrB zeros32) 41)).alloc (.cells (arrB zeros32) 41)) (w.heap.size + 1 + 1) zeros32) := by
  have h := two_tags (w.alloc (.cells (arrN .u32 s) 81)) zeros32 rfl
  rwa [show (w.alloc (.cells (arrN .u32 s) 81)).heap.size = w.heap.size + 1 from by simp] at h
 have B0 : Hid (Below w.heap.size w (((w.alloc (.cells (arrN .u32 s) 81)).alloc (.cells (arrB zeros32) 41)).alloc (.cells (arrB zeros32) 41))) := (((Below.refl _ _).alloc (Nat.le_refl _) _).alloc (by simp) _).alloc (by simp; omega) _
 clear hs8
 go_enter Tryd.func34, Tryd.ntmps34
 go_wp2_with (refine wpList_load_row rfl 81 _ rfl w.heap.size rfl 81 (arrN .u32 s) (0, 0) _ N0.out Tryd.underlying81 rfl HSZ.out ?_)
 clear hz
 generalize (((w.alloc (.cells (arrN .u32 s) 81)).alloc (.cells (arrB zeros32) 41)).alloc (.cells (arrB zeros32) 41)) = w0 at *
 have HG : Hid (w.heap.size + 1 + 1 < w0.heap.size) := heap_at_lt T.out.2.2
 have HT0 := qH T.out.1
 have HT1 := qH T.out.2
 obtain ⟨out, hout⟩ : ∃ out, printL s = out := ⟨_, rfl⟩
 have HRW : Hid (∀ k, k < 8 → out.take (4 * k + 4) = out.take (4 * k) ++ enc (nx s k) 4) := fun k hk => by rw [← hout]; exact printL_row s k (by rw [HS.out.1]; exact hk)
 rw [hout] at HL
 have HOUT := qH hout
 clear hout
 go_loopw [7] (fun i wr => PrRel w0 (w.heap.size + 1 + 1) out i wr) (fun i _ => 8 - (intOf i).toNat)
 case atStart => exact ⟨0, Nat.zero_le _, rfl, by rw [Nat.mul_zero, fillB_zero, HL.out]; exact HT1.out, Below.refl _ _⟩
 case round =>
  obtain ⟨k, hk, rfl, h1, hb⟩ := hrel
  have T1 := qH h1
  have B := qH hb
  have HK := qH hk
  clear h1 hb hk
  by_cases h8 : (k : Int) < 8
  ·have HK8 : Hid (k < 8) := by show _ < _; omega
   have hix := run_index_arr (P := Tryd.prog) Tryd.underlying81 Tryd.underlying65 (fun w => sizeOf_one (by kernel_rfl) w) (arrN .u32 s) k HK8.out _ (arrN_at (k := .u32) (xs := s) (by rw [HS.out.1]; exact HK8.out))
   have hlt := HS.out.2 k
   have HROW := qH (HRW.out k HK8.out)
   generalize nx s k = x at *
   obtain ⟨p, hp⟩ : ∃ p : Nat, p = 4 * k := ⟨_, rfl⟩
   have e1 : (k : Int) * 4 = (p : Int) := by omega
   have e2 : 4 * (k : Int) = (p : Int) := by omega
   have hsl := tag_slice (w.heap.size + 1 + 1) p (by omega)
   have hwp : IntKind.i64.wrap (p : Int) = (p : Int) := IntWalk.i64_in _ (by omega)
   rw [← hp] at T1 HROW
   have HP := qH hp
   have HPL : Hid (p + 4 ≤ 32) := by show _ ≤ _; omega
   clear hp
   go_wp2_with fail
   have hmin : ((enc x 4).map bval).length = Nat.min 4 (32 - p) := by rw [List.length_map, enc_len]; show 4 = min 4 (32 - p); have := HPL.out; omega
   have hfit : p + ((enc x 4).map bval).length ≤ ((fillB out p).map bval).length := by rw [List.length_map, List.length_map, enc_len, T1.out.1]; exact HPL.out
   have HT1d : Hid (TagAt wr.drew (w.heap.size + 1 + 1) (fillB out p)) := T1.out
   have HBd := qH B.out.drew
   go_region_law (first
    | (go_simp; go_at_call 46; refine (wPut32 x _ hlt).mono ?_; rintro e w5 ⟨A5, n5, c5, rfl, hown5, hb⟩; have Q := qH (Rd.of_own hown5); obtain rfl : n5 = 4 := (by rw [← Q.out.1, enc_len]); obtain ⟨b5, o5, rfl, _, hc5⟩ := Q.out.2 (by decide); replace HT1d := qH (HT1d.out.below hb); replace HBd := qH (HBd.out.trans (hb.mono (by have := HBd.out.size; have := HG.out; omega))); clear hown5 hb)
    | (refine step_copy_splice rfl (.tmp 13) (.tmp 15) 22 22 rfl 5 Tryd.underlying22 (by kernel_rfl) _ _ _ _ _ _ rfl rfl (w.heap.size + 1 + 1) p ((fillB out p).map bval) 41 HT1d.out.2 ((enc x 4).map bval) hmin (fun _ => ⟨rfl, ⟨b5, o5, none⟩, rfl, rd_src (enc_len x 4) hc5⟩) hfit (bvals_one _) (w.heap.size + 1 + 1) w0 HBd.out (Nat.le_refl _) ?_; intro w6 hg6 hb6))
   have HF : Hid (TagAt w6 (w.heap.size + 1 + 1) (fillB out (4 * (k + 1)))) := by
    have h := hg6.out
    have hrl : (enc x 4).length = 4 := enc_len x 4
    have h4 : 4 * (k + 1) = p + (enc x 4).length := by rw [hrl]; have := HP.out; omega
    rw [fill_splice (by rw [hrl, HL.out]; exact HPL.out) (by rw [hrl]; exact HROW.out)] at h
    rw [h4]
    exact ⟨by rw [fillB_len (by rw [hrl, HL.out]; exact HPL.out), HL.out], h⟩
   have HB6 := qH hb6
   clear hg6 hb6 hc5
   go_wp2_with fail
   go_roundw
   case rel => exact ⟨k + 1, HK8.out, by go_num, HF.out, HB6.out⟩
   case measure => simp [intOf]; omega
  ·obtain rfl : k = 8 := by have := HK.out; omega
   have hfull : fillB out (4 * 8) = out := by
    have := fillB_all out
    rw [HL.out] at this; exact this
   rw [hfull] at T1
   have T2 : Hid (TagAt wr (w.heap.size + 1) zeros32) := ⟨rfl, by rw [B.out.block (w.heap.size + 1) (Nat.lt_succ_self _)]; exact HT0.out.2⟩
   have BB : Hid (Below w.heap.size w wr) := B0.out.trans (B.out.mono (by omega))
   have S1 := qH (tag_size HL.out)
   have E1 : Hid ((arrB zeros32).size = (arrB out).size) := by
    show _ = _
    rw [arrB_size, arrB_size, HL.out]; rfl
   go_wp2_with (first | (refine wpList_load_row rfl 41 _ rfl (w.heap.size + 1 + 1) rfl 41 (arrB out) (0, 0) _ T1.out.2 Tryd.underlying41 rfl S1.out ?_) | (refine wpList_store_row rfl 41 _ _ rfl (w.heap.size + 1) (arrB out) rfl rfl 41 (arrB zeros32) T2.out.2 S1.out E1.out (arrB_one _) ?_))
   (try simp only [Exit.inBlock, Exit.then])
   refine bodyPost_ret (v := .agg (arrB out)) ?_ rfl ⟨by rw [HOUT.out], below_setRow BB.out (by omega) _⟩
   exact results_cell_row rfl _ _ (w.heap.size + 1) 41 (arrB out) (0, 0) _ rfl (setRow_heap _ _ _ _ _ _ T2.out.2) Tryd.underlying41 rfl S1.out
theorem step_push2 {P : Program} {T U : TypeId} (L : U8 P T U) {ops : Array Oper} {o : Oper} {a : Act} {K : Act → World → Prop} {Q : Exit → Act → World → Prop} {E : Prop} (hgd : o.guard = none) (s x : Operand)
  (ho : o.op = .call { callee := .builtin .append, args := #[s, x], argTypes := #[T, T] }) {B n g : Nat} {w wx : World} {v : Value} {bs : List UInt8} {z1 z2 : Int} (hs : a.eval s = v)
  (hx : a.eval x = .slice (some ⟨g, 0, none⟩) 2 2) (hblk : wx.heap[g]? = some (.cells #[.int .u8 z1, .int .u8 z2] U (0, 0))) (hown : wx.ownsRow B U 1 v n (bs.map bval)) (hb : Below B w wx) (hB : B ≤ wx.heap.size) (hk : n + 2 ≤ 140737488355328)
  (c1 c2 : UInt8) (hz1 : z1 = (c1.toNat : Int)) (hz2 : z2 = (c2.toNat : Int))
  (h : ∀ v' w1, w1.ownsRow B U 1 v' (n + 2) ((bs ++ [c1, c2]).map bval) → Below B w w1 → wx.heap.size ≤ w1.heap.size → K (a.put o.dst v') w1) :
  if Region.wanted o (yielded ops a.tmps) = true then Oper.wp P o a wx K Q else E := by
 obtain ⟨i0, hi, hz0, hz1', hz2'⟩ := info_parts L.info
 refine step_append_lies wx hgd s x T ho B U i0 (.int .u8 0) 1 1 L.ul hi hz0 hz1' hz2' rfl (by decide) v n _ hs hown ⟨g, 0, none⟩ 2 2 [.int .u8 z1, .int .u8 z2] hx rfl (World.news_of_block hblk) ?_ (by decide) ?_ ?_ hB _ rfl ?_
 ·intro u hu; simp at hu; rcases hu with rfl | rfl <;> rfl
 ·unfold maxLen; omega
 ·omega
 ·intro g' cap w1 hown' hgrow _ _
  exact h _ w1 (by rw [List.map_append]; subst hz1; subst hz2; exact hown') (hb.grown hgrow hB (fun j hj => (hown.lt j hj).1)) hgrow.size
theorem hexL_snoc2 {bs : List UInt8} {k : Nat} (h : k < bs.length) : hexL (bs.take (k + 1)) = hexL (bs.take k) ++ [hexD (nth bs k / 16), hexD (nth bs k % 16)] := by
 rw [hexL_snoc h, List.append_assoc]; rfl
def hexS : ByteArray := ⟨#[48, 49, 50, 51, 52, 53, 54, 55, 56, 57, 97, 98, 99, 100, 101, 102]⟩
theorem hex_digit (d : Nat) (hd : d < 16) (w : World) : (Instr.index 9 (.string ⟨#[48, 49, 50, 51, 52, 53, 54, 55, 56, 57, 97, 98, 99, 100, 101, 102]⟩) (.int .u8 (d : Int))).run Tryd.prog w = .ok (.int .u8 ((hexD d).toNat : Int)) w := by
 have hu := Tryd.underlying9
 have h : ∀ d, d < 16 → hexS[d]? = some (hexD d) := by decide +kernel
 have h1 : (0 : Int) ≤ (d : Int) := by omega
 have h2 := h d hd
 unfold hexS at h2
 simp [Instr.index, Sem.run_bind, run_underlying hu, Result.andThen, asIntOf, h2, Sem.run_pure]
def HexR (B : Nat) (w : World) (bs : List UInt8) (v i : Value) (wr : World) : Prop :=
 ∃ k : Nat, k ≤ 32 ∧ i = .int .i64 (k : Int) ∧ wr.ownsRow B 5 1 v (2 * k) ((hexL (bs.take k)).map bval) ∧ Below B w wr
end Go.Proofs.YtopilgedcnbdaaaDoor