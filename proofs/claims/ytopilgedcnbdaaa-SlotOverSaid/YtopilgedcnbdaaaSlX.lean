/- Layer 15's laws: the chapter's examples (citadellaw15.awake). -/
import Derived.Test.YtopilgedcnbdaaaTz
import Derived.Test.YtopilgedcnbdaaaSlW
import Derived.Test.YtopilgedcnbdaaaBytes
import Derived.Test.YtopilgedcnbdaaaKit
namespace Go.Proofs.Ytopilgedcnbdaaa
set_option maxRecDepth 1000000
set_option maxHeartbeats 8000000
open Go.RowKit Go.Shelf
set_option linter.unusedVariables false
set_option linter.unusedSimpArgs false
def abcB : List UInt8 := [97, 98, 99]
def row66 : List UInt8 := List.replicate 62 0 ++ abcB ++ [0]
def s1D : DS := (writeS 0 62 abcB (DS.new 323)).2
theorem aw_w : writeS 0 62 abcB (DS.new 323) = (0, s1D) := by kernel_rfl
theorem aw_d : dirtyL s1D.L = [3, 4] := by kernel_rfl
theorem aw_r : readS 0 66 s1D = (row66, 0) := by kernel_rfl
theorem aw_l : s1D.L.length = 323 := by kernel_rfl
theorem aw_u : s1D.up = true := by kernel_rfl
theorem rd_topS {w : World} (bs : List UInt8) (vs : List Value) (T : TypeId) (fr : Nat × Nat) (h : bs.map bval = vs) : Rd (w.alloc (.cells vs.toArray T fr)) (w.alloc (.cells vs.toArray T fr)).heap.size (some ⟨w.heap.size, 0, none⟩) vs.length bs := by
 subst h
 refine ⟨by simp, fun hn => ⟨w.heap.size, 0, rfl, by simp, fun j hj => ?_⟩⟩
 have hl : j < bs.length := by simpa using hj
 rw [World.cell?_alloc_mark, nth_of_lt hl]
 simp [hl, bval]
theorem wCat3 (A A' A'' : Option Addr) (n m l c d e : Nat) (xs ys zs : List UInt8) (w : World) (ha : Rd w w.heap.size A n xs) (hb : Rd w w.heap.size A' m ys) (hc : Rd w w.heap.size A'' l zs) (hn : n + m + l ≤ 140737488355328) :
  Calls Try.prog 10 #[.slice (some ⟨w.heap.size, 0, none⟩) 3 3] (w.alloc (.cells #[.slice A n c, .slice A' m d, .slice A'' l e] 22)) fun e w' => RetB 5 w (xs ++ ys ++ zs) e w' := by
 have S := RdS.lit (w := w) [.slice A n c, .slice A' m d, .slice A'' l e] 22 [xs, ys, zs] rfl (fun j hj => by
  rcases j with _ | _ | _ | j
  ·exact ⟨_, _, _, rfl, ha⟩
  ·exact ⟨_, _, _, rfl, hb⟩
  ·exact ⟨_, _, _, rfl, hc⟩
  ·simp at hj; omega)
 have hl := ha.1
 have hl' := hb.1
 have hl2 := hc.1
 exact (wCat _ 3 3 [xs, ys, zs] (w.alloc (.cells #[.slice A n c, .slice A' m d, .slice A'' l e] 22)) (by simpa using S) (by decide) (by simp; omega)).mono fun e w' h => (h.from ((Below.refl _ _).alloc (Nat.le_refl _) _)).is (by simp)
theorem slWriteRef (d : Nat) (D : Nat → Prop) (s : DS) (sl a : Int) (A : Option Addr) (n c : Nat) (w : World) (h : DkAt w d D s) (hl : 0 < s.L.length) (ha : a ≤ 9223372036854775807) (hne : refP sl a (n : Int) s ≠ 0) :
  Calls Try.prog 6 #[.pointer (some ⟨d, 0, none⟩), .int .i64 sl, .int .i64 a, .slice A n c] w fun e w' => e = .returned (.int .i64 (refP sl a (n : Int) s)) ∧ Below w.heap.size w w' := by
 obtain ⟨hb0, hsz, k0, k1, k2⟩ := wrW_is w d A n c
 have HB := qH hb0
 have BX : Hid (Boxed (wrW w d A n c) (w.heap.size + 1 + 1) 27 (.int .i64 0)) := k2
 have HREF := qH (slRefusal d D s sl a n _ (h.to HB.out) hl ha)
 have bc := BX.out.cell
 have bf := BX.out.frozen
 clear hb0 hsz k2 h hl
 generalize refP sl a (n : Int) s = ev at *
 go_enter Try.func6, Try.ntmps6
 go_wp2_with fail
 refine (HREF.out).mono ?_
 rintro e w' ⟨rfl, rfl⟩
 generalize wrW w d A n c = w3 at *
 go_wp2_with fail
 refine bodyPost_ret (res_errnoS rfl _ _ (w.heap.size + 1 + 1) (.int .i64 ev) rfl (World.cell?_setCell_same' _ _ _ (by rw [bc]; rfl))) rfl ?_
 exact ⟨rfl, HB.out.setCell (p := ⟨w.heap.size + 1 + 1, 0, none⟩) (by show w.heap.size ≤ w.heap.size + 1 + 1; omega) _⟩
theorem sAwake (w : World) : Calls Try.prog 4 #[] w fun e w' => e = .returned (.bool true) ∧ Below w.heap.size w w' := by
 have kc := fun (w : World) (C : Array Value) (n c : Nat) => Lib.run_convert_bytes_const (P := Try.prog) w 22 5 C n c Try.underlying22 Try.underlying5
 go_enter Try.func4, Try.ntmps4
 go_wp2_with fail
 refine (sEmpty w).mono ?_
 rintro e w1 ⟨d, rfl, F, hd, hf, hb⟩
 have HD := qH hd
 have HF := qH hf
 have B1 := qH hb
 clear hd hf hb
 have b2 : Below w1.heap.size w1 (w1.alloc (.cells #[.int .u8 97, .int .u8 98, .int .u8 99] 5 (3, 4))) := (Below.refl _ _).alloc (Nat.le_refl _) _
 have RT : Hid (Rd (w1.alloc (.cells #[.int .u8 97, .int .u8 98, .int .u8 99] 5 (3, 4))) (w1.alloc (.cells #[.int .u8 97, .int .u8 98, .int .u8 99] 5 (3, 4))).heap.size (some ⟨w1.heap.size, 0, none⟩) 3 abcB) :=
  rd_topS abcB [.int .u8 97, .int .u8 98, .int .u8 99] 5 (3, 4) rfl
 have HLN : Hid (0 < (DS.new 323).L.length) := by show _ < _; simp [DS.new]
 have HLT := qH HD.out.lt
 have HWR := qH (slWrite d F (DS.new 323) 0 62 (some ⟨w1.heap.size, 0, none⟩) 3 3 abcB _ (HD.out.to b2) HLN.out (by decide) RT.out (fun _ bb o e hf => by cases e; have := HLT.out _ hf; omega) (by decide) (by decide))
 rw [aw_w] at HWR
 have B2 := qH (B1.out.trans (b2.mono B1.out.size))
 have HFW : Hid (∀ k, F k → w.heap.size ≤ k) := HF.out
 clear b2 RT
 go_wp2_with fail
 refine (HWR.out).mono ?_
 rintro e w3 ⟨rfl, hd, hk⟩
 have D3 := qH hd
 have B3 := qH (Keep.below B2.out hk B2.out.size HFW.out)
 clear hd hk HWR HD B1 B2
 go_wp2_with fail
 refine (dDirty d F s1D w3 D3.out).mono ?_
 rw [aw_d]
 rintro e w4 ⟨A4, c4, rfl, hown, hb⟩
 have RK := qH (RdK.of_own hown)
 have D4 := qH (D3.out.to hb)
 have B4 := qH (B3.out.trans (hb.mono B3.out.size))
 clear hown hb D3 B3
 have HL1 : Hid (0 < s1D.L.length) := by show _ < _; rw [aw_l]; decide
 go_wp2_with fail
 refine (slRead d F s1D 0 66 w4 D4.out HL1.out).mono ?_
 rw [aw_r]
 rintro e w5 ⟨A5, m5, c5, rfl, hrd, hmc, hc, hb⟩
 have R5 := qH hrd
 have RK5 := qH (RK.out.to hb)
 have D5 := qH (D4.out.to hb)
 have B5 := qH (B4.out.trans (hb.mono B4.out.size))
 clear hrd hmc hc hb D4 B4 RK
 obtain ⟨b6, o6, rfl, _, hc6⟩ := RK5.out.2 (by decide)
 have y0 : w5.cell? ⟨b6, o6, none⟩ = some (.int .i64 3) := hc6 0 (by decide)
 have y1 : w5.cell? ⟨b6, o6 + 1, none⟩ = some (.int .i64 4) := hc6 1 (by decide)
 clear hc6
 obtain ⟨w6, hmk, hm6, hb6⟩ := run_makeS isU8 w5 62 (by decide)
 have hmk' : (Instr.makeSlice 22 (.int .i64 62) (.int .i64 62)).run Try.prog w5 = .ok (.slice (some ⟨w5.heap.size, 0, none⟩) 62 62) w6 := hmk
 have HM6 := qH hm6
 have HB6 := qH hb6
 have hmk2 := hmk'
 clear hmk hm6 hb6 hmk2
 have B6 := qH (B5.out.trans (HB6.out.mono B5.out.size))
 have D6 := qH (D5.out.to HB6.out)
 have R6 := qH (R5.out.to HB6.out)
 have RZ : Hid (Rd w6 w6.heap.size (some ⟨w5.heap.size, 0, none⟩) 62 (List.replicate 62 0)) := rd_cur HM6.out (List.take_of_length_le (by simp)) (by simp)
 go_wp2_with fail
 clear hmk' y0 y1 D5 B5 R5 HM6 HB6
 generalize w5.heap.size = g5 at *
 obtain ⟨W7, hW7⟩ : ∃ X, w6.alloc (.cells #[.int .u8 97, .int .u8 98, .int .u8 99] 5 (3, 4)) = X := ⟨_, rfl⟩
 have b7 : Below w6.heap.size w6 W7 := by rw [← hW7]; exact (Below.refl _ _).alloc (Nat.le_refl _) _
 have z7 : W7.heap.size = w6.heap.size + 1 := by rw [← hW7]; simp
 have ra : Rd W7 W7.heap.size (some ⟨w6.heap.size, 0, none⟩) 3 abcB := by
  rw [← hW7]
  exact rd_topS abcB [.int .u8 97, .int .u8 98, .int .u8 99] 5 (3, 4) rfl
 rw [hW7]
 obtain ⟨W8, hW8⟩ : ∃ X, W7.alloc (.cells #[.int .u8 0] 5) = X := ⟨_, rfl⟩
 have b8 : Below W7.heap.size W7 W8 := by rw [← hW8]; exact (Below.refl _ _).alloc (Nat.le_refl _) _
 have z8 : W8.heap.size = w6.heap.size + 1 + 1 := by rw [← hW8]; simp [z7]
 have r0 : Rd W8 W8.heap.size (some ⟨W7.heap.size, 0, none⟩) 1 [0] := by
  rw [← hW8]
  exact rd_topS [0] [.int .u8 0] 5 (0, 0) rfl
 rw [hW8]
 rw [z7] at r0
 have b68 : Below w6.heap.size w6 W8 := b7.trans (b8.mono b7.size)
 have HCT := wCat3 (some ⟨g5, 0, none⟩) (some ⟨w6.heap.size, 0, none⟩) (some ⟨w6.heap.size + 1, 0, none⟩) 62 3 1 62 3 1 (List.replicate 62 0) abcB [0] W8 (RZ.out.to b68) (ra.to b8) r0 (by decide)
 have B8 := qH (B6.out.trans (b68.mono B6.out.size))
 have D8 := qH (D6.out.to b68)
 have R8 := qH (R6.out.to b68)
 rw [z8] at HCT
 clear b7 b8 b68 z7 z8 ra r0 hW7 hW8 RZ B6 D6 R6
 refine HCT.mono ?_
 clear HCT
 rintro e w9 ⟨A9, n9, c9, rfl, hown, hb⟩
 have R9 := qH (Rd.of_own hown)
 replace R8 := qH (R8.out.to hb)
 have B9 := qH (B8.out.trans (hb.mono B8.out.size))
 have D9 := qH (D8.out.to hb)
 clear hown hb B8 D8
 go_wp2_with fail
 refine (wSame A5 A9 m5 n9 c5 c9 w9.heap.size row66 _ w9 R8.out R9.out).mono ?_
 rintro e w' ⟨rfl, rfl⟩
 rw [decide_eq_true (show row66 = List.replicate 62 0 ++ abcB ++ [0] from rfl)]
 clear R8 R9
 have hr1 : refP 1 4095 ((2 : Nat) : Int) s1D = 4 := refP_full s1D (by omega) (by omega)
 have hr2 : refP 2 0 ((1 : Nat) : Int) s1D = 2 := refP_arg s1D (by omega)
 have hr3 : refP 0 (-1) ((1 : Nat) : Int) s1D = 2 := refP_arg s1D (by omega)
 have HR1 := qH hr1
 have HR2 := qH hr2
 have HR3 := qH hr3
 clear hr1 hr2 hr3
 have b10 : Below w9.heap.size w9 (w9.alloc (.cells #[.int .u8 97, .int .u8 98] 5 (2, 3))) := (Below.refl _ _).alloc (Nat.le_refl _) _
 have H10 := qH (slWriteRef d F s1D 1 4095 (some ⟨w9.heap.size, 0, none⟩) 2 2 _ (D9.out.to b10) HL1.out (by decide) (by rw [HR1.out]; decide))
 rw [HR1.out] at H10
 have B10 := qH (B9.out.trans (b10.mono B9.out.size))
 have D10 := qH (D9.out.to b10)
 clear b10
 go_wp2_with fail
 refine H10.out.mono ?_
 rintro e w11 ⟨rfl, hb⟩
 have B11 := qH (B10.out.trans (hb.mono B10.out.size))
 have D11 := qH (D10.out.to hb)
 clear hb H10 B10 D10 B9 D9
 have b12 : Below w11.heap.size w11 (w11.alloc (.cells #[.int .u8 97] 5 (1, 2))) := (Below.refl _ _).alloc (Nat.le_refl _) _
 have H12 := qH (slWriteRef d F s1D 2 0 (some ⟨w11.heap.size, 0, none⟩) 1 1 _ (D11.out.to b12) HL1.out (by decide) (by rw [HR2.out]; decide))
 rw [HR2.out] at H12
 have B12 := qH (B11.out.trans (b12.mono B11.out.size))
 have D12 := qH (D11.out.to b12)
 clear b12
 go_wp2_with fail
 refine H12.out.mono ?_
 rintro e w13 ⟨rfl, hb⟩
 have B13 := qH (B12.out.trans (hb.mono B12.out.size))
 have D13 := qH (D12.out.to hb)
 clear hb H12 B12 D12 B11 D11
 have b14 : Below w13.heap.size w13 (w13.alloc (.cells #[.int .u8 97] 5 (1, 2))) := (Below.refl _ _).alloc (Nat.le_refl _) _
 have H14 := qH (slWriteRef d F s1D 0 (-1) (some ⟨w13.heap.size, 0, none⟩) 1 1 _ (D13.out.to b14) HL1.out (by decide) (by rw [HR3.out]; decide))
 rw [HR3.out] at H14
 have B14 := qH (B13.out.trans (b14.mono B13.out.size))
 clear b14
 go_wp2_with fail
 refine H14.out.mono ?_
 rintro e w15 ⟨rfl, hb⟩
 have B15 := qH (B14.out.trans (hb.mono B14.out.size))
 clear hb H14 B14 D13 B13
 go_wp2_with fail
 go_ret
 exact ⟨rfl, B15.out⟩
end Go.Proofs.Ytopilgedcnbdaaa