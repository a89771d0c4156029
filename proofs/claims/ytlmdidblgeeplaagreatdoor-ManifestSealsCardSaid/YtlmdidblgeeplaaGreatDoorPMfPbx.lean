/- Several texts in one (a claim has 60 files at most): MfPg, HmacW, MfPb. -/
import Derived.Test.YtlmdidblgeeplaaGreatDoorTz
import Derived.Test.YtlmdidblgeeplaaGreatDoorPMfPdx
import Derived.Test.YtlmdidblgeeplaaGreatDoorPHmacDx
import Derived.Laws.CopyOwn
import Derived.Deep.RegionHeld
namespace Go.Proofs.YtlmdidblgeeplaaGreatDoor
set_option maxRecDepth 1000000
set_option maxHeartbeats 8000000
set_option linter.unusedVariables false
set_option linter.unusedSimpArgs false
section
open Go.RowKit
theorem wPrintM (v : CV) (m : Mf) (w : World) (h : RdM w w.heap.size v m) (d : Bd v) :
  Calls Tryz.prog 9 #[.agg (mfL m v).toArray] w fun x w' => ∃ A n c, x = .returned (.tuple #[.slice A n c, .int .i64 (prEM m)]) ∧ Rd w' w'.heap.size A n (prBM m) ∧ n ≤ c ∧ c ≤ 9223372036854775807 ∧ Below w.heap.size w w' := by
 have B := qH ((Below.refl w.heap.size w).alloc (Nat.le_refl _) (.cells (mfL m v).toArray 30))
 have M := qH (MB.new w h.t v)
 have R := qH (h.to B.out)
 have D := qH d
 have HT := qH h.t
 have S69 := qH (mf_size h.t v)
 have S32 := qH (tag_sizeL h.t.tag)
 have HE : Hid (prEM m = if canM m = true then 0 else 2) := rfl
 have HB : Hid (prBM m = if canM m = true then headM m ++ m.tag else []) := rfl
 clear h d
 go_enter Tryz.func9, Tryz.ntmps9
 go_upto_region 1 with (fail)
 generalize w.alloc (.cells (mfL m v).toArray 30) = w1 at *
 go_wp2_with (refine wpList_load_row rfl 30 _ rfl w.heap.size rfl 30 (mfL m v).toArray (0, 0) _ M.out.row Tryz.underlying30 rfl S69.out ?_)
 refine (wCanM v m w1 R.out D.out).mono ?_
 rintro e w2 ⟨rfl, hb⟩
 replace M := qH (M.out.to hb)
 replace R := qH (R.out.to hb)
 replace B := qH (B.out.trans (hb.mono B.out.size))
 clear hb
 cases hc : canM m
 ·rw [hc, if_neg (by decide)] at HE HB
  clear hc
  go_wp2_with fail
  refine bodyPost_ret (res_two rfl _ _ (.slice none 0 0) (.int .i64 2) rfl rfl) rfl ⟨none, 0, 0, by rw [HE.out], by rw [HB.out]; exact Rd.nil _ _ _, Nat.le_refl _, by decide, B.out⟩
 rw [hc, if_pos rfl] at HE HB
 have HC := qH (canM_iff.1 hc).2.2.2.2
 have HL := qH (headM_len HT.out.prev hc)
 have E1 : Hid ((headM m).length + m.tag.length ≤ 65536) := by (show _ ≤ _); rw [HT.out.tag]; have := HL.out; omega
 clear hc
 go_upto_region 3 with (fail)
 obtain ⟨wd, hwd⟩ : ∃ x, w2.drew = x := ⟨_, rfl⟩
 have BS : Hid (Below w2.heap.size w2 wd) := by (show Below _ _ _); rw [← hwd]; exact (Below.refl _ _).drew
 have hu := Tryz.underlying23
 refine wp_region_held_drew (S := (fun w' => Below w2.heap.size w2 w')) (by kernel_rfl) ((Below.refl _ _).drew) (fun hHeld => ?_)
 rw [hwd] at hHeld ⊢
 clear hwd hHeld
 have hHeld := BS.out
 refine tl 0 (.agg (mfL m v).toArray) rfl (yieldsIf_load_row (by rfl) 30 _ rfl w.heap.size rfl 30 (mfL m v).toArray (0, 0) _ (fun w' h => (M.out.to h).row) Tryz.underlying30 rfl S69.out) ?_
 simp only [pR]
 refine tk 2 ?_
 simp only [pR]
 refine tl 3 (.agg (List.toArray (m.tag.map bval))) rfl (yieldsIf_load_mid (by rfl) 23 _ rfl w.heap.size 37 rfl (m.tag.map bval) _ ((fun w' h => (M.out.to h).tag)) hu rfl S32.out) ?_
 simp only [pR]
 clear hHeld
 refine rd1 1 (fun K hK => ?_)
 go_simp
 refine (wSigned v m wd (R.out.to BS.out) D.out HC.out).mono ?_
 rintro e w3 ⟨g, F, rfl, hwr, hF, hb⟩
 have W3 : Hid (WD w2 w3 g F (headM m)) := ⟨hwr, fun k hk => Nat.le_trans BS.out.size (hF k hk), BS.out.trans (hb.mono BS.out.size)⟩
 clear hwr hF hb
 go_wp2_with fail
 refine hK.out _ _ (W3.out.bel) (fun hHeld => ?_)
 clear hK K
 clear hHeld
 refine rd1 4 (fun K hK => ?_)
 go_simp
 refine (wTag g F (headM m) false m.tag w3 W3.out.wr HT.out.tag).mono ?_
 rintro e w4 ht
 obtain ⟨rfl, F4, hw⟩ := W3.out.ends E1.out ht
 have W4 := qH hw
 clear ht hw
 go_wp2_with fail
 refine hK.out _ _ (W4.out.bel) (fun hHeld => ?_)
 clear hK K
 clear hHeld
 refine rd1 5 (fun K hK => ?_)
 go_simp
 refine (wDone g F4 (headM m ++ m.tag) false w4 W4.out.wr).mono ?_
 rintro e w5 ⟨A5, n5, c5, rfl, ho, h1, h2, hb⟩
 have O := qH ho
 have H1 := qH h1
 have H2 := qH h2
 have B5 := qH (W4.out.bel.trans (hb.mono W4.out.bel.size))
 clear ho h1 h2 hb
 go_wp2_with fail
 refine hK.out _ _ (B5.out) (fun hHeld => ?_)
 clear hK K
 clear hHeld
 refine tk 6 ?_
 simp only [pR]
 refine tk 7 ?_
 simp only [pR]
 refine tk 8 ?_
 simp only [pR]
 refine tk 9 ?_
 simp only [pR]
 refine wpAnyH_done (by kernel_rfl) ?_ _
 go_wp2_with fail
 refine bodyPost_ret (res_two rfl _ _ (.slice A5 n5 c5) (.int .i64 0) rfl rfl) rfl ⟨A5, n5, c5, by rw [HE.out], ?_, H1.out, H2.out, B.out.trans (B5.out.mono B.out.size)⟩
 rw [HB.out]
 exact O.out.1
end
section
open Go.RowKit
theorem or_u8 (a b : UInt8) : bits .or .u8 (a.toNat : Int) (b.toNat : Int) = ((a ||| b).toNat : Int) := by
 rw [UInt8.toNat_or]
 exact u8_or_nat _ _ a.toNat_lt b.toNat_lt
def orN (xs ys : List UInt8) : Nat → UInt8
 | 0 => 0
 | k + 1 => orN xs ys k ||| (xs.getD k 0 ^^^ ys.getD k 0)
theorem or_zero8 (a b : UInt8) : a ||| b = 0 ↔ a = 0 ∧ b = 0 := by
 constructor
 ·intro h
  have h := congrArg UInt8.toBitVec h
  simp only [UInt8.toBitVec_or] at h
  have h1 : a.toBitVec = 0 ∧ b.toBitVec = 0 := by
   have := BitVec.or_eq_zero_iff.1 h
   exact this
  exact ⟨UInt8.toBitVec_inj.1 h1.1, UInt8.toBitVec_inj.1 h1.2⟩
 ·rintro ⟨rfl, rfl⟩; rfl
theorem xor_zero8 (a b : UInt8) : a ^^^ b = 0 ↔ a = b := by
 constructor
 ·intro h
  have h := congrArg UInt8.toBitVec h
  simp only [UInt8.toBitVec_xor] at h
  exact UInt8.toBitVec_inj.1 (BitVec.xor_eq_zero_iff.1 h)
 ·rintro rfl; exact UInt8.xor_self
theorem orN_zero (xs ys : List UInt8) : ∀ k, orN xs ys k = 0 ↔ ∀ j, j < k → xs.getD j 0 = ys.getD j 0
 | 0 => ⟨fun _ j hj => absurd hj (Nat.not_lt_zero j), fun _ => rfl⟩
 | k + 1 => by
  rw [orN, or_zero8, xor_zero8, orN_zero xs ys k]
  constructor
  ·rintro ⟨h1, h2⟩ j hj
   rcases Nat.lt_succ_iff_lt_or_eq.1 hj with h | rfl
   ·exact h1 j h
   ·exact h2
  ·intro h
   exact ⟨fun j hj => h j (by omega), h k (by omega)⟩
theorem orN_same {xs ys : List UInt8} {n : Nat} (h1 : xs.length = n) (h2 : ys.length = n) : ((((orN xs ys n).toNat : Int) == 0) = decide (xs = ys)) := by
 have e : orN xs ys n = 0 ↔ xs = ys := by
  rw [orN_zero]
  constructor
  ·intro h
   refine List.ext_getElem (by omega) fun i h3 h4 => ?_
   have := h i (by omega)
   simpa [List.getD, h3, h4] using this
  ·rintro rfl j _; rfl
 rw [Bool.eq_iff_iff]
 simp only [beq_iff_eq, decide_eq_true_eq]
 rw [← e]
 constructor
 ·intro h
  exact UInt8.toNat_inj.1 (by simpa using h)
 ·intro h; rw [h]; rfl
def SameR (w0 : World) (xs ys : List UInt8) (d i : Value) (wr : World) : Prop :=
 ∃ (k q : Nat), k ≤ 32 ∧ i = .int .i64 (k : Int) ∧ d = .int .u8 ((orN xs ys k).toNat : Int) ∧ wr = w0.drewN q
theorem wSameTag (x y : List UInt8) (w : World) (hx : x.length = 32) (hy : y.length = 32) :
  Calls Tryz.prog 56 #[.agg (arrB x), .agg (arrB y)] w fun e w' => e = .returned (.bool (decide (x = y))) ∧ Below w.heap.size w w' := by
 have HX := qH hx
 have HY := qH hy
 have HE := qH (orN_same hx hy)
 obtain ⟨h1, h2⟩ := two_blocks w (arrB x) (arrB y) 23
 have TX : Hid (TagAt ((w.alloc (.cells (arrB x) 23)).alloc (.cells (arrB y) 23)) w.heap.size x) := ⟨hx, h1⟩
 have TY : Hid (TagAt ((w.alloc (.cells (arrB x) 23)).alloc (.cells (arrB y) 23)) (w.heap.size + 1) y) := ⟨hy, h2⟩
 have B : Hid (Below w.heap.size w ((w.alloc (.cells (arrB x) 23)).alloc (.cells (arrB y) 23))) := ((Below.refl _ _).alloc (Nat.le_refl _) _).alloc (by simp) _
 clear h1 h2 hx hy
 go_enter Tryz.func56, Tryz.ntmps56
 go_wp2
 generalize ((w.alloc (.cells (arrB x) 23)).alloc (.cells (arrB y) 23)) = w0 at *
 go_loopw [5, 6, 7] (fun d _ i wr => SameR w0 x y d i wr) (fun _ _ i _ => 32 - (intOf i).toNat)
 case atStart => exact ⟨0, 0, Nat.zero_le _, rfl, rfl, rfl⟩
 case round =>
  obtain ⟨k, q, hk, rfl, rfl, rfl⟩ := hrel
  have HK := qH hk
  clear hk
  by_cases h32 : (k : Int) < 32
  ·have hc1 := (TX.out.cell (j := k) (by omega)).1
   have hc2 := (TY.out.cell (j := k) (by omega)).1
   have hx := xor_u8 (x.getD k 0) (y.getD k 0)
   have ho := or_u8 (orN x y k) (x.getD k 0 ^^^ y.getD k 0)
   have HS : Hid (orN x y (k + 1) = orN x y k ||| (x.getD k 0 ^^^ y.getD k 0)) := rfl
   change bits .xor .u8 (nth x k : Int) (nth y k : Int) = _ at hx
   generalize x.getD k 0 ^^^ y.getD k 0 = z at *
   rw [← HS.out] at ho
   go_wp2
   go_quiet (fail)
   go_wp2
   go_roundw
   case rel => exact ⟨k + 1, _, by omega, by go_num, rfl, rfl⟩
   case measure => simp [intOf]; omega
  ·obtain rfl : k = 32 := by have := HK.out; omega
   go_wp2
   go_ret
   exact ⟨by rw [← HE.out]; rfl, below_drewN B.out q⟩
end
section
open Go.RowKit
theorem wKeyM (A : Option Addr) (n c : Nat) (kk : List UInt8) (w : World) (hp : Pr w) (ha : Rd w w.heap.size A n kk) (hn : n ≤ 1000) (hc : n ≤ c) (hcc : c ≤ 9223372036854775807) :
  Calls Tryz.prog 114 #[.slice A n c, .string { data := #[109, 97, 110, 105, 102, 101, 115, 116] }, .slice none 0 0] w fun e w' => RetR w (hmacL kk (formI labelM [])) e w' :=
 wDerive A none n 0 c 0 kk { data := #[109, 97, 110, 105, 102, 101, 115, 116] } [] w hp ha ⟨rfl, fun h => absurd h (Nat.lt_irrefl 0)⟩ (Nat.le_trans hn (by decide)) hc hcc (by decide) (by decide)
theorem wCorrect (A : Option Addr) (n c : Nat) (kk : List UInt8) (v : CV) (m : Mf) (w : World) (hp : Pr w) (ha : Rd w w.heap.size A n kk) (hn : n ≤ 1000) (hc : n ≤ c) (hcc : c ≤ 9223372036854775807) (h : RdM w w.heap.size v m) (d : Bd v) (hcan : canM m = true) :
  Calls Tryz.prog 52 #[.slice A n c, .agg (mfL m v).toArray] w fun e w' => e = .returned (.agg (arrB (macM kk m))) ∧ Below w.heap.size w w' := by
 have hz := tag_zero
 have B1 := qH ((Below.refl w.heap.size w).alloc (Nat.le_refl _) (.cells (mfL m v).toArray 30))
 have M := qH (MB.new w h.t v)
 have R := qH (h.to B1.out)
 have KA := qH (ha.to B1.out)
 have HP := qH (hp.to B1.out)
 have HS : Hid ((w.alloc (.cells (mfL m v).toArray 30)).heap.size = w.heap.size + 1) := by (show _ = _); simp
 have D := qH d
 have HN := qH hn
 have HC1 := qH hc
 have HC2 := qH hcc
 have S69 := qH (mf_size h.t v)
 have HC := qH (canM_iff.1 hcan).2.2.2.2
 have HL := qH (headM_len h.t.prev hcan)
 have HV : Hid (macM kk m = hmacL (hmacL kk (formI labelM [])) (headM m)) := rfl
 clear h d ha hn hc hcc hcan hp
 go_enter Tryz.func52, Tryz.ntmps52
 go_upto_region 1 with (fail)
 generalize w.alloc (.cells (mfL m v).toArray 30) = w1 at *
 have B2 : Hid (Below w1.heap.size w1 (w1.alloc (.cells (arrB zeros32) 23))) := (Below.refl _ _).alloc (Nat.le_refl _) _
 have T : Hid (TagAt (w1.alloc (.cells (arrB zeros32) 23)) (w.heap.size + 1) zeros32) := ⟨rfl, by rw [← HS.out]; exact heap_alloc_last w1 _⟩
 replace M := qH (M.out.to B2.out)
 replace R := qH (R.out.to B2.out)
 replace KA := qH (KA.out.to B2.out)
 replace HP := qH (HP.out.to B2.out)
 replace B2 := qH (B1.out.trans (B2.out.mono B1.out.size))
 generalize w1.alloc (.cells (arrB zeros32) 23) = w2 at *
 clear B1 HS hz
 go_wp2_with (refine wpList_load_row rfl 30 _ rfl w.heap.size rfl 30 (mfL m v).toArray (0, 0) _ M.out.row Tryz.underlying30 rfl S69.out ?_)
 refine (wSigned v m w2 R.out D.out HC.out).mono ?_
 rintro e w3 ⟨g, F, rfl, hwr, hF, hb⟩
 have WR := qH hwr
 replace T := qH (T.out.below hb)
 replace KA := qH (KA.out.to hb)
 replace HP := qH (HP.out.to hb)
 replace B2 := qH (B2.out.trans (hb.mono B2.out.size))
 clear hwr hF hb M R
 go_wp2_with fail
 refine (wDone g F (headM m) false w3 WR.out).mono ?_
 rintro e w4 ⟨A4, n4, c4, rfl, ho, h1, h2, hb⟩
 have R4 : Hid (Rd w4 w4.heap.size A4 n4 (headM m)) := qH ho.1
 have N4 : Hid (n4 ≤ 999999000) := by (show _ ≤ _); have := R4.out.1; have := HL.out; omega
 replace T := qH (T.out.below hb)
 replace KA := qH (KA.out.to hb)
 replace HP := qH (HP.out.to hb)
 replace B2 := qH (B2.out.trans (hb.mono B2.out.size))
 clear ho h1 h2 hb WR
 go_upto_region 2 with (fail)
 go_wp2_with fail
 refine (wKeyM A n c kk w4 HP.out KA.out HN.out HC1.out HC2.out).mono ?_
 rintro e w5 ⟨A5, n5, c5, rfl, ho, h1, h2, hb⟩
 have R5 := qH ho.1
 have N5 : Hid (n5 ≤ 1000000000) := by (show _ ≤ _); rw [← ho.1.1, hmacL_len]; decide
 have H1 := qH h1
 have H2 := qH h2
 replace R4 := qH (R4.out.to hb)
 replace T := qH (T.out.below hb)
 replace HP := qH (HP.out.to hb)
 replace B2 := qH (B2.out.trans (hb.mono B2.out.size))
 clear ho h1 h2 hb KA
 go_wp2_with fail
 refine (wHmac A5 A4 n5 n4 c5 c4 (hmacL kk (formI labelM [])) (headM m) w5 HP.out R5.out R4.out N5.out H1.out H2.out N4.out).mono ?_
 rintro e w6 ⟨rfl, hb⟩
 replace T := qH (T.out.below hb)
 replace B2 := qH (B2.out.trans (hb.mono B2.out.size))
 rw [← HV.out]
 have TL : Hid ((macM kk m).length = 32) := hmacL_len _ _
 clear hb R4 R5 HV
 obtain ⟨tg, htg⟩ : ∃ x, macM kk m = x := ⟨_, rfl⟩
 have HTG := qH htg
 rw [htg] at TL ⊢
 clear htg
 have SL := qH (tag_size TL.out)
 have ST : Hid ((arrB zeros32).size = (arrB tg).size) := by (show _ = _); rw [arrB_size, arrB_size, TL.out]; rfl
 go_wp2_with (refine wpList_store_row rfl 23 _ _ rfl (w.heap.size + 1) (arrB tg) rfl rfl 23 (arrB zeros32) T.out.2 SL.out ST.out (arrB_one _) ?_)
 (try simp only [Exit.inBlock, Exit.then])
 refine bodyPost_ret (results_cell_row rfl _ _ (w.heap.size + 1) 23 (arrB tg) (0, 0) _ rfl (setRow_heap _ _ _ _ _ _ T.out.2) Tryz.underlying23 rfl SL.out) rfl ?_
 exact ⟨by rw [HTG.out], below_setRow B2.out (by omega) _⟩
theorem wRightM (A : Option Addr) (n c : Nat) (kk : List UInt8) (v : CV) (m : Mf) (w : World) (hp : Pr w) (ha : Rd w w.heap.size A n kk) (hn : n ≤ 1000) (hc : n ≤ c) (hcc : c ≤ 9223372036854775807) (h : RdM w w.heap.size v m) (d : Bd v) :
  Calls Tryz.prog 21 #[.slice A n c, .agg (mfL m v).toArray] w fun x w' => x = .returned (.bool (rightM kk m)) ∧ Below w.heap.size w w' := by
 have B := qH ((Below.refl w.heap.size w).alloc (Nat.le_refl _) (.cells (mfL m v).toArray 30))
 have M := qH (MB.new w h.t v)
 have R := qH (h.to B.out)
 have KA := qH (ha.to B.out)
 have HP := qH (hp.to B.out)
 have D := qH d
 have HN := qH hn
 have HC1 := qH hc
 have HC2 := qH hcc
 have HT := qH h.t
 have S69 := qH (mf_size h.t v)
 have S32 := qH (tag_sizeL h.t.tag)
 have HV : Hid (rightM kk m = (canM m && decide (macM kk m = m.tag))) := rfl
 clear h d ha hn hc hcc hp
 go_enter Tryz.func21, Tryz.ntmps21
 go_upto_region 1 with (fail)
 generalize w.alloc (.cells (mfL m v).toArray 30) = w1 at *
 obtain ⟨wd, hwd⟩ : ∃ x, w1.drew = x := ⟨_, rfl⟩
 have BS : Hid (Below w1.heap.size w1 wd) := by (show Below _ _ _); rw [← hwd]; exact (Below.refl _ _).drew
 have hu := Tryz.underlying23
 cases hcan : canM m
 ·have HF : Hid (false = rightM kk m) := by (show _ = _); rw [HV.out, hcan]; rfl
  have HC := qH hcan
  clear hcan HV
  refine wp_region_held_drew (S := (fun w' => Below w1.heap.size w1 w')) (by kernel_rfl) ((Below.refl _ _).drew) (fun hHeld => ?_)
  rw [hwd] at hHeld ⊢
  clear hwd hHeld
  have hHeld := BS.out
  refine tl 0 (.agg (mfL m v).toArray) rfl (yieldsIf_load_row (by rfl) 30 _ rfl w.heap.size rfl 30 (mfL m v).toArray (0, 0) _ (fun w' h => (M.out.to h).row) Tryz.underlying30 rfl S69.out) ?_
  simp only [pR]
  clear hHeld
  refine rd1 1 (fun K hK => ?_)
  go_simp
  refine (wCanM v m wd (R.out.to BS.out) D.out).mono ?_
  rw [HC.out]
  rintro e w3 ⟨rfl, hb⟩
  replace BS := qH (BS.out.trans (hb.mono BS.out.size))
  clear hb
  go_wp2_with fail
  refine hK.out _ _ (BS.out) (fun hHeld => ?_)
  clear hK K
  refine tk 2 ?_
  simp only [pR]
  refine sk 3 ?_
  simp only [pR]
  refine sk 4 ?_
  simp only [pR]
  refine sk 5 ?_
  simp only [pR]
  refine sk 6 ?_
  simp only [pR]
  refine sk 7 ?_
  simp only [pR]
  refine sk 8 ?_
  simp only [pR]
  refine tk 9 ?_
  simp only [pR]
  refine tk 10 ?_
  simp only [pR]
  refine wpAnyH_done (by kernel_rfl) ?_ _
  clear hHeld
  go_wp2_with fail
  go_ret
  exact ⟨ret_bool HF.out, B.out.trans (BS.out.mono B.out.size)⟩
 ·have HF : Hid (decide (m.tag = macM kk m) = rightM kk m) := by (show _ = _); rw [HV.out, hcan, Bool.true_and, Bool.eq_iff_iff, decide_eq_true_iff, decide_eq_true_iff]; exact ⟨Eq.symm, Eq.symm⟩
  have HC := qH hcan
  have TL : Hid ((macM kk m).length = 32) := hmacL_len _ _
  clear hcan HV
  refine wp_region_held_drew (S := (fun w' => Below w1.heap.size w1 w')) (by kernel_rfl) ((Below.refl _ _).drew) (fun hHeld => ?_)
  rw [hwd] at hHeld ⊢
  clear hwd hHeld
  have hHeld := BS.out
  refine tl 0 (.agg (mfL m v).toArray) rfl (yieldsIf_load_row (by rfl) 30 _ rfl w.heap.size rfl 30 (mfL m v).toArray (0, 0) _ (fun w' h => (M.out.to h).row) Tryz.underlying30 rfl S69.out) ?_
  simp only [pR]
  clear hHeld
  refine rd1 1 (fun K hK => ?_)
  go_simp
  refine (wCanM v m wd (R.out.to BS.out) D.out).mono ?_
  rw [HC.out]
  rintro e w3 ⟨rfl, hb⟩
  replace BS := qH (BS.out.trans (hb.mono BS.out.size))
  clear hb
  go_wp2_with fail
  refine hK.out _ _ (BS.out) (fun hHeld => ?_)
  clear hK K
  refine tk 2 ?_
  simp only [pR]
  refine tk 3 ?_
  simp only [pR]
  refine tl 4 (.agg (List.toArray (m.tag.map bval))) rfl (yieldsIf_load_mid (by rfl) 23 _ rfl w.heap.size 37 rfl (m.tag.map bval) _ ((fun w' h => (M.out.to h).tag)) hu rfl S32.out) ?_
  simp only [pR]
  refine tk 5 ?_
  simp only [pR]
  refine tl 6 (.agg (mfL m v).toArray) rfl (yieldsIf_load_row (by rfl) 30 _ rfl w.heap.size rfl 30 (mfL m v).toArray (0, 0) _ (fun w' h => (M.out.to h).row) Tryz.underlying30 rfl S69.out) ?_
  simp only [pR]
  clear hHeld
  refine rd1 7 (fun K hK => ?_)
  go_simp
  refine (wCorrect A n c kk v m w3 (HP.out.to BS.out) (KA.out.to BS.out) HN.out HC1.out HC2.out (R.out.to BS.out) D.out HC.out).mono ?_
  rintro e w4 ⟨rfl, hb⟩
  replace BS := qH (BS.out.trans (hb.mono BS.out.size))
  clear hb
  go_wp2_with fail
  refine hK.out _ _ (BS.out) (fun hHeld => ?_)
  clear hK K
  clear hHeld
  refine rd1 8 (fun K hK => ?_)
  go_simp
  refine (wSameTag m.tag (macM kk m) w4 HT.out.tag TL.out).mono ?_
  rw [HF.out]
  rintro e w5 ⟨rfl, hb⟩
  replace BS := qH (BS.out.trans (hb.mono BS.out.size))
  clear hb
  go_wp2_with fail
  refine hK.out _ _ (BS.out) (fun hHeld => ?_)
  clear hK K
  obtain ⟨r, hr⟩ : ∃ r, rightM kk m = r := ⟨_, rfl⟩
  replace HF := qH hr.symm
  rw [hr]
  clear hr
  refine tk 9 ?_
  simp only [pR]
  refine tk 10 ?_
  simp only [pR]
  refine wpAnyH_done (by kernel_rfl) ?_ _
  clear hHeld
  go_wp2_with fail
  go_ret
  exact ⟨ret_bool HF.out, B.out.trans (BS.out.mono B.out.size)⟩
theorem wHashM (v : CV) (m : Mf) (w : World) (hp : Pr w) (h : RdM w w.heap.size v m) (d : Bd v) :
  Calls Tryz.prog 12 #[.agg (mfL m v).toArray] w fun x w' => x = .returned (.agg (arrB (hashM m))) ∧ Below w.heap.size w w' := by
 have hz := tag_zero
 have B1 := qH ((Below.refl w.heap.size w).alloc (Nat.le_refl _) (.cells (mfL m v).toArray 30))
 have M := qH (MB.new w h.t v)
 have R := qH (h.to B1.out)
 have HP := qH (hp.to B1.out)
 have HS : Hid ((w.alloc (.cells (mfL m v).toArray 30)).heap.size = w.heap.size + 1) := by (show _ = _); simp
 have D := qH d
 have HT := qH h.t
 have S69 := qH (mf_size h.t v)
 have HV : Hid (hashM m = if canM m = true then shaL (bytesM m) else zeros32) := rfl
 have HE : Hid (prEM m = if canM m = true then 0 else 2) := rfl
 have HB : Hid (prBM m = if canM m = true then bytesM m else []) := rfl
 clear h d hp
 go_enter Tryz.func12, Tryz.ntmps12
 go_upto_region 1 with (fail)
 generalize w.alloc (.cells (mfL m v).toArray 30) = w1 at *
 have B2 : Hid (Below w1.heap.size w1 (w1.alloc (.cells (arrB zeros32) 23))) := (Below.refl _ _).alloc (Nat.le_refl _) _
 have T : Hid (TagAt (w1.alloc (.cells (arrB zeros32) 23)) (w.heap.size + 1) zeros32) := ⟨rfl, by rw [← HS.out]; exact heap_alloc_last w1 _⟩
 replace M := qH (M.out.to B2.out)
 replace R := qH (R.out.to B2.out)
 replace HP := qH (HP.out.to B2.out)
 replace B2 := qH (B1.out.trans (B2.out.mono B1.out.size))
 generalize w1.alloc (.cells (arrB zeros32) 23) = w2 at *
 clear B1 HS hz
 go_wp2_with (refine wpList_load_row rfl 30 _ rfl w.heap.size rfl 30 (mfL m v).toArray (0, 0) _ M.out.row Tryz.underlying30 rfl S69.out ?_)
 refine (wPrintM v m w2 R.out D.out).mono ?_
 rintro e w3 ⟨A3, n3, c3, rfl, hr, h1, h2, hb⟩
 have R3 := qH hr
 have H1 := qH h1
 have H2 := qH h2
 replace T := qH (T.out.below hb)
 replace HP := qH (HP.out.to hb)
 replace B2 := qH (B2.out.trans (hb.mono B2.out.size))
 clear hr h1 h2 hb M R
 cases hc : canM m
 ·rw [hc, if_neg (by decide)] at HV HE HB
  rw [HE.out]
  clear hc
  have SL : Hid ((Tryz.prog.info? 23).map (·.size) = some (arrB zeros32).size) := tag_size rfl
  go_wp2_with (refine wpList_store_row rfl 23 _ _ rfl (w.heap.size + 1) (arrB zeros32) rfl rfl 23 (arrB zeros32) T.out.2 SL.out rfl (arrB_one _) ?_)
  (try simp only [Exit.inBlock, Exit.then])
  refine bodyPost_ret (results_cell_row rfl _ _ (w.heap.size + 1) 23 (arrB zeros32) (0, 0) _ rfl (setRow_heap _ _ _ _ _ _ T.out.2) Tryz.underlying23 rfl SL.out) rfl ?_
  exact ⟨by rw [HV.out], below_setRow B2.out (by omega) _⟩
 ·rw [hc, if_pos rfl] at HV HE HB
  rw [HE.out]
  have HL := qH (bytesM_len HT.out.prev HT.out.tag hc).1
  rw [HB.out] at R3
  clear hc
  go_wp2_with fail
  refine (wSha A3 n3 c3 (bytesM m) w3 HP.out R3.out (by have := HL.out; have := R3.out.1; omega) H1.out H2.out).mono ?_
  rintro e w4 ⟨rfl, hb⟩
  replace T := qH (T.out.below hb)
  replace B2 := qH (B2.out.trans (hb.mono B2.out.size))
  have SL := qH (tag_size (shaL_len (bytesM m)))
  have ST : Hid ((arrB zeros32).size = (arrB (shaL (bytesM m))).size) := by (show _ = _); rw [arrB_size, arrB_size, shaL_len]; rfl
  clear hb
  go_wp2_with (refine wpList_store_row rfl 23 _ _ rfl (w.heap.size + 1) (arrB (shaL (bytesM m))) rfl rfl 23 (arrB zeros32) T.out.2 SL.out ST.out (arrB_one _) ?_)
  (try simp only [Exit.inBlock, Exit.then])
  refine bodyPost_ret (results_cell_row rfl _ _ (w.heap.size + 1) 23 (arrB (shaL (bytesM m))) (0, 0) _ rfl (setRow_heap _ _ _ _ _ _ T.out.2) Tryz.underlying23 rfl SL.out) rfl ?_
  exact ⟨by rw [HV.out], below_setRow B2.out (by omega) _⟩
end
end Go.Proofs.YtlmdidblgeeplaaGreatDoor