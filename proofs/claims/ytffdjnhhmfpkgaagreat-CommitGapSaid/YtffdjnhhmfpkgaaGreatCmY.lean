/- Layer 16's laws: boxes of records beside a disk; the chapter's examples (citadellaw16.awake) (made by gen_cmy.py). -/
import Derived.Test.YtffdjnhhmfpkgaaGreatTz
import Derived.Test.YtffdjnhhmfpkgaaGreatCmX
namespace Go.Proofs.YtffdjnhhmfpkgaaGreat
set_option maxRecDepth 1000000
set_option maxHeartbeats 8000000
open Go.RowKit
set_option linter.unusedVariables false
set_option linter.unusedSimpArgs false
attribute [-go_sem] Go.run_equalIn_agg
def Bxs (w : World) (F : Nat → Prop) (bs : List (Nat × Rcd)) : Prop := ∀ p ∈ bs, RB w p.1 p.2 ∧ ¬ F p.1
section
variable {w w' : World} {F F' : Nat → Prop} {bs : List (Nat × Rcd)}
theorem Bxs.nil : Bxs w F [] := fun p h => by cases h
theorem Bxs.to (h : Bxs w F bs) (hb : Below w.heap.size w w') : Bxs w' F bs := fun p hp => ⟨(h p hp).1.to hb, (h p hp).2⟩
theorem Bxs.step (h : Bxs w F bs) (hn : ∀ k, F' k → F k ∨ w.heap.size ≤ k) (hk : Keep F w w') : Bxs w' F' bs := fun p hp =>
 ⟨(h p hp).1.kept hk (h p hp).2, fun hf => (hn _ hf).elim (h p hp).2 (fun hh => by have := (h p hp).1.lt; omega)⟩
theorem Bxs.add2 {w0 : World} {x y : Rcd} (h : Bxs w F bs) (hx : RB w w0.heap.size x) (hy : RB w (w0.heap.size + 1) y) (hf : ∀ k, F k → k < w0.heap.size) : Bxs w F ((w0.heap.size, x) :: (w0.heap.size + 1, y) :: bs) := by
 intro p hp
 rcases List.mem_cons.1 hp with rfl | hp
 ·exact ⟨hx, fun h => Nat.lt_irrefl _ (hf _ h)⟩
 rcases List.mem_cons.1 hp with rfl | hp
 ·exact ⟨hy, fun h => by have := hf _ h; omega⟩
 ·exact h p hp
theorem Bxs.row {g : Nat} {r : Rcd} (h : Bxs w F bs) (hp : (g, r) ∈ bs) : w.heap[g]? = some (.cells (rcL r).toArray 34 (0, 0)) := (h _ hp).1.2
theorem Bxs.rb {g : Nat} {r : Rcd} (h : Bxs w F bs) (hp : (g, r) ∈ bs) : RB w g r := (h _ hp).1
end
def awOne : Rcd := ⟨1, 0, 5, false, zeros32⟩
def awTwo : Rcd := ⟨2, 1, 7, true, zeros32⟩
theorem awOne_in : awOne.In := ⟨by unfold inI; decide, by unfold inI; decide, by unfold inI; decide, rfl⟩
theorem awTwo_in : awTwo.In := ⟨by unfold inI; decide, by unfold inI; decide, by unfold inI; decide, rfl⟩
theorem dsP_pos (p : Int) (x y : List UInt8) (T : List Sec) : 0 < (dsP p x y T).L.length := by unfold dsP; split <;> simp [ds2]
theorem aw_s0 : cmGet (dsP 0 sec0 sec0 T3) = (Rcd.zero, Rcd.zero, 160) := by rw [get_other (.inl rfl) (cmAt_sec0 _), if_pos (cmAt_sec0 _)]
theorem aw_p1 : cmPut awOne (dsP 0 sec0 sec0 T3) = (0, dsP 1 (cmSec awOne) sec0 T3) := put_dsP (by decide) rfl (calm_one _) (.inl rfl) rfl
theorem aw_s1 : cmGet (dsP 1 (cmSec awOne) sec0 T3) = (awOne, Rcd.zero, 0) := get_first (.inr rfl) (by decide) awOne_in rfl (cmAt_sec0 _)
theorem aw_p2 : cmPut awTwo (dsP 1 (cmSec awOne) sec0 T3) = (0, dsP 0 (cmSec awTwo) (cmSec awOne) T3) := put_dsP (by decide) rfl (calm_one _) (.inr rfl) rfl
theorem aw_s2 : cmGet (dsP 0 (cmSec awTwo) (cmSec awOne) T3) = (awTwo, awOne, 0) := by
 have h1 : cmAt (1 - 0) (cmSec awOne) = awOne := cmAt_sec (by decide) awOne_in
 rw [get_last (.inl rfl) (by decide) awTwo_in rfl h1 (by decide), if_pos (by decide)]
theorem cmPut_bad {r : Rcd} {s : DS} (h : cmMay r = false) : cmPut r s = (2, s) := by unfold cmPut; rw [h, if_neg (by decide)]
theorem lAwake16 (w : World) : Calls Tryz.prog 23 #[] w fun e w' => e = .returned (.bool true) ∧ Below w.heap.size w w' := by
 go_enter Tryz.func23, Tryz.ntmps23
 have hz := rc_zero
 go_wp2_with fail
 refine (dNew 3 w (by decide) (by decide)).mono ?_
 rintro e w1 ⟨d, rfl, F, hd, hf, hb⟩
 have HD := qH (show DkAt w1 d F (dsP 0 sec0 sec0 T3) from hd)
 have HFB := qH hf
 have B := qH hb
 clear hd hf hb
 obtain ⟨t1, t2, t3, t4, t5⟩ := tw_is w1 (x := awOne) (y := awTwo) rfl rfl
 have T1 := qH t1
 have T2 := qH t2
 have BS := qH (Bxs.nil (w := tw2 w1 awOne awTwo) (F := F) |>.add2 t3 t4 (fun k hk => by have := HD.out.lt k hk; omega))
 replace HD := qH (HD.out.to t5)
 replace B := qH (B.out.trans (t5.mono B.out.size))
 clear t1 t2 t3 t4 t5
 go_upto_region 5 with (first | (refine wpList_store_row rfl 34 _ _ rfl w1.heap.size (rcL awOne).toArray rfl rfl 34 (rcL Rcd.zero).toArray T1.out (rc_size rfl) (rc_same rfl) (rc_one _) ?_) | (refine wpList_store_row rfl 34 _ _ rfl (w1.heap.size + 1) (rcL awTwo).toArray rfl rfl 34 (rcL Rcd.zero).toArray T2.out (rc_size rfl) (rc_same rfl) (rc_one _) ?_))
 have hE : (((w1.alloc (.cells (rcL Rcd.zero).toArray 34)).alloc (.cells (rcL Rcd.zero).toArray 34)).setRow w1.heap.size (rcL awOne).toArray).setRow (w1.heap.size + 1) (rcL awTwo).toArray = tw2 w1 awOne awTwo := rfl
 rw [hE]
 clear hE T1 T2
 generalize tw2 w1 awOne awTwo = w2 at *
 generalize w1.heap.size + 1 = g4 at *
 generalize w1.heap.size = g3 at *
 have HSW : Hid (w.heap.size ≤ w2.heap.size) := B.out.size
 go_wp2_with fail
 refine (cGet d F _ w2 HD.out).mono ?_
 rw [aw_s0]
 rintro e wx ⟨rfl, hb⟩
 replace HD := qH (HD.out.to hb)
 replace BS := qH (BS.out.to hb)
 replace B := qH (B.out.trans (hb.mono B.out.size))
 obtain ⟨t1, t2, t3, t4, t5⟩ := tw_is wx (x := Rcd.zero) (y := Rcd.zero) rfl rfl
 have T1 := qH t1
 have T2 := qH t2
 replace BS := qH ((BS.out.to t5).add2 t3 t4 (fun k hk => by have := HD.out.lt k hk; omega))
 replace HD := qH (HD.out.to t5)
 replace B := qH (B.out.trans (t5.mono B.out.size))
 clear hb t1 t2 t3 t4 t5
 go_upto_region 6 with (first | (refine wpList_store_row rfl 34 _ _ rfl wx.heap.size (rcL Rcd.zero).toArray rfl rfl 34 (rcL Rcd.zero).toArray T1.out (rc_size rfl) (rc_same rfl) (rc_one _) ?_) | (refine wpList_store_row rfl 34 _ _ rfl (wx.heap.size + 1) (rcL Rcd.zero).toArray rfl rfl 34 (rcL Rcd.zero).toArray T2.out (rc_size rfl) (rc_same rfl) (rc_one _) ?_))
 have hE : (((wx.alloc (.cells (rcL Rcd.zero).toArray 34)).alloc (.cells (rcL Rcd.zero).toArray 34)).setRow wx.heap.size (rcL Rcd.zero).toArray).setRow (wx.heap.size + 1) (rcL Rcd.zero).toArray = tw2 wx Rcd.zero Rcd.zero := rfl
 rw [hE]
 clear hE T1 T2
 generalize tw2 wx Rcd.zero Rcd.zero = w3 at *
 generalize wx.heap.size + 1 = q1 at *
 generalize wx.heap.size = p1 at *
 replace HSW : Hid (w.heap.size ≤ w3.heap.size) := B.out.size
 go_wp2_with (refine wpList_load_row rfl 34 _ rfl g3 rfl 34 (rcL awOne).toArray (0, 0) _ (BS.out.row (by repeat (first | exact List.Mem.head _ | apply List.Mem.tail))) Tryz.underlying34 rfl (rc_size rfl) ?_)
 refine (cPut d F _ awOne w3 HD.out (by first | decide | exact dsP_pos _ _ _ _) rfl).mono ?_
 rw [aw_p1]
 rintro e w4 ⟨rfl, F1, h7, h8, h9⟩
 replace BS := qH (BS.out.step h8 h9)
 replace B := qH (h9.below B.out B.out.size HFB.out)
 replace HFB : Hid (∀ k, F1 k → w.heap.size ≤ k) := fun k hk => (h8 k hk).elim (HFB.out k) (fun h => Nat.le_trans HSW.out h)
 replace HSW : Hid (w.heap.size ≤ w4.heap.size) := B.out.size
 replace HD := qH h7
 clear h7 h8 h9
 go_wp2_with fail
 refine (cGet d F1 _ w4 HD.out).mono ?_
 rw [aw_s1]
 rintro e wx ⟨rfl, hb⟩
 replace HD := qH (HD.out.to hb)
 replace BS := qH (BS.out.to hb)
 replace B := qH (B.out.trans (hb.mono B.out.size))
 obtain ⟨t1, t2, t3, t4, t5⟩ := tw_is wx (x := awOne) (y := Rcd.zero) rfl rfl
 have T1 := qH t1
 have T2 := qH t2
 replace BS := qH ((BS.out.to t5).add2 t3 t4 (fun k hk => by have := HD.out.lt k hk; omega))
 replace HD := qH (HD.out.to t5)
 replace B := qH (B.out.trans (t5.mono B.out.size))
 clear hb t1 t2 t3 t4 t5
 go_upto_region 8 with (first | (refine wpList_store_row rfl 34 _ _ rfl wx.heap.size (rcL awOne).toArray rfl rfl 34 (rcL Rcd.zero).toArray T1.out (rc_size rfl) (rc_same rfl) (rc_one _) ?_) | (refine wpList_store_row rfl 34 _ _ rfl (wx.heap.size + 1) (rcL Rcd.zero).toArray rfl rfl 34 (rcL Rcd.zero).toArray T2.out (rc_size rfl) (rc_same rfl) (rc_one _) ?_))
 have hE : (((wx.alloc (.cells (rcL Rcd.zero).toArray 34)).alloc (.cells (rcL Rcd.zero).toArray 34)).setRow wx.heap.size (rcL awOne).toArray).setRow (wx.heap.size + 1) (rcL Rcd.zero).toArray = tw2 wx awOne Rcd.zero := rfl
 rw [hE]
 clear hE T1 T2
 generalize tw2 wx awOne Rcd.zero = w5 at *
 generalize wx.heap.size + 1 = q2 at *
 generalize wx.heap.size = p2 at *
 replace HSW : Hid (w.heap.size ≤ w5.heap.size) := B.out.size
 go_wp2_with (refine wpList_load_row rfl 34 _ rfl g4 rfl 34 (rcL awTwo).toArray (0, 0) _ (BS.out.row (by repeat (first | exact List.Mem.head _ | apply List.Mem.tail))) Tryz.underlying34 rfl (rc_size rfl) ?_)
 refine (cPut d F1 _ awTwo w5 HD.out (by first | decide | exact dsP_pos _ _ _ _) rfl).mono ?_
 rw [aw_p2]
 rintro e w6 ⟨rfl, F2, h7, h8, h9⟩
 replace BS := qH (BS.out.step h8 h9)
 replace B := qH (h9.below B.out B.out.size HFB.out)
 replace HFB : Hid (∀ k, F2 k → w.heap.size ≤ k) := fun k hk => (h8 k hk).elim (HFB.out k) (fun h => Nat.le_trans HSW.out h)
 replace HSW : Hid (w.heap.size ≤ w6.heap.size) := B.out.size
 replace HD := qH h7
 clear h7 h8 h9
 go_wp2_with fail
 refine (cGet d F2 _ w6 HD.out).mono ?_
 rw [aw_s2]
 rintro e wx ⟨rfl, hb⟩
 replace HD := qH (HD.out.to hb)
 replace BS := qH (BS.out.to hb)
 replace B := qH (B.out.trans (hb.mono B.out.size))
 obtain ⟨t1, t2, t3, t4, t5⟩ := tw_is wx (x := awTwo) (y := awOne) rfl rfl
 have T1 := qH t1
 have T2 := qH t2
 replace BS := qH ((BS.out.to t5).add2 t3 t4 (fun k hk => by have := HD.out.lt k hk; omega))
 replace HD := qH (HD.out.to t5)
 replace B := qH (B.out.trans (t5.mono B.out.size))
 clear hb t1 t2 t3 t4 t5
 go_upto_region 10 with (first | (refine wpList_store_row rfl 34 _ _ rfl wx.heap.size (rcL awTwo).toArray rfl rfl 34 (rcL Rcd.zero).toArray T1.out (rc_size rfl) (rc_same rfl) (rc_one _) ?_) | (refine wpList_store_row rfl 34 _ _ rfl (wx.heap.size + 1) (rcL awOne).toArray rfl rfl 34 (rcL Rcd.zero).toArray T2.out (rc_size rfl) (rc_same rfl) (rc_one _) ?_))
 have hE : (((wx.alloc (.cells (rcL Rcd.zero).toArray 34)).alloc (.cells (rcL Rcd.zero).toArray 34)).setRow wx.heap.size (rcL awTwo).toArray).setRow (wx.heap.size + 1) (rcL awOne).toArray = tw2 wx awTwo awOne := rfl
 rw [hE]
 clear hE T1 T2
 generalize tw2 wx awTwo awOne = w7 at *
 generalize wx.heap.size + 1 = q3 at *
 generalize wx.heap.size = p3 at *
 replace HSW : Hid (w.heap.size ≤ w7.heap.size) := B.out.size
 have Hp2 := qH (BS.out.row (g := p2) (r := awOne) (by repeat (first | exact List.Mem.head _ | apply List.Mem.tail)))
 have Hg3 := qH (BS.out.row (g := g3) (r := awOne) (by repeat (first | exact List.Mem.head _ | apply List.Mem.tail)))
 have Hq2 := qH (BS.out.row (g := q2) (r := Rcd.zero) (by repeat (first | exact List.Mem.head _ | apply List.Mem.tail)))
 have Hp3 := qH (BS.out.row (g := p3) (r := awTwo) (by repeat (first | exact List.Mem.head _ | apply List.Mem.tail)))
 have Hg4 := qH (BS.out.row (g := g4) (r := awTwo) (by repeat (first | exact List.Mem.head _ | apply List.Mem.tail)))
 have Hq3 := qH (BS.out.row (g := q3) (r := awOne) (by repeat (first | exact List.Mem.head _ | apply List.Mem.tail)))
 have heqz := fun w' => rc_eq Rcd.zero Rcd.zero rfl rfl w'
 rw [decide_eq_true (rfl : Rcd.zero = Rcd.zero)] at heqz
 have hgd := rc_guard
 go_upto_region 12 with (first
  | (refine wpList_load_rowGm (by rfl) 34 _ rfl p2 rfl 34 (rcL awOne).toArray (0, 0) _ (Hp2.out) Tryz.underlying34 rfl (rc_size rfl) ?_; refine wpList_load_rowGm (by rfl) 34 _ rfl g3 rfl 34 (rcL awOne).toArray (0, 0) _ (Hg3.out) Tryz.underlying34 rfl (rc_size rfl) ?_; refine wpList_neB (by rfl) _ _ rfl awOne awOne rfl rfl rfl rfl false (same_rc _) ?_)
  | (refine wpList_load_rowGm (by rfl) 34 _ rfl p3 rfl 34 (rcL awTwo).toArray (0, 0) _ (Hp3.out) Tryz.underlying34 rfl (rc_size rfl) ?_; refine wpList_load_rowGm (by rfl) 34 _ rfl g4 rfl 34 (rcL awTwo).toArray (0, 0) _ (Hg4.out) Tryz.underlying34 rfl (rc_size rfl) ?_; refine wpList_neB (by rfl) _ _ rfl awTwo awTwo rfl rfl rfl rfl false (same_rc _) ?_)
  | (refine wpList_load_rowGm (by rfl) 34 _ rfl q3 rfl 34 (rcL awOne).toArray (0, 0) _ (Hq3.out) Tryz.underlying34 rfl (rc_size rfl) ?_; refine wpList_load_rowGm (by rfl) 34 _ rfl g3 rfl 34 (rcL awOne).toArray (0, 0) _ (Hg3.out) Tryz.underlying34 rfl (rc_size rfl) ?_; refine wpList_neB (by rfl) _ _ rfl awOne awOne rfl rfl rfl rfl false (same_rc _) ?_)
  | (refine wpList_load_rowGm (by rfl) 34 _ rfl q2 rfl 34 (rcL Rcd.zero).toArray (0, 0) _ (Hq2.out) Tryz.underlying34 rfl (rc_size rfl) ?_))
 clear heqz hgd
 clear BS
 go_wp2_with fail
 refine (cPut d F2 _ ⟨0, 0, 1, false, zeros32⟩ w7 HD.out (by exact dsP_pos _ _ _ _) rfl).mono ?_
 rw [cmPut_bad (by decide)]
 rintro e w8 ⟨rfl, F3, h7, h8, h9⟩
 replace B := qH (h9.below B.out B.out.size HFB.out)
 replace HFB : Hid (∀ k, F3 k → w.heap.size ≤ k) := fun k hk => (h8 k hk).elim (HFB.out k) (fun h => Nat.le_trans HSW.out h)
 replace HSW : Hid (w.heap.size ≤ w8.heap.size) := B.out.size
 replace HD := qH h7
 clear h7 h8 h9
 go_wp2_with fail
 refine (cPut d F3 _ ⟨1, 2, 1, false, zeros32⟩ w8 HD.out (by exact dsP_pos _ _ _ _) rfl).mono ?_
 rw [cmPut_bad (by decide)]
 rintro e w9 ⟨rfl, F4, h7, h8, h9⟩
 replace B := qH (h9.below B.out B.out.size HFB.out)
 replace HFB : Hid (∀ k, F4 k → w.heap.size ≤ k) := fun k hk => (h8 k hk).elim (HFB.out k) (fun h => Nat.le_trans HSW.out h)
 replace HSW : Hid (w.heap.size ≤ w9.heap.size) := B.out.size
 replace HD := qH h7
 clear h7 h8 h9
 go_wp2_with fail
 refine (cPut d F4 _ ⟨1, 0, 0, false, zeros32⟩ w9 HD.out (by exact dsP_pos _ _ _ _) rfl).mono ?_
 rw [cmPut_bad (by decide)]
 rintro e w10 ⟨rfl, F5, h7, h8, h9⟩
 replace B := qH (h9.below B.out B.out.size HFB.out)
 replace HFB : Hid (∀ k, F5 k → w.heap.size ≤ k) := fun k hk => (h8 k hk).elim (HFB.out k) (fun h => Nat.le_trans HSW.out h)
 replace HSW : Hid (w.heap.size ≤ w10.heap.size) := B.out.size
 replace HD := qH h7
 clear h7 h8 h9
 go_wp2_with fail
 go_ret
 exact ⟨rfl, B.out⟩
end Go.Proofs.YtffdjnhhmfpkgaaGreat