/- The document's commit (citadelref16): Put, Get (made by gen_cmrg.py). -/
import Derived.Test.YtffdjnhhmfpkgaaGreatTz
import Derived.Test.YtffdjnhhmfpkgaaGreatCmR
import Derived.Test.YtffdjnhhmfpkgaaGreatR8
namespace Go.Proofs.YtffdjnhhmfpkgaaGreat
set_option maxRecDepth 1000000
set_option maxHeartbeats 8000000
open Go.RowKit
set_option linter.unusedVariables false
set_option linter.unusedSimpArgs false
theorem DrTo.next {w w1 w2 : World} {d : Nat} {F F' : Nat → Prop} {s1 : DS} {r : Int × DS} {e : Ending} (hn : ∀ k, F' k → F k ∨ w.heap.size ≤ k) (hk : Keep F w w1) (h : DrTo w1 d F' r e w2) : DrTo w d F r e w2 := by
 obtain ⟨he, F2, a, b, c⟩ := h
 exact ⟨he, F2, a, fun k hk2 => (b k hk2).elim (hn k) (fun h => .inr (Nat.le_trans hk.size h)), hk.new (c.more (fun k h => hn k h))⟩
theorem rPut16 (d : Nat) (F : Nat → Prop) (s : DS) (r : Rcd) (w : World) (h : DrAt w d F s) (hr : r.hash.length = 32) :
  Calls Tryz.prog 28 #[.pointer (some ⟨d, 0, none⟩), .agg (rcL r).toArray] w (DrTo w d F (cmPut r s)) := by
 have hb : Below w.heap.size w (w.alloc (.cells (rcL r).toArray 34)) := (Below.refl _ _).alloc (Nat.le_refl _) _
 have B := qH hb
 have G := qH (RB.new w hr)
 have H := qH (h.to hb)
 have HP : Hid (cmPut r s = if cmMay r = true then (if (s.write (r.seq % 2) (cmSec r)).1 ≠ 0 then s.write (r.seq % 2) (cmSec r) else (s.write (r.seq % 2) (cmSec r)).2.flush) else (2, s)) := rfl
 have HR := qH hr
 have SR := qH (rc_size hr)
 have HGN : Hid (¬ F w.heap.size) := fun hf => Nat.lt_irrefl _ (h.lt _ hf)
 have HCL := qH (cmSec_len hr)
 clear hb h hr
 go_enter Tryz.func28, Tryz.ntmps28
 go_upto_region 1 with (fail)
 generalize w.alloc (.cells (rcL r).toArray 34) = w1 at *
 obtain ⟨g, hg⟩ : ∃ x, w.heap.size = x := ⟨_, rfl⟩
 rw [hg] at G HGN ⊢
 go_wp2_with (refine wpList_load_row rfl 34 _ rfl g rfl 34 (rcL r).toArray (0, 0) _ G.out.row Tryz.underlying34 rfl SR.out ?_)
 refine (rMayM r w1 HR.out).mono ?_
 rintro e w2 ⟨rfl, hb⟩
 replace G := qH (G.out.to hb)
 replace H := qH (H.out.to hb)
 replace B := qH (B.out.trans (hb.mono B.out.size))
 clear hb
 cases hm : cmMay r
 ·rw [hm, if_neg (by decide)] at HP
  clear hm
  go_wp2_with fail
  go_ret
  rw [HP.out]
  exact (DrTo.same H.out).after B.out
 rw [hm, if_pos rfl] at HP
 have hs0 : 0 ≤ r.seq := by have := (cmMay_iff.1 hm).1; omega
 have q1 := rem2 r.seq hs0
 have q2 := rem2b r.seq hs0
 have q3 := rem2c r.seq
 clear hm
 go_upto_region 3 with (fail)
 obtain ⟨wd, hwd⟩ : ∃ x, w2.drew = x := ⟨_, rfl⟩
 have BS : Below w2.heap.size w2 wd := by rw [← hwd]; exact (Below.refl _ _).drew
 replace G := qH (G.out.to BS)
 replace H := qH (H.out.to BS)
 replace B := qH (B.out.trans (BS.mono B.out.size))
 refine wp_region_held_drew (S := (fun w' => RB w' g r)) (by kernel_rfl) ((by rw [hwd]; exact G.out)) (fun hHeld => ?_)
 rw [hwd] at hHeld ⊢
 clear hwd BS
 refine tk 0 ?_
 simp only [pR]
 refine tk 1 ?_
 simp only [pR]
 refine tw 2 rfl (by intro w hSw; (try dsimp only at hSw); (obtain ⟨x, -⟩ := RB.cells hSw); clear hSw; go_simp; (try with_reducible rfl)) ?_
 simp only [pR]
 refine tk 3 ?_
 simp only [pR]
 refine tl 4 (.agg (rcL r).toArray) rfl (yieldsIf_load_row (by rfl) 34 _ rfl g rfl 34 (rcL r).toArray (0, 0) _ (fun w' h => RB.row h) Tryz.underlying34 rfl SR.out) ?_
 simp only [pR]
 clear hHeld
 (try simp only [q1, q2, q3])
 clear q1 q2 q3
 refine rd1 5 (fun K hK => ?_)
 go_simp
 refine (rSector r wd HR.out).mono ?_
 rintro e wb ⟨A4, n4, c4, rfl, hown, hb⟩
 replace G := qH (G.out.to hb)
 have O4 := qH (own_offP hown H.out.lt)
 replace H := qH (H.out.to hb)
 replace B := qH (B.out.trans (hb.mono B.out.size))
 have RD := qH (Rd.of_own hown)
 clear hown hb
 go_wp2_with fail
 refine hK.out _ _ (G.out) (fun hHeld => ?_)
 clear hK K
 clear hHeld
 refine rd1 6 (fun K hK => ?_)
 go_simp
 refine (qWrite d F s (r.seq % 2) A4 n4 c4 (cmSec r) wb H.out RD.out (by have e1 := RD.out.1; have e2 := HCL.out; omega) O4.out).mono ?_
 rintro e wc h6
 obtain ⟨rfl, F6, h7, h8, h9⟩ := h6
 replace G := qH (G.out.kept h9 HGN.out)
 have HD := qH h7
 have HF := qH h8
 have HK := qH h9
 clear h7 h8 h9
 go_wp2_with fail
 refine hK.out _ _ (G.out) (fun hHeld => ?_)
 clear hK K
 refine tk 7 ?_
 simp only [pR]
 refine wpAnyH_done (by kernel_rfl) ?_ _
 clear hHeld G RD O4 H
 by_cases he : (s.write (r.seq % 2) (cmSec r)).1 = 0
 ·rw [if_neg (fun h => h he)] at HP
  rw [he]
  clear he
  go_wp2_with fail
  refine (qFlush d F6 _ wc HD.out).mono ?_
  intro e wz h10
  have T := qH (DrTo.next (s1 := s) HF.out HK.out h10)
  obtain ⟨rfl, _⟩ := h10
  go_wp2_with fail
  go_ret
  rw [HP.out]
  exact T.out.after B.out
 ·rw [if_pos he] at HP
  have hne : ((s.write (r.seq % 2) (cmSec r)).1 != 0) = true := bne_iff_ne.2 he
  clear he
  have T : Hid (DrTo wb d F (s.write (r.seq % 2) (cmSec r)) (.returned (.int .i64 (s.write (r.seq % 2) (cmSec r)).1)) wc) := ⟨rfl, F6, HD.out, HF.out, HK.out⟩
  rw [← HP.out] at T
  rw [← HP.out] at hne ⊢
  generalize cmPut r s = res at *
  obtain ⟨re, rs⟩ := res
  dsimp only at *
  clear HP HD
  go_wp2_with fail
  go_ret
  exact T.out.after B.out
theorem add1C {x y : Int} (hx : 1 ≤ x) (h1 : 1 ≤ y) (h2 : y ≤ 9223372036854775807) : x = IntKind.i64.wrap (y + 1) ↔ x = y + 1 ∧ y < 9223372036854775807 := by rw [IntKind.wrap_i64]; omega
theorem pick_up {x y : Rcd} (hx : cmMay x = true) (h : x.seq = y.seq + 1) : cmPick x y = (x, y, 0) ∧ cmPick y x = (x, y, 0) := by
 have hh := pick_gt (y := y) hx (by omega)
 rw [if_pos (show y.seq = x.seq - 1 by omega)] at hh
 exact hh
theorem pick_far {x y : Rcd} (hx : cmMay x = true) (h : y.seq < x.seq) (hn : ¬ x.seq = y.seq + 1) : cmPick x y = (x, Rcd.zero, 0) ∧ cmPick y x = (x, Rcd.zero, 0) := by
 have hh := pick_gt (y := y) hx h
 rw [if_neg (show ¬ y.seq = x.seq - 1 by omega)] at hh
 exact hh
theorem rGet16 (d : Nat) (F : Nat → Prop) (s : DS) (w : World) (h : DrAt w d F s) :
  Calls Tryz.prog 17 #[.pointer (some ⟨d, 0, none⟩)] w (RetG w (cmGet s)) := by
 have hz := rc_zero
 have S0 := qH (rc_size (r := Rcd.zero) rfl)
 have GS := qH (getW_is w)
 have HOK := qH h.ok
 have HCG : Hid (cmGet s = if (s.read 0).2 ≠ 0 then (Rcd.zero, Rcd.zero, (s.read 0).2) else if (s.read 1).2 ≠ 0 then (Rcd.zero, Rcd.zero, (s.read 1).2) else cmPick (cmAt 0 (s.read 0).1) (cmAt 1 (s.read 1).1)) := rfl
 have H := qH (h.to (show Below w.heap.size w (getW w) from GS.out.bel))
 have H2 := qH (h.to (show Below w.heap.size w ((getW w).setRow (w.heap.size + 1 + 1) (rcL Rcd.zero).toArray) from (GS.out.set5 (show w.heap.size ≤ w.heap.size + 1 + 1 by omega)).bel))
 clear h
 have HL0 := qH (read_len HOK.out 0)
 have HL1 := qH (read_len HOK.out 1)
 go_enter Tryz.func17, Tryz.ntmps17
 go_upto_region 2 with (refine wpList_store_row rfl 34 _ _ rfl (w.heap.size + 1 + 1) (rcL Rcd.zero).toArray rfl rfl 34 (rcL Rcd.zero).toArray GS.out.t5.row S0.out rfl (rc_one _) ?_)
 have hw2 : (((w.alloc (.cells (rcL Rcd.zero).toArray 34)).alloc (.cells (rcL Rcd.zero).toArray 34)).alloc (.cells (rcL Rcd.zero).toArray 34)).setRow (w.heap.size + 1 + 1) (rcL Rcd.zero).toArray = (getW w).setRow (w.heap.size + 1 + 1) (rcL Rcd.zero).toArray := rfl
 rw [hw2]
 clear hw2
 replace GS := qH (GS.out.set5 (show w.heap.size ≤ w.heap.size + 1 + 1 by omega))
 replace H := H2
 clear H2
 generalize (getW w).setRow (w.heap.size + 1 + 1) (rcL Rcd.zero).toArray = w1 at *
 generalize w.heap.size + 1 + 1 = g5 at *
 generalize w.heap.size + 1 = g3 at *
 obtain ⟨g2, hg2⟩ : ∃ x, w.heap.size = x := ⟨_, rfl⟩
 rw [hg2] at GS ⊢
 go_wp2_with fail
 refine (qRead d F s 0 w1 H.out).mono ?_
 rintro e w2 ⟨A0, n0, c0, rfl, hown, hb⟩
 replace GS := qH (GS.out.to hb)
 replace H := qH (H.out.to hb)
 have R0 := qH (Rd.of_own hown)
 have CP0 := qH (own_cap hown)
 clear hown hb
 by_cases he0 : (s.read 0).2 = 0
 rotate_left 1
 ·have HR : Hid (cmGet s = (Rcd.zero, Rcd.zero, (s.read 0).2)) := by (show _ = _); rw [HCG.out, if_pos he0]
  have hne : ((s.read 0).2 != 0) = true := bne_iff_ne.2 he0
  clear he0 HCG R0 CP0 HL0 HL1 H
  generalize (s.read 0).2 = ev at *
  go_upto_region 4 with (fail)
  obtain ⟨wd, hwd⟩ : ∃ x, w2.drew = x := ⟨_, rfl⟩
  have BS : Below w2.heap.size w2 wd := by rw [← hwd]; exact (Below.refl _ _).drew
  replace GS := qH (GS.out.to BS)
  refine wp_region_held_drew (S := (fun w' => RB w' g5 Rcd.zero)) (by kernel_rfl) ((by rw [hwd]; exact GS.out.t5)) (fun hHeld => ?_)
  rw [hwd] at hHeld ⊢
  clear hwd BS
  refine tl 0 (.agg (rcL Rcd.zero).toArray) rfl (yieldsIf_load_row (by rfl) 34 _ rfl g5 rfl 34 (rcL Rcd.zero).toArray (0, 0) _ (fun w' h => RB.row h) Tryz.underlying34 rfl S0.out) ?_
  simp only [pR]
  refine tl 1 (.agg (rcL Rcd.zero).toArray) rfl (yieldsIf_load_row (by rfl) 34 _ rfl g5 rfl 34 (rcL Rcd.zero).toArray (0, 0) _ (fun w' h => RB.row h) Tryz.underlying34 rfl S0.out) ?_
  simp only [pR]
  refine tk 2 ?_
  simp only [pR]
  clear hHeld
  refine rd1 3 (fun K hK => ?_)
  rw [if_pos (by rfl)]
  refine wp_store_row0 34 _ _ rfl rfl g2 (rcL Rcd.zero).toArray rfl rfl 34 _ GS.out.t2.row S0.out (GS.out.same rfl GS.out.t2.1) (rc_one _) ?_
  refine hK.out _ _ ((GS.out.set2 (r := Rcd.zero) rfl).t5) (fun hHeld => ?_)
  clear hK K
  replace GS := qH (GS.out.set2 (r := Rcd.zero) rfl)
  generalize wd.setRow g2 (rcL Rcd.zero).toArray = we at *
  clear hHeld
  refine rd1 4 (fun K hK => ?_)
  rw [if_pos (by rfl)]
  refine wp_store_row0 34 _ _ rfl rfl g3 (rcL Rcd.zero).toArray rfl rfl 34 _ GS.out.t3.row S0.out (GS.out.same rfl GS.out.t3.1) (rc_one _) ?_
  refine hK.out _ _ ((GS.out.set3 (r := Rcd.zero) rfl).t5) (fun hHeld => ?_)
  clear hK K
  replace GS := qH (GS.out.set3 (r := Rcd.zero) rfl)
  generalize we.setRow g3 (rcL Rcd.zero).toArray = wf at *
  refine tk 5 ?_
  simp only [pR]
  refine wpAnyH_done (by kernel_rfl) ?_ _
  go_wp2_with fail
  refine bodyPost_ret (res_rcG rfl _ _ w (.int .i64 ev) rfl rfl rfl GS.out) rfl ?_
  exact ⟨by rw [HR.out], GS.out.bel⟩
 rw [if_neg (fun h => h he0)] at HCG
 rw [he0]
 clear he0
 go_wp2_with fail
 refine (qRead d F s 1 w2 H.out).mono ?_
 rintro e w3 ⟨A1, n1, c1, rfl, hown, hb⟩
 replace GS := qH (GS.out.to hb)
 replace R0 := qH (R0.out.to hb)
 have R1 := qH (Rd.of_own hown)
 have CP1 := qH (own_cap hown)
 clear hown hb H
 by_cases he1 : (s.read 1).2 = 0
 rotate_left 1
 ·have HR : Hid (cmGet s = (Rcd.zero, Rcd.zero, (s.read 1).2)) := by (show _ = _); rw [HCG.out, if_pos he1]
  have hne : ((s.read 1).2 != 0) = true := bne_iff_ne.2 he1
  clear he1 HCG R0 CP0 HL0 HL1 R1 CP1
  generalize (s.read 1).2 = ev at *
  go_upto_region 7 with (fail)
  obtain ⟨wd, hwd⟩ : ∃ x, w3.drew = x := ⟨_, rfl⟩
  have BS : Below w3.heap.size w3 wd := by rw [← hwd]; exact (Below.refl _ _).drew
  replace GS := qH (GS.out.to BS)
  refine wp_region_held_drew (S := (fun w' => RB w' g5 Rcd.zero)) (by kernel_rfl) ((by rw [hwd]; exact GS.out.t5)) (fun hHeld => ?_)
  rw [hwd] at hHeld ⊢
  clear hwd BS
  refine tl 0 (.agg (rcL Rcd.zero).toArray) rfl (yieldsIf_load_row (by rfl) 34 _ rfl g5 rfl 34 (rcL Rcd.zero).toArray (0, 0) _ (fun w' h => RB.row h) Tryz.underlying34 rfl S0.out) ?_
  simp only [pR]
  refine tl 1 (.agg (rcL Rcd.zero).toArray) rfl (yieldsIf_load_row (by rfl) 34 _ rfl g5 rfl 34 (rcL Rcd.zero).toArray (0, 0) _ (fun w' h => RB.row h) Tryz.underlying34 rfl S0.out) ?_
  simp only [pR]
  refine tk 2 ?_
  simp only [pR]
  clear hHeld
  refine rd1 3 (fun K hK => ?_)
  rw [if_pos (by rfl)]
  refine wp_store_row0 34 _ _ rfl rfl g2 (rcL Rcd.zero).toArray rfl rfl 34 _ GS.out.t2.row S0.out (GS.out.same rfl GS.out.t2.1) (rc_one _) ?_
  refine hK.out _ _ ((GS.out.set2 (r := Rcd.zero) rfl).t5) (fun hHeld => ?_)
  clear hK K
  replace GS := qH (GS.out.set2 (r := Rcd.zero) rfl)
  generalize wd.setRow g2 (rcL Rcd.zero).toArray = we at *
  clear hHeld
  refine rd1 4 (fun K hK => ?_)
  rw [if_pos (by rfl)]
  refine wp_store_row0 34 _ _ rfl rfl g3 (rcL Rcd.zero).toArray rfl rfl 34 _ GS.out.t3.row S0.out (GS.out.same rfl GS.out.t3.1) (rc_one _) ?_
  refine hK.out _ _ ((GS.out.set3 (r := Rcd.zero) rfl).t5) (fun hHeld => ?_)
  clear hK K
  replace GS := qH (GS.out.set3 (r := Rcd.zero) rfl)
  generalize we.setRow g3 (rcL Rcd.zero).toArray = wf at *
  refine tk 5 ?_
  simp only [pR]
  refine wpAnyH_done (by kernel_rfl) ?_ _
  go_wp2_with fail
  refine bodyPost_ret (res_rcG rfl _ _ w (.int .i64 ev) rfl rfl rfl GS.out) rfl ?_
  exact ⟨by rw [HR.out], GS.out.bel⟩
 rw [if_neg (fun h => h he1)] at HCG
 rw [he1]
 clear he1
 go_wp2_with fail
 refine (rRead16 A0 n0 c0 _ 0 w3 R0.out (by have e1 := R0.out.1; have e2 := HL0.out; omega) CP0.out.1).mono ?_
 rintro e w4 ⟨rfl, hb⟩
 replace GS := qH (GS.out.to hb)
 replace R1 := qH (R1.out.to hb)
 clear hb R0 CP0 HL0
 have HX : Hid (cmAt 0 (s.read 0).1 = if (cmIs (s.read 0).1 && decide ((cmRec (s.read 0).1).seq % 2 = 0)) = true then cmRec (s.read 0).1 else Rcd.zero) := rfl
 have HMX : Hid ((cmIs (s.read 0).1 && decide ((cmRec (s.read 0).1).seq % 2 = 0)) = true → cmMay (cmRec (s.read 0).1) = true) := fun h => cmIs_may (Bool.and_eq_true .. ▸ h).1
 have HPX : Hid ((cmIs (s.read 0).1 && decide ((cmRec (s.read 0).1).seq % 2 = 0)) = true → (cmRec (s.read 0).1).seq % 2 = 0) := fun h => of_decide_eq_true (Bool.and_eq_true .. ▸ h).2
 have IX := qH (cmRec_in (s.read 0).1)
 generalize cmAt 0 (s.read 0).1 = px at *
 generalize cmRec (s.read 0).1 = x at *
 generalize (cmIs (s.read 0).1 && decide (x.seq % 2 = 0)) = ok at *
 have SX := qH (rc_size IX.out.hash)
 have SZX : Hid ((rcL Rcd.zero).toArray.size = (rcL x).toArray.size) := by (show _ = _); rw [rcL_size rfl, rcL_size IX.out.hash]
 go_upto_region 9 with (refine wpList_store_row rfl 34 _ _ rfl w4.heap.size (rcL x).toArray rfl rfl 34 (rcL Rcd.zero).toArray (heap_alloc_last w4 _) SX.out SZX.out (rc_one _) ?_; rw [World.setRow_alloc_new])
 have hal : Below w4.heap.size w4 (w4.alloc (.cells (rcL x).toArray 34)) := (Below.refl _ _).alloc (Nat.le_refl _) _
 have GX := qH (RB.new w4 IX.out.hash)
 have Ng10 : Hid (w4.heap.size ≠ g2 ∧ w4.heap.size ≠ g3) := ⟨(Nat.ne_of_lt GS.out.t2.lt).symm, (Nat.ne_of_lt GS.out.t3.lt).symm⟩
 replace GS := qH (GS.out.to hal)
 replace R1 := qH (R1.out.to hal)
 clear hal SZX
 generalize w4.alloc (.cells (rcL x).toArray 34) = w5 at *
 generalize w4.heap.size = g10 at *
 clear w4
 go_wp2_with fail
 refine (rRead16 A1 n1 c1 _ 1 w5 R1.out (by have e1 := R1.out.1; have e2 := HL1.out; omega) CP1.out.1).mono ?_
 rintro e w6 ⟨rfl, hb⟩
 replace GS := qH (GS.out.to hb)
 replace GX := qH (GX.out.to hb)
 clear hb R1 CP1 HL1
 have HY : Hid (cmAt 1 (s.read 1).1 = if (cmIs (s.read 1).1 && decide ((cmRec (s.read 1).1).seq % 2 = 1)) = true then cmRec (s.read 1).1 else Rcd.zero) := rfl
 have HMY : Hid ((cmIs (s.read 1).1 && decide ((cmRec (s.read 1).1).seq % 2 = 1)) = true → cmMay (cmRec (s.read 1).1) = true) := fun h => cmIs_may (Bool.and_eq_true .. ▸ h).1
 have HPY : Hid ((cmIs (s.read 1).1 && decide ((cmRec (s.read 1).1).seq % 2 = 1)) = true → (cmRec (s.read 1).1).seq % 2 = 1) := fun h => of_decide_eq_true (Bool.and_eq_true .. ▸ h).2
 have IY := qH (cmRec_in (s.read 1).1)
 generalize cmAt 1 (s.read 1).1 = py at *
 generalize cmRec (s.read 1).1 = y at *
 generalize (cmIs (s.read 1).1 && decide (y.seq % 2 = 1)) = is at *
 have SY := qH (rc_size IY.out.hash)
 have SZY : Hid ((rcL Rcd.zero).toArray.size = (rcL y).toArray.size) := by (show _ = _); rw [rcL_size rfl, rcL_size IY.out.hash]
 go_upto_region 10 with (refine wpList_store_row rfl 34 _ _ rfl w6.heap.size (rcL y).toArray rfl rfl 34 (rcL Rcd.zero).toArray (heap_alloc_last w6 _) SY.out SZY.out (rc_one _) ?_; rw [World.setRow_alloc_new])
 have hal : Below w6.heap.size w6 (w6.alloc (.cells (rcL y).toArray 34)) := (Below.refl _ _).alloc (Nat.le_refl _) _
 have GY := qH (RB.new w6 IY.out.hash)
 have Ng12 : Hid (w6.heap.size ≠ g2 ∧ w6.heap.size ≠ g3) := ⟨(Nat.ne_of_lt GS.out.t2.lt).symm, (Nat.ne_of_lt GS.out.t3.lt).symm⟩
 replace GS := qH (GS.out.to hal)
 replace GX := qH (GX.out.to hal)
 clear hal SZY
 generalize w6.alloc (.cells (rcL y).toArray 34) = w7 at *
 generalize w6.heap.size = g12 at *
 clear w6
 cases ok
 ·have hpx : px = Rcd.zero := by rw [HX.out, if_neg (by decide)]
  cases is
  ·have HR : Hid (cmGet s = (Rcd.zero, Rcd.zero, 160)) := by
    (show _ = _)
    rw [HCG.out, hpx, HY.out, if_neg (by decide)]
    exact pick_none
   clear hpx HX HY HMX HMY HPY HCG
   go_upto_region 11 with (fail)
   obtain ⟨wd, hwd⟩ : ∃ x, w7.drew = x := ⟨_, rfl⟩
   have BS : Below w7.heap.size w7 wd := by rw [← hwd]; exact (Below.refl _ _).drew
   replace GS := qH (GS.out.to BS)
   refine wp_region_held_drew (S := (fun w' => RB w' g5 Rcd.zero)) (by kernel_rfl) ((by rw [hwd]; exact GS.out.t5)) (fun hHeld => ?_)
   rw [hwd] at hHeld ⊢
   clear hwd BS
   refine tl 0 (.agg (rcL Rcd.zero).toArray) rfl (yieldsIf_load_row (by rfl) 34 _ rfl g5 rfl 34 (rcL Rcd.zero).toArray (0, 0) _ (fun w' h => RB.row h) Tryz.underlying34 rfl S0.out) ?_
   simp only [pR]
   refine tl 1 (.agg (rcL Rcd.zero).toArray) rfl (yieldsIf_load_row (by rfl) 34 _ rfl g5 rfl 34 (rcL Rcd.zero).toArray (0, 0) _ (fun w' h => RB.row h) Tryz.underlying34 rfl S0.out) ?_
   simp only [pR]
   clear hHeld
   refine rd1 2 (fun K hK => ?_)
   rw [if_pos (by rfl)]
   refine wp_store_row0 34 _ _ rfl rfl g2 (rcL Rcd.zero).toArray rfl rfl 34 _ GS.out.t2.row S0.out (GS.out.same rfl GS.out.t2.1) (rc_one _) ?_
   refine hK.out _ _ ((GS.out.set2 (r := Rcd.zero) rfl).t5) (fun hHeld => ?_)
   clear hK K
   replace GS := qH (GS.out.set2 (r := Rcd.zero) rfl)
   generalize wd.setRow g2 (rcL Rcd.zero).toArray = we at *
   clear hHeld
   refine rd1 3 (fun K hK => ?_)
   rw [if_pos (by rfl)]
   refine wp_store_row0 34 _ _ rfl rfl g3 (rcL Rcd.zero).toArray rfl rfl 34 _ GS.out.t3.row S0.out (GS.out.same rfl GS.out.t3.1) (rc_one _) ?_
   refine hK.out _ _ ((GS.out.set3 (r := Rcd.zero) rfl).t5) (fun hHeld => ?_)
   clear hK K
   replace GS := qH (GS.out.set3 (r := Rcd.zero) rfl)
   generalize we.setRow g3 (rcL Rcd.zero).toArray = wf at *
   refine tk 4 ?_
   simp only [pR]
   refine wpAnyH_done (by kernel_rfl) ?_ _
   go_wp2_with fail
   refine bodyPost_ret (res_rcG rfl _ _ w (.int .i64 160) rfl rfl rfl GS.out) rfl ?_
   exact ⟨by rw [HR.out], GS.out.bel⟩
  ·have HR : Hid (cmGet s = (y, Rcd.zero, 0)) := by
    (show _ = _)
    rw [HCG.out, hpx, HY.out, if_pos rfl]
    exact (pick_zero (HMY.out rfl)).2
   clear hpx HX HY HMX HMY HPY HCG
   go_upto_region 15 with (fail)
   obtain ⟨wd, hwd⟩ : ∃ x, w7.drew = x := ⟨_, rfl⟩
   have BS : Below w7.heap.size w7 wd := by rw [← hwd]; exact (Below.refl _ _).drew
   replace GS := qH (GS.out.to BS)
   replace GY := qH (GY.out.to BS)
   refine wp_region_held_drew (S := (fun w' => RB w' g12 y ∧ RB w' g5 Rcd.zero)) (by kernel_rfl) ((by rw [hwd]; exact ⟨GY.out, GS.out.t5⟩)) (fun hHeld => ?_)
   rw [hwd] at hHeld ⊢
   clear hwd BS
   refine tl 0 (.agg (rcL y).toArray) rfl (yieldsIf_load_row (by rfl) 34 _ rfl g12 rfl 34 (rcL y).toArray (0, 0) _ (fun w' h => RB.row h.1) Tryz.underlying34 rfl SY.out) ?_
   simp only [pR]
   refine tl 1 (.agg (rcL Rcd.zero).toArray) rfl (yieldsIf_load_row (by rfl) 34 _ rfl g5 rfl 34 (rcL Rcd.zero).toArray (0, 0) _ (fun w' h => RB.row h.2) Tryz.underlying34 rfl S0.out) ?_
   simp only [pR]
   clear hHeld
   refine rd1 2 (fun K hK => ?_)
   rw [if_pos (by rfl)]
   refine wp_store_row0 34 _ _ rfl rfl g2 (rcL y).toArray rfl rfl 34 _ GS.out.t2.row SY.out (GS.out.same IY.out.hash GS.out.t2.1) (rc_one _) ?_
   refine hK.out _ _ (⟨GY.out.setOther Ng12.out.1, (GS.out.set2 (r := y) IY.out.hash).t5⟩) (fun hHeld => ?_)
   clear hK K
   replace GS := qH (GS.out.set2 (r := y) IY.out.hash)
   replace GY := qH hHeld.1
   generalize wd.setRow g2 (rcL y).toArray = we at *
   clear hHeld
   refine rd1 3 (fun K hK => ?_)
   rw [if_pos (by rfl)]
   refine wp_store_row0 34 _ _ rfl rfl g3 (rcL Rcd.zero).toArray rfl rfl 34 _ GS.out.t3.row S0.out (GS.out.same rfl GS.out.t3.1) (rc_one _) ?_
   refine hK.out _ _ (⟨GY.out.setOther Ng12.out.2, (GS.out.set3 (r := Rcd.zero) rfl).t5⟩) (fun hHeld => ?_)
   clear hK K
   replace GS := qH (GS.out.set3 (r := Rcd.zero) rfl)
   generalize we.setRow g3 (rcL Rcd.zero).toArray = wf at *
   refine tk 4 ?_
   simp only [pR]
   refine wpAnyH_done (by kernel_rfl) ?_ _
   go_wp2_with fail
   refine bodyPost_ret (res_rcG rfl _ _ w (.int .i64 0) rfl rfl rfl GS.out) rfl ?_
   exact ⟨by rw [HR.out], GS.out.bel⟩
 ·have hpx : px = x := by rw [HX.out, if_pos rfl]
  have hmx := HMX.out rfl
  cases is
  ·have HR : Hid (cmGet s = (x, Rcd.zero, 0)) := by
    (show _ = _)
    rw [HCG.out, hpx, HY.out, if_neg (by decide)]
    exact (pick_zero hmx).1
   clear hpx hmx HX HY HMX HMY HPY HCG
   go_upto_region 13 with (fail)
   obtain ⟨wd, hwd⟩ : ∃ x, w7.drew = x := ⟨_, rfl⟩
   have BS : Below w7.heap.size w7 wd := by rw [← hwd]; exact (Below.refl _ _).drew
   replace GS := qH (GS.out.to BS)
   replace GX := qH (GX.out.to BS)
   refine wp_region_held_drew (S := (fun w' => RB w' g10 x ∧ RB w' g5 Rcd.zero)) (by kernel_rfl) ((by rw [hwd]; exact ⟨GX.out, GS.out.t5⟩)) (fun hHeld => ?_)
   rw [hwd] at hHeld ⊢
   clear hwd BS
   refine tl 0 (.agg (rcL x).toArray) rfl (yieldsIf_load_row (by rfl) 34 _ rfl g10 rfl 34 (rcL x).toArray (0, 0) _ (fun w' h => RB.row h.1) Tryz.underlying34 rfl SX.out) ?_
   simp only [pR]
   refine tl 1 (.agg (rcL Rcd.zero).toArray) rfl (yieldsIf_load_row (by rfl) 34 _ rfl g5 rfl 34 (rcL Rcd.zero).toArray (0, 0) _ (fun w' h => RB.row h.2) Tryz.underlying34 rfl S0.out) ?_
   simp only [pR]
   clear hHeld
   refine rd1 2 (fun K hK => ?_)
   rw [if_pos (by rfl)]
   refine wp_store_row0 34 _ _ rfl rfl g2 (rcL x).toArray rfl rfl 34 _ GS.out.t2.row SX.out (GS.out.same IX.out.hash GS.out.t2.1) (rc_one _) ?_
   refine hK.out _ _ (⟨GX.out.setOther Ng10.out.1, (GS.out.set2 (r := x) IX.out.hash).t5⟩) (fun hHeld => ?_)
   clear hK K
   replace GS := qH (GS.out.set2 (r := x) IX.out.hash)
   replace GX := qH hHeld.1
   generalize wd.setRow g2 (rcL x).toArray = we at *
   clear hHeld
   refine rd1 3 (fun K hK => ?_)
   rw [if_pos (by rfl)]
   refine wp_store_row0 34 _ _ rfl rfl g3 (rcL Rcd.zero).toArray rfl rfl 34 _ GS.out.t3.row S0.out (GS.out.same rfl GS.out.t3.1) (rc_one _) ?_
   refine hK.out _ _ (⟨GX.out.setOther Ng10.out.2, (GS.out.set3 (r := Rcd.zero) rfl).t5⟩) (fun hHeld => ?_)
   clear hK K
   replace GS := qH (GS.out.set3 (r := Rcd.zero) rfl)
   generalize we.setRow g3 (rcL Rcd.zero).toArray = wf at *
   refine tk 4 ?_
   simp only [pR]
   refine wpAnyH_done (by kernel_rfl) ?_ _
   go_wp2_with fail
   refine bodyPost_ret (res_rcG rfl _ _ w (.int .i64 0) rfl rfl rfl GS.out) rfl ?_
   exact ⟨by rw [HR.out], GS.out.bel⟩
  ·have hpy : py = y := by rw [HY.out, if_pos rfl]
   have hmy := HMY.out rfl
   have hx1 : 1 ≤ x.seq := (cmMay_iff.1 hmx).1
   have hy1 : 1 ≤ y.seq := (cmMay_iff.1 hmy).1
   have hup := add1C (x := x.seq) (y := y.seq) hx1 hy1 IY.out.seq.2
   have hdn := add1C (x := y.seq) (y := x.seq) hy1 hx1 IX.out.seq.2
   have hP := HCG.out
   rw [hpx, hpy] at hP
   obtain ⟨cx, -⟩ := GX.out.cells
   obtain ⟨cy, -⟩ := GY.out.cells
   have hwy := IntKind.wrap_i64 (y.seq + 1)
   have hwx := IntKind.wrap_i64 (x.seq + 1)
   clear hpx hpy HX HY HMX HMY HCG
   generalize hyw : IntKind.i64.wrap (y.seq + 1) = yw at *
   generalize hxw : IntKind.i64.wrap (x.seq + 1) = xw at *
   by_cases h1 : x.seq = yw
   ·have HR : Hid (cmGet s = (x, y, 0)) := by (show _ = _); rw [hP]; exact (pick_up hmx (hup.1 h1).1).1
    have h1b : (x.seq == yw) = true := beq_iff_eq.2 h1
    clear hP hup hdn hmx hmy hx1 hy1 HPY hwx hxw h1
    go_upto_region 17 with (fail)
    clear cx cy
    obtain ⟨wd, hwd⟩ : ∃ x, w7.drew = x := ⟨_, rfl⟩
    have BS : Below w7.heap.size w7 wd := by rw [← hwd]; exact (Below.refl _ _).drew
    replace GS := qH (GS.out.to BS)
    replace GX := qH (GX.out.to BS)
    replace GY := qH (GY.out.to BS)
    refine wp_region_held_drew (S := (fun w' => RB w' g10 x ∧ RB w' g12 y)) (by kernel_rfl) ((by rw [hwd]; exact ⟨GX.out, GY.out⟩)) (fun hHeld => ?_)
    rw [hwd] at hHeld ⊢
    clear hwd BS
    refine tl 0 (.agg (rcL x).toArray) rfl (yieldsIf_load_row (by rfl) 34 _ rfl g10 rfl 34 (rcL x).toArray (0, 0) _ (fun w' h => RB.row h.1) Tryz.underlying34 rfl SX.out) ?_
    simp only [pR]
    refine tl 1 (.agg (rcL y).toArray) rfl (yieldsIf_load_row (by rfl) 34 _ rfl g12 rfl 34 (rcL y).toArray (0, 0) _ (fun w' h => RB.row h.2) Tryz.underlying34 rfl SY.out) ?_
    simp only [pR]
    clear hHeld
    refine rd1 2 (fun K hK => ?_)
    rw [if_pos (by rfl)]
    refine wp_store_row0 34 _ _ rfl rfl g2 (rcL x).toArray rfl rfl 34 _ GS.out.t2.row SX.out (GS.out.same IX.out.hash GS.out.t2.1) (rc_one _) ?_
    refine hK.out _ _ (⟨GX.out.setOther Ng10.out.1, GY.out.setOther Ng12.out.1⟩) (fun hHeld => ?_)
    clear hK K
    replace GS := qH (GS.out.set2 (r := x) IX.out.hash)
    replace GX := qH hHeld.1
    replace GY := qH hHeld.2
    generalize wd.setRow g2 (rcL x).toArray = we at *
    clear hHeld
    refine rd1 3 (fun K hK => ?_)
    rw [if_pos (by rfl)]
    refine wp_store_row0 34 _ _ rfl rfl g3 (rcL y).toArray rfl rfl 34 _ GS.out.t3.row SY.out (GS.out.same IY.out.hash GS.out.t3.1) (rc_one _) ?_
    refine hK.out _ _ (⟨GX.out.setOther Ng10.out.2, GY.out.setOther Ng12.out.2⟩) (fun hHeld => ?_)
    clear hK K
    replace GS := qH (GS.out.set3 (r := y) IY.out.hash)
    generalize we.setRow g3 (rcL y).toArray = wf at *
    refine tk 4 ?_
    simp only [pR]
    refine wpAnyH_done (by kernel_rfl) ?_ _
    go_wp2_with fail
    refine bodyPost_ret (res_rcG rfl _ _ w (.int .i64 0) rfl rfl rfl GS.out) rfl ?_
    exact ⟨by rw [HR.out], GS.out.bel⟩
   have h1b : (x.seq == yw) = false := beq_eq_false_iff_ne.2 h1
   by_cases h2 : y.seq = xw
   ·have HR : Hid (cmGet s = (y, x, 0)) := by (show _ = _); rw [hP]; exact (pick_up hmy (hdn.1 h2).1).2
    have h2b : (y.seq == xw) = true := beq_iff_eq.2 h2
    clear hP hup hdn hmx hmy hx1 hy1 HPY h1 h2
    go_upto_region 19 with (fail)
    clear cx cy
    obtain ⟨wd, hwd⟩ : ∃ x, w7.drew = x := ⟨_, rfl⟩
    have BS : Below w7.heap.size w7 wd := by rw [← hwd]; exact (Below.refl _ _).drew
    replace GS := qH (GS.out.to BS)
    replace GY := qH (GY.out.to BS)
    replace GX := qH (GX.out.to BS)
    refine wp_region_held_drew (S := (fun w' => RB w' g12 y ∧ RB w' g10 x)) (by kernel_rfl) ((by rw [hwd]; exact ⟨GY.out, GX.out⟩)) (fun hHeld => ?_)
    rw [hwd] at hHeld ⊢
    clear hwd BS
    refine tl 0 (.agg (rcL y).toArray) rfl (yieldsIf_load_row (by rfl) 34 _ rfl g12 rfl 34 (rcL y).toArray (0, 0) _ (fun w' h => RB.row h.1) Tryz.underlying34 rfl SY.out) ?_
    simp only [pR]
    refine tl 1 (.agg (rcL x).toArray) rfl (yieldsIf_load_row (by rfl) 34 _ rfl g10 rfl 34 (rcL x).toArray (0, 0) _ (fun w' h => RB.row h.2) Tryz.underlying34 rfl SX.out) ?_
    simp only [pR]
    clear hHeld
    refine rd1 2 (fun K hK => ?_)
    rw [if_pos (by rfl)]
    refine wp_store_row0 34 _ _ rfl rfl g2 (rcL y).toArray rfl rfl 34 _ GS.out.t2.row SY.out (GS.out.same IY.out.hash GS.out.t2.1) (rc_one _) ?_
    refine hK.out _ _ (⟨GY.out.setOther Ng12.out.1, GX.out.setOther Ng10.out.1⟩) (fun hHeld => ?_)
    clear hK K
    replace GS := qH (GS.out.set2 (r := y) IY.out.hash)
    replace GY := qH hHeld.1
    replace GX := qH hHeld.2
    generalize wd.setRow g2 (rcL y).toArray = we at *
    clear hHeld
    refine rd1 3 (fun K hK => ?_)
    rw [if_pos (by rfl)]
    refine wp_store_row0 34 _ _ rfl rfl g3 (rcL x).toArray rfl rfl 34 _ GS.out.t3.row SX.out (GS.out.same IX.out.hash GS.out.t3.1) (rc_one _) ?_
    refine hK.out _ _ (⟨GY.out.setOther Ng12.out.2, GX.out.setOther Ng10.out.2⟩) (fun hHeld => ?_)
    clear hK K
    replace GS := qH (GS.out.set3 (r := x) IX.out.hash)
    generalize we.setRow g3 (rcL x).toArray = wf at *
    refine tk 4 ?_
    simp only [pR]
    refine wpAnyH_done (by kernel_rfl) ?_ _
    go_wp2_with fail
    refine bodyPost_ret (res_rcG rfl _ _ w (.int .i64 0) rfl rfl rfl GS.out) rfl ?_
    exact ⟨by rw [HR.out], GS.out.bel⟩
   have h2b : (y.seq == xw) = false := beq_eq_false_iff_ne.2 h2
   by_cases h3 : x.seq > y.seq
   ·have hn : ¬ x.seq = y.seq + 1 := fun e => h1 (hup.2 ⟨e, by have := IX.out.seq.2; omega⟩)
    have HR : Hid (cmGet s = (x, Rcd.zero, 0)) := by (show _ = _); rw [hP]; exact (pick_far hmx h3 hn).1
    clear hP hup hdn hmx hmy hx1 hy1 HPY h1 h2 hn
    go_upto_region 21 with (fail)
    clear cx cy
    obtain ⟨wd, hwd⟩ : ∃ x, w7.drew = x := ⟨_, rfl⟩
    have BS : Below w7.heap.size w7 wd := by rw [← hwd]; exact (Below.refl _ _).drew
    replace GS := qH (GS.out.to BS)
    replace GX := qH (GX.out.to BS)
    refine wp_region_held_drew (S := (fun w' => RB w' g10 x ∧ RB w' g5 Rcd.zero)) (by kernel_rfl) ((by rw [hwd]; exact ⟨GX.out, GS.out.t5⟩)) (fun hHeld => ?_)
    rw [hwd] at hHeld ⊢
    clear hwd BS
    refine tl 0 (.agg (rcL x).toArray) rfl (yieldsIf_load_row (by rfl) 34 _ rfl g10 rfl 34 (rcL x).toArray (0, 0) _ (fun w' h => RB.row h.1) Tryz.underlying34 rfl SX.out) ?_
    simp only [pR]
    refine tl 1 (.agg (rcL Rcd.zero).toArray) rfl (yieldsIf_load_row (by rfl) 34 _ rfl g5 rfl 34 (rcL Rcd.zero).toArray (0, 0) _ (fun w' h => RB.row h.2) Tryz.underlying34 rfl S0.out) ?_
    simp only [pR]
    clear hHeld
    refine rd1 2 (fun K hK => ?_)
    rw [if_pos (by rfl)]
    refine wp_store_row0 34 _ _ rfl rfl g2 (rcL x).toArray rfl rfl 34 _ GS.out.t2.row SX.out (GS.out.same IX.out.hash GS.out.t2.1) (rc_one _) ?_
    refine hK.out _ _ (⟨GX.out.setOther Ng10.out.1, (GS.out.set2 (r := x) IX.out.hash).t5⟩) (fun hHeld => ?_)
    clear hK K
    replace GS := qH (GS.out.set2 (r := x) IX.out.hash)
    replace GX := qH hHeld.1
    generalize wd.setRow g2 (rcL x).toArray = we at *
    clear hHeld
    refine rd1 3 (fun K hK => ?_)
    rw [if_pos (by rfl)]
    refine wp_store_row0 34 _ _ rfl rfl g3 (rcL Rcd.zero).toArray rfl rfl 34 _ GS.out.t3.row S0.out (GS.out.same rfl GS.out.t3.1) (rc_one _) ?_
    refine hK.out _ _ (⟨GX.out.setOther Ng10.out.2, (GS.out.set3 (r := Rcd.zero) rfl).t5⟩) (fun hHeld => ?_)
    clear hK K
    replace GS := qH (GS.out.set3 (r := Rcd.zero) rfl)
    generalize we.setRow g3 (rcL Rcd.zero).toArray = wf at *
    refine tk 4 ?_
    simp only [pR]
    refine wpAnyH_done (by kernel_rfl) ?_ _
    go_wp2_with fail
    refine bodyPost_ret (res_rcG rfl _ _ w (.int .i64 0) rfl rfl rfl GS.out) rfl ?_
    exact ⟨by rw [HR.out], GS.out.bel⟩
   ·have h0 := HPX.out rfl
    have hp1 := HPY.out rfl
    have hn : ¬ y.seq = x.seq + 1 := fun e => h2 (hdn.2 ⟨e, by have := IY.out.seq.2; omega⟩)
    have HR : Hid (cmGet s = (y, Rcd.zero, 0)) := by (show _ = _); rw [hP]; exact (pick_far hmy (by omega) hn).2
    clear hP hup hdn hmx hmy hx1 hy1 HPY h1 h2 hn h0 hp1
    go_upto_region 22 with (fail)
    clear cx cy
    obtain ⟨wd, hwd⟩ : ∃ x, w7.drew = x := ⟨_, rfl⟩
    have BS : Below w7.heap.size w7 wd := by rw [← hwd]; exact (Below.refl _ _).drew
    replace GS := qH (GS.out.to BS)
    replace GY := qH (GY.out.to BS)
    refine wp_region_held_drew (S := (fun w' => RB w' g12 y ∧ RB w' g5 Rcd.zero)) (by kernel_rfl) ((by rw [hwd]; exact ⟨GY.out, GS.out.t5⟩)) (fun hHeld => ?_)
    rw [hwd] at hHeld ⊢
    clear hwd BS
    refine tl 0 (.agg (rcL y).toArray) rfl (yieldsIf_load_row (by rfl) 34 _ rfl g12 rfl 34 (rcL y).toArray (0, 0) _ (fun w' h => RB.row h.1) Tryz.underlying34 rfl SY.out) ?_
    simp only [pR]
    refine tl 1 (.agg (rcL Rcd.zero).toArray) rfl (yieldsIf_load_row (by rfl) 34 _ rfl g5 rfl 34 (rcL Rcd.zero).toArray (0, 0) _ (fun w' h => RB.row h.2) Tryz.underlying34 rfl S0.out) ?_
    simp only [pR]
    clear hHeld
    refine rd1 2 (fun K hK => ?_)
    rw [if_pos (by rfl)]
    refine wp_store_row0 34 _ _ rfl rfl g2 (rcL y).toArray rfl rfl 34 _ GS.out.t2.row SY.out (GS.out.same IY.out.hash GS.out.t2.1) (rc_one _) ?_
    refine hK.out _ _ (⟨GY.out.setOther Ng12.out.1, (GS.out.set2 (r := y) IY.out.hash).t5⟩) (fun hHeld => ?_)
    clear hK K
    replace GS := qH (GS.out.set2 (r := y) IY.out.hash)
    replace GY := qH hHeld.1
    generalize wd.setRow g2 (rcL y).toArray = we at *
    clear hHeld
    refine rd1 3 (fun K hK => ?_)
    rw [if_pos (by rfl)]
    refine wp_store_row0 34 _ _ rfl rfl g3 (rcL Rcd.zero).toArray rfl rfl 34 _ GS.out.t3.row S0.out (GS.out.same rfl GS.out.t3.1) (rc_one _) ?_
    refine hK.out _ _ (⟨GY.out.setOther Ng12.out.2, (GS.out.set3 (r := Rcd.zero) rfl).t5⟩) (fun hHeld => ?_)
    clear hK K
    replace GS := qH (GS.out.set3 (r := Rcd.zero) rfl)
    generalize we.setRow g3 (rcL Rcd.zero).toArray = wf at *
    refine tk 4 ?_
    simp only [pR]
    refine wpAnyH_done (by kernel_rfl) ?_ _
    go_wp2_with fail
    refine bodyPost_ret (res_rcG rfl _ _ w (.int .i64 0) rfl rfl rfl GS.out) rfl ?_
    exact ⟨by rw [HR.out], GS.out.bel⟩
end Go.Proofs.YtffdjnhhmfpkgaaGreat