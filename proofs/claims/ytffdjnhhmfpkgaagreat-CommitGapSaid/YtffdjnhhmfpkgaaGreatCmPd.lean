/- The program's commit: Get, Put (made by gen_cmpd.py). -/
import Derived.Test.YtffdjnhhmfpkgaaGreatTz
import Derived.Test.YtffdjnhhmfpkgaaGreatCmPc
import Derived.Test.YtffdjnhhmfpkgaaGreatR7
namespace Go.Proofs.YtffdjnhhmfpkgaaGreat
set_option maxRecDepth 1000000
set_option maxHeartbeats 8000000
open Go.RowKit
set_option linter.unusedVariables false
set_option linter.unusedSimpArgs false
theorem cmTwo_in (s : DS) : (cmTwo s).1.In ∧ (cmTwo s).2.1.In ∧ ((cmTwo s).1 = Rcd.zero ∨ cmMay (cmTwo s).1 = true) ∧ ((cmTwo s).2.1 = Rcd.zero ∨ cmMay (cmTwo s).2.1 = true) := by
 have hc : ∀ i b, cmAt i b = Rcd.zero ∨ cmMay (cmAt i b) = true := fun i b => (cmAt_cases i b).imp id (fun h => h.1)
 unfold cmTwo
 split
 ·exact ⟨Rcd.In.zero, Rcd.In.zero, .inl rfl, .inl rfl⟩
 ·split
  ·exact ⟨cmAt_in _ _, Rcd.In.zero, hc _ _, .inl rfl⟩
  ·exact ⟨cmAt_in _ _, cmAt_in _ _, hc _ _, hc _ _⟩
theorem sub1 {x : Int} (h1 : 0 ≤ x) (h2 : x ≤ 9223372036854775807) : IntKind.i64.wrap (x - 1) = x - 1 := by rw [IntKind.wrap_i64]; omega
theorem cGetOf (q : Option Addr) (t pr : Rcd × Rcd × Int) (w : World) (hp : pr = if t.2.2 ≠ 0 then (Rcd.zero, Rcd.zero, t.2.2) else cmPick t.1 t.2.1) (hin : t.1.In ∧ t.2.1.In ∧ (t.1 = Rcd.zero ∨ cmMay t.1 = true) ∧ (t.2.1 = Rcd.zero ∨ cmMay t.2.1 = true))
  (hc : ∀ w1, Below w.heap.size w w1 → Calls Tryz.prog 38 #[.pointer q] w1 fun e w' => e = .returned (.tuple #[.agg (rcL t.1 ++ rcL t.2.1).toArray, .int .i64 t.2.2]) ∧ Below w1.heap.size w1 w') :
  Calls Tryz.prog 16 #[.pointer q] w (RetG w pr) := by
 have hz := rc_zero
 have hz2 := rc2_zero
 have S0 := qH (rc_size (r := Rcd.zero) rfl)
 have GS := qH (getW_is w)
 have HCG := qH hp
 have HIN := qH hin
 have H0 := qH (hc (getW w) GS.out.bel)
 clear hp hin hc
 go_enter Tryz.func16, Tryz.ntmps16
 go_upto_region 2 with (fail)
 have hw2 : ((w.alloc (.cells (rcL Rcd.zero).toArray 34)).alloc (.cells (rcL Rcd.zero).toArray 34)).alloc (.cells (rcL Rcd.zero).toArray 34) = getW w := rfl
 rw [hw2]
 clear hw2
 generalize getW w = w1 at *
 generalize w.heap.size + 1 + 1 = g5 at *
 generalize w.heap.size + 1 = g3 at *
 obtain ⟨g2, hg2⟩ : ∃ x, w.heap.size = x := ⟨_, rfl⟩
 rw [hg2] at GS ⊢
 go_wp2_with fail
 refine H0.out.mono ?_
 rintro e w2 ⟨rfl, hb⟩
 replace GS := qH (GS.out.to hb)
 clear hb H0
 obtain ⟨x, y, ev⟩ := t
 dsimp only at *
 have SXY := qH (rc2_size HIN.out.1.hash HIN.out.2.1.hash)
 have SZ2 : Hid ((rcL Rcd.zero ++ rcL Rcd.zero).toArray.size = (rcL x ++ rcL y).toArray.size) := by (show _ = _); rw [List.size_toArray, List.size_toArray, rc2_len rfl rfl, rc2_len HIN.out.1.hash HIN.out.2.1.hash]
 go_upto_region 3 with (refine wpList_store_row rfl 80 _ _ rfl w2.heap.size (rcL x ++ rcL y).toArray rfl rfl 80 (rcL Rcd.zero ++ rcL Rcd.zero).toArray (heap_alloc_last w2 _) SXY.out SZ2.out (rc2_one _ _) ?_; rw [World.setRow_alloc_new])
 have hal : Below w2.heap.size w2 (w2.alloc (.cells (rcL x ++ rcL y).toArray 80)) := (Below.refl _ _).alloc (Nat.le_refl _) _
 have A6 := qH (HB.new w2 HIN.out.1.hash HIN.out.2.1.hash)
 have N6 : Hid (g2 ≠ w2.heap.size ∧ g3 ≠ w2.heap.size) := ⟨Nat.ne_of_lt GS.out.t2.lt, Nat.ne_of_lt GS.out.t3.lt⟩
 replace GS := qH (GS.out.to hal)
 clear hal SXY SZ2
 generalize w2.alloc (.cells (rcL x ++ rcL y).toArray 80) = w3 at *
 generalize w2.heap.size = g6 at *
 clear w2
 by_cases hev : ev = 0
 rotate_left 1
 ·have HR : Hid (pr = (Rcd.zero, Rcd.zero, ev)) := by (show _ = _); rw [HCG.out, if_pos hev]
  have hne : (ev != 0) = true := bne_iff_ne.2 hev
  clear hev HCG
  go_upto_region 4 with (fail)
  obtain ⟨wd, hwd⟩ : ∃ x, w3.drew = x := ⟨_, rfl⟩
  have BS : Below w3.heap.size w3 wd := by rw [← hwd]; exact (Below.refl _ _).drew
  replace GS := qH (GS.out.to BS)
  refine wp_region_held_drew (S := (fun w' => RB w' g5 Rcd.zero)) (by kernel_rfl) ((by rw [hwd]; exact GS.out.t5)) (fun hHeld => ?_)
  rw [hwd] at hHeld ⊢
  clear hwd
  refine tl 0 (.agg (rcL Rcd.zero).toArray) rfl (yieldsIf_load_row (by rfl) 34 _ rfl g5 rfl 34 (rcL Rcd.zero).toArray (0, 0) _ (fun w' h => RB.row h) Tryz.underlying34 rfl S0.out) ?_
  simp only [pR]
  refine tl 1 (.agg (rcL Rcd.zero).toArray) rfl (yieldsIf_load_row (by rfl) 34 _ rfl g5 rfl 34 (rcL Rcd.zero).toArray (0, 0) _ (fun w' h => RB.row h) Tryz.underlying34 rfl S0.out) ?_
  simp only [pR]
  refine tk 2 ?_
  simp only [pR]
  clear hHeld
  refine rd1 3 (fun K hK => ?_)
  rw [if_pos (by rfl)]
  refine wp_store_row0 34 _ _ rfl rfl g2 (rcL Rcd.zero).toArray rfl rfl 34 _ GS.out.t2.row S0.out (GS.out.same rfl GS.out.t2.1) (rc_one _) ?_
  refine hK.out _ _ ((GS.out.set2 (r := Rcd.zero) rfl).t5) (fun hHeld => ?_)
  clear hK K
  replace GS := qH (GS.out.set2 (r := Rcd.zero) rfl)
  generalize wd.setRow g2 (rcL Rcd.zero).toArray = we at *
  clear hHeld
  refine rd1 4 (fun K hK => ?_)
  rw [if_pos (by rfl)]
  refine wp_store_row0 34 _ _ rfl rfl g3 (rcL Rcd.zero).toArray rfl rfl 34 _ GS.out.t3.row S0.out (GS.out.same rfl GS.out.t3.1) (rc_one _) ?_
  refine hK.out _ _ ((GS.out.set3 (r := Rcd.zero) rfl).t5) (fun hHeld => ?_)
  clear hK K
  replace GS := qH (GS.out.set3 (r := Rcd.zero) rfl)
  generalize we.setRow g3 (rcL Rcd.zero).toArray = wf at *
  refine tk 5 ?_
  simp only [pR]
  refine wpAnyH_done (by kernel_rfl) ?_ _
  go_wp2_with fail
  refine bodyPost_ret (res_rcG rfl _ _ w (.int .i64 ev) rfl rfl rfl GS.out) rfl ?_
  exact ⟨by rw [HR.out], GS.out.bel⟩
 subst hev
 rw [if_neg (fun h => h rfl)] at HCG
 go_upto_region 5 with (fail)
 obtain ⟨wd, hwd⟩ : ∃ x, w3.drew = x := ⟨_, rfl⟩
 have BS : Below w3.heap.size w3 wd := by rw [← hwd]; exact (Below.refl _ _).drew
 replace GS := qH (GS.out.to BS)
 have hu := Tryz.underlying34
 have SX : Hid ((Tryz.prog.info? 34).map (·.size) = some (rcL x).length) := by (show _ = _); rw [rc_size HIN.out.1.hash, List.size_toArray]
 have SY : Hid ((Tryz.prog.info? 34).map (·.size) = some (rcL y).length) := by (show _ = _); rw [rc_size HIN.out.2.1.hash, List.size_toArray]
 have SXA := qH (rc_size HIN.out.1.hash)
 have SYA := qH (rc_size HIN.out.2.1.hash)
 have A7 := qH (A6.out.to BS)
 clear BS
 refine wp_region_held_drew (S := (fun w' => HB w' g6 x y)) (by kernel_rfl) ((by rw [hwd]; exact A7.out)) (fun hHeld => ?_)
 rw [hwd] at hHeld ⊢
 clear hwd
 refine tk 0 ?_
 simp only [pR]
 refine tk 2 ?_
 simp only [pR]
 refine tl 1 (.agg (List.toArray (rcL x))) rfl (yieldsIf_load_mid (by rfl) 34 _ rfl g6 0 rfl (rcL x) _ ((fun w' h => HB.one h)) hu rfl SX.out) ?_
 simp only [pR]
 refine tl 3 (.agg (List.toArray (rcL y))) rfl (yieldsIf_load_mid (by rfl) 34 _ rfl g6 36 rfl (rcL y) _ ((fun w' h => HB.two h)) hu rfl SY.out) ?_
 simp only [pR]
 clear hHeld
 refine rd1 4 (fun K hK => ?_)
 rw [if_pos (by rfl)]
 refine wp_store_row0 34 _ _ rfl rfl g2 (rcL x).toArray rfl rfl 34 _ GS.out.t2.row SXA.out (GS.out.same HIN.out.1.hash GS.out.t2.1) (rc_one _) ?_
 refine hK.out _ _ ((A7.out.other N6.out.1.symm)) (fun hHeld => ?_)
 clear hK K
 replace GS := qH (GS.out.set2 HIN.out.1.hash)
 have A8 := qH hHeld
 generalize wd.setRow g2 (rcL x).toArray = we at *
 clear hHeld
 refine rd1 5 (fun K hK => ?_)
 rw [if_pos (by rfl)]
 refine wp_store_row0 34 _ _ rfl rfl g3 (rcL y).toArray rfl rfl 34 _ GS.out.t3.row SYA.out (GS.out.same HIN.out.2.1.hash GS.out.t3.1) (rc_one _) ?_
 refine hK.out _ _ ((A8.out.other N6.out.2.symm)) (fun hHeld => ?_)
 clear hK K
 replace GS := qH (GS.out.set3 HIN.out.2.1.hash)
 generalize we.setRow g3 (rcL y).toArray = w4 at *
 refine wpAnyH_done (by kernel_rfl) ?_ _
 clear hHeld A6 A7 A8 N6 SX SY hu wd we
 obtain ⟨c2, -⟩ := GS.out.t2.cells
 obtain ⟨c3, -⟩ := GS.out.t3.cells
 by_cases hsw : y.seq > x.seq
 ·have HP : Hid (pr = cmPair y x) := by (show _ = _); rw [HCG.out]; unfold cmPick; rw [if_pos hsw]
  go_upto_region 8 with (first | (refine wpList_load_row rfl 34 _ rfl g3 rfl 34 (rcL y).toArray (0, 0) _ GS.out.t3.row Tryz.underlying34 rfl SYA.out ?_) | (refine wpList_load_row rfl 34 _ rfl g2 rfl 34 (rcL x).toArray (0, 0) _ GS.out.t2.row Tryz.underlying34 rfl SXA.out ?_) | (refine wpList_store_row rfl 34 _ _ rfl g2 (rcL y).toArray rfl rfl 34 (rcL x).toArray GS.out.t2.row SYA.out (GS.out.same HIN.out.2.1.hash GS.out.t2.1) (rc_one _) ?_; replace GS := qH (GS.out.set2 (r := y) HIN.out.2.1.hash); generalize w4.setRow g2 (rcL y).toArray = w5 at *) | (refine wpList_store_row rfl 34 _ _ rfl g3 (rcL x).toArray rfl rfl 34 (rcL y).toArray GS.out.t3.row SXA.out (GS.out.same HIN.out.1.hash GS.out.t3.1) (rc_one _) ?_; replace GS := qH (GS.out.set3 (r := x) HIN.out.1.hash); generalize w5.setRow g3 (rcL x).toArray = w6 at *))
  clear c2 c3
  obtain ⟨IX, IY, JX, JY⟩ := HIN.out
  have HLA := qH (show y.In ∧ x.In ∧ (y = Rcd.zero ∨ cmMay y = true) from ⟨IY, IX, JY⟩)
  clear HCG HIN SXA SYA hsw IX IY JX JY
  generalize hla : y = l at *
  generalize haa : x = a at *
  clear hla haa
  have SL := qH (rc_size HLA.out.1.hash)
  have SA := qH (rc_size HLA.out.2.1.hash)
  by_cases hl : l = Rcd.zero
  ·have HR : Hid (pr = (Rcd.zero, Rcd.zero, 160)) := by (show _ = _); rw [HP.out]; unfold cmPair; rw [if_pos hl]
   have HDE := qH (decide_eq_true hl)
   clear hl HP
   go_upto_region 9 with (first | (refine wpList_load_row rfl 34 _ rfl g2 rfl 34 (rcL l).toArray (0, 0) _ GS.out.t2.row Tryz.underlying34 rfl SL.out ?_) | (refine wpList_load_row rfl 34 _ rfl g5 rfl 34 (rcL Rcd.zero).toArray (0, 0) _ GS.out.t5.row Tryz.underlying34 rfl S0.out ?_; refine wpList_eqRc (by rfl) _ _ rfl l Rcd.zero rfl rfl HLA.out.1.hash rfl ?_; rw [HDE.out]))
   obtain ⟨wd, hwd⟩ : ∃ x, w6.drew = x := ⟨_, rfl⟩
   have BS : Below w6.heap.size w6 wd := by rw [← hwd]; exact (Below.refl _ _).drew
   replace GS := qH (GS.out.to BS)
   refine wp_region_held_drew (S := (fun w' => RB w' g5 Rcd.zero)) (by kernel_rfl) ((by rw [hwd]; exact GS.out.t5)) (fun hHeld => ?_)
   rw [hwd] at hHeld ⊢
   clear hwd BS
   refine tl 0 (.agg (rcL Rcd.zero).toArray) rfl (yieldsIf_load_row (by rfl) 34 _ rfl g5 rfl 34 (rcL Rcd.zero).toArray (0, 0) _ (fun w' h => RB.row h) Tryz.underlying34 rfl S0.out) ?_
   simp only [pR]
   refine tl 1 (.agg (rcL Rcd.zero).toArray) rfl (yieldsIf_load_row (by rfl) 34 _ rfl g5 rfl 34 (rcL Rcd.zero).toArray (0, 0) _ (fun w' h => RB.row h) Tryz.underlying34 rfl S0.out) ?_
   simp only [pR]
   clear hHeld
   refine rd1 2 (fun K hK => ?_)
   rw [if_pos (by rfl)]
   refine wp_store_row0 34 _ _ rfl rfl g2 (rcL Rcd.zero).toArray rfl rfl 34 _ GS.out.t2.row S0.out (GS.out.same rfl GS.out.t2.1) (rc_one _) ?_
   refine hK.out _ _ ((GS.out.set2 (r := Rcd.zero) rfl).t5) (fun hHeld => ?_)
   clear hK K
   replace GS := qH (GS.out.set2 (r := Rcd.zero) rfl)
   generalize wd.setRow g2 (rcL Rcd.zero).toArray = we at *
   clear hHeld
   refine rd1 3 (fun K hK => ?_)
   rw [if_pos (by rfl)]
   refine wp_store_row0 34 _ _ rfl rfl g3 (rcL Rcd.zero).toArray rfl rfl 34 _ GS.out.t3.row S0.out (GS.out.same rfl GS.out.t3.1) (rc_one _) ?_
   refine hK.out _ _ ((GS.out.set3 (r := Rcd.zero) rfl).t5) (fun hHeld => ?_)
   clear hK K
   replace GS := qH (GS.out.set3 (r := Rcd.zero) rfl)
   generalize we.setRow g3 (rcL Rcd.zero).toArray = wf at *
   refine tk 4 ?_
   simp only [pR]
   refine wpAnyH_done (by kernel_rfl) ?_ _
   go_wp2_with fail
   refine bodyPost_ret (res_rcG rfl _ _ w (.int .i64 160) rfl rfl rfl GS.out) rfl ?_
   exact ⟨by rw [HR.out], GS.out.bel⟩
  have HDE := qH (decide_eq_false hl)
  have hm := HLA.out.2.2.resolve_left hl
  have hsub := sub1 (x := l.seq) (by have := (cmMay_iff.1 hm).1; omega) HLA.out.1.seq.2
  clear hm
  go_upto_region 10 with (first | (refine wpList_load_row rfl 34 _ rfl g2 rfl 34 (rcL l).toArray (0, 0) _ GS.out.t2.row Tryz.underlying34 rfl SL.out ?_) | (refine wpList_load_row rfl 34 _ rfl g5 rfl 34 (rcL Rcd.zero).toArray (0, 0) _ GS.out.t5.row Tryz.underlying34 rfl S0.out ?_; refine wpList_eqRc (by rfl) _ _ rfl l Rcd.zero rfl rfl HLA.out.1.hash rfl ?_; rw [HDE.out]))
  obtain ⟨c2, -⟩ := GS.out.t2.cells
  obtain ⟨c3, -⟩ := GS.out.t3.cells
  by_cases hn : a.seq = l.seq - 1
  ·have HR : Hid (pr = (l, a, 0)) := by (show _ = _); rw [HP.out]; unfold cmPair; rw [if_neg hl, if_neg (fun h => h hn)]
   clear hl HP
   have hneq : (a.seq != l.seq - 1) = false := by rw [hn]; exact bne_self_eq_false _
   go_upto_region 12 with (fail)
   clear c2 c3 hneq hn hsub
   obtain ⟨w7, hw7⟩ : ∃ x, x = w6 := ⟨_, rfl⟩
   subst hw7
   have HAX := qH HLA.out.2.1
   obtain ⟨ax, hax⟩ : ∃ x, a = x := ⟨_, rfl⟩
   rw [hax] at GS HAX SA HR
   obtain ⟨wd, hwd⟩ : ∃ x, w7.drew = x := ⟨_, rfl⟩
   have BS : Below w7.heap.size w7 wd := by rw [← hwd]; exact (Below.refl _ _).drew
   replace GS := qH (GS.out.to BS)
   refine wp_region_held_drew (S := (fun w' => RB w' g2 l ∧ RB w' g3 ax)) (by kernel_rfl) ((by rw [hwd]; exact ⟨GS.out.t2, GS.out.t3⟩)) (fun hHeld => ?_)
   rw [hwd] at hHeld ⊢
   clear hwd BS
   refine tl 0 (.agg (rcL l).toArray) rfl (yieldsIf_load_row (by rfl) 34 _ rfl g2 rfl 34 (rcL l).toArray (0, 0) _ (fun w' h => RB.row h.1) Tryz.underlying34 rfl SL.out) ?_
   simp only [pR]
   refine tl 1 (.agg (rcL ax).toArray) rfl (yieldsIf_load_row (by rfl) 34 _ rfl g3 rfl 34 (rcL ax).toArray (0, 0) _ (fun w' h => RB.row h.2) Tryz.underlying34 rfl SA.out) ?_
   simp only [pR]
   clear hHeld
   refine rd1 2 (fun K hK => ?_)
   rw [if_pos (by rfl)]
   refine wp_store_row0 34 _ _ rfl rfl g2 (rcL l).toArray rfl rfl 34 _ GS.out.t2.row SL.out (GS.out.same HLA.out.1.hash GS.out.t2.1) (rc_one _) ?_
   refine hK.out _ _ (⟨(GS.out.set2 HLA.out.1.hash).t2, (GS.out.set2 HLA.out.1.hash).t3⟩) (fun hHeld => ?_)
   clear hK K
   replace GS := qH (GS.out.set2 (r := l) HLA.out.1.hash)
   generalize wd.setRow g2 (rcL l).toArray = we at *
   clear hHeld
   refine rd1 3 (fun K hK => ?_)
   rw [if_pos (by rfl)]
   refine wp_store_row0 34 _ _ rfl rfl g3 (rcL ax).toArray rfl rfl 34 _ GS.out.t3.row SA.out (GS.out.same HAX.out.hash GS.out.t3.1) (rc_one _) ?_
   refine hK.out _ _ (⟨(GS.out.set3 HAX.out.hash).t2, (GS.out.set3 HAX.out.hash).t3⟩) (fun hHeld => ?_)
   clear hK K
   replace GS := qH (GS.out.set3 (r := ax) HAX.out.hash)
   generalize we.setRow g3 (rcL ax).toArray = wf at *
   refine tk 4 ?_
   simp only [pR]
   refine wpAnyH_done (by kernel_rfl) ?_ _
   go_wp2_with fail
   refine bodyPost_ret (res_rcG rfl _ _ w (.int .i64 0) rfl rfl rfl GS.out) rfl ?_
   exact ⟨by rw [HR.out], GS.out.bel⟩
  ·have HR : Hid (pr = (l, Rcd.zero, 0)) := by (show _ = _); rw [HP.out]; unfold cmPair; rw [if_neg hl, if_pos hn]
   clear hl HP
   have hneq : (a.seq != l.seq - 1) = true := bne_iff_ne.2 hn
   go_upto_region 11 with (fail)
   clear c2 c3 hneq hsub
   go_upto_region 12 with (refine wpList_load_row rfl 34 _ rfl g5 rfl 34 (rcL Rcd.zero).toArray (0, 0) _ GS.out.t5.row Tryz.underlying34 rfl S0.out ?_; refine wpList_store_row rfl 34 _ _ rfl g3 (rcL Rcd.zero).toArray rfl rfl 34 (rcL a).toArray GS.out.t3.row S0.out (GS.out.same rfl GS.out.t3.1) (rc_one _) ?_; replace GS := qH (GS.out.set3 (r := Rcd.zero) rfl); generalize w6.setRow g3 (rcL Rcd.zero).toArray = w7 at *)
   clear hn
   obtain ⟨ax, hax⟩ : ∃ x, Rcd.zero = x := ⟨_, rfl⟩
   have HAX := qH Rcd.In.zero
   replace SA := S0
   rw [hax] at GS HAX SA HR
   obtain ⟨wd, hwd⟩ : ∃ x, w7.drew = x := ⟨_, rfl⟩
   have BS : Below w7.heap.size w7 wd := by rw [← hwd]; exact (Below.refl _ _).drew
   replace GS := qH (GS.out.to BS)
   refine wp_region_held_drew (S := (fun w' => RB w' g2 l ∧ RB w' g3 ax)) (by kernel_rfl) ((by rw [hwd]; exact ⟨GS.out.t2, GS.out.t3⟩)) (fun hHeld => ?_)
   rw [hwd] at hHeld ⊢
   clear hwd BS
   refine tl 0 (.agg (rcL l).toArray) rfl (yieldsIf_load_row (by rfl) 34 _ rfl g2 rfl 34 (rcL l).toArray (0, 0) _ (fun w' h => RB.row h.1) Tryz.underlying34 rfl SL.out) ?_
   simp only [pR]
   refine tl 1 (.agg (rcL ax).toArray) rfl (yieldsIf_load_row (by rfl) 34 _ rfl g3 rfl 34 (rcL ax).toArray (0, 0) _ (fun w' h => RB.row h.2) Tryz.underlying34 rfl SA.out) ?_
   simp only [pR]
   clear hHeld
   refine rd1 2 (fun K hK => ?_)
   rw [if_pos (by rfl)]
   refine wp_store_row0 34 _ _ rfl rfl g2 (rcL l).toArray rfl rfl 34 _ GS.out.t2.row SL.out (GS.out.same HLA.out.1.hash GS.out.t2.1) (rc_one _) ?_
   refine hK.out _ _ (⟨(GS.out.set2 HLA.out.1.hash).t2, (GS.out.set2 HLA.out.1.hash).t3⟩) (fun hHeld => ?_)
   clear hK K
   replace GS := qH (GS.out.set2 (r := l) HLA.out.1.hash)
   generalize wd.setRow g2 (rcL l).toArray = we at *
   clear hHeld
   refine rd1 3 (fun K hK => ?_)
   rw [if_pos (by rfl)]
   refine wp_store_row0 34 _ _ rfl rfl g3 (rcL ax).toArray rfl rfl 34 _ GS.out.t3.row SA.out (GS.out.same HAX.out.hash GS.out.t3.1) (rc_one _) ?_
   refine hK.out _ _ (⟨(GS.out.set3 HAX.out.hash).t2, (GS.out.set3 HAX.out.hash).t3⟩) (fun hHeld => ?_)
   clear hK K
   replace GS := qH (GS.out.set3 (r := ax) HAX.out.hash)
   generalize we.setRow g3 (rcL ax).toArray = wf at *
   refine tk 4 ?_
   simp only [pR]
   refine wpAnyH_done (by kernel_rfl) ?_ _
   go_wp2_with fail
   refine bodyPost_ret (res_rcG rfl _ _ w (.int .i64 0) rfl rfl rfl GS.out) rfl ?_
   exact ⟨by rw [HR.out], GS.out.bel⟩
 ·have HP : Hid (pr = cmPair x y) := by (show _ = _); rw [HCG.out]; unfold cmPick; rw [if_neg hsw]
  go_upto_region 8 with (fail)
  clear c2 c3
  obtain ⟨IX, IY, JX, JY⟩ := HIN.out
  have HLA := qH (show x.In ∧ y.In ∧ (x = Rcd.zero ∨ cmMay x = true) from ⟨IX, IY, JX⟩)
  clear HCG HIN SXA SYA hsw IX IY JX JY
  generalize hla : x = l at *
  generalize haa : y = a at *
  clear hla haa
  have SL := qH (rc_size HLA.out.1.hash)
  have SA := qH (rc_size HLA.out.2.1.hash)
  by_cases hl : l = Rcd.zero
  ·have HR : Hid (pr = (Rcd.zero, Rcd.zero, 160)) := by (show _ = _); rw [HP.out]; unfold cmPair; rw [if_pos hl]
   have HDE := qH (decide_eq_true hl)
   clear hl HP
   go_upto_region 9 with (first | (refine wpList_load_row rfl 34 _ rfl g2 rfl 34 (rcL l).toArray (0, 0) _ GS.out.t2.row Tryz.underlying34 rfl SL.out ?_) | (refine wpList_load_row rfl 34 _ rfl g5 rfl 34 (rcL Rcd.zero).toArray (0, 0) _ GS.out.t5.row Tryz.underlying34 rfl S0.out ?_; refine wpList_eqRc (by rfl) _ _ rfl l Rcd.zero rfl rfl HLA.out.1.hash rfl ?_; rw [HDE.out]))
   obtain ⟨wd, hwd⟩ : ∃ x, w4.drew = x := ⟨_, rfl⟩
   have BS : Below w4.heap.size w4 wd := by rw [← hwd]; exact (Below.refl _ _).drew
   replace GS := qH (GS.out.to BS)
   refine wp_region_held_drew (S := (fun w' => RB w' g5 Rcd.zero)) (by kernel_rfl) ((by rw [hwd]; exact GS.out.t5)) (fun hHeld => ?_)
   rw [hwd] at hHeld ⊢
   clear hwd BS
   refine tl 0 (.agg (rcL Rcd.zero).toArray) rfl (yieldsIf_load_row (by rfl) 34 _ rfl g5 rfl 34 (rcL Rcd.zero).toArray (0, 0) _ (fun w' h => RB.row h) Tryz.underlying34 rfl S0.out) ?_
   simp only [pR]
   refine tl 1 (.agg (rcL Rcd.zero).toArray) rfl (yieldsIf_load_row (by rfl) 34 _ rfl g5 rfl 34 (rcL Rcd.zero).toArray (0, 0) _ (fun w' h => RB.row h) Tryz.underlying34 rfl S0.out) ?_
   simp only [pR]
   clear hHeld
   refine rd1 2 (fun K hK => ?_)
   rw [if_pos (by rfl)]
   refine wp_store_row0 34 _ _ rfl rfl g2 (rcL Rcd.zero).toArray rfl rfl 34 _ GS.out.t2.row S0.out (GS.out.same rfl GS.out.t2.1) (rc_one _) ?_
   refine hK.out _ _ ((GS.out.set2 (r := Rcd.zero) rfl).t5) (fun hHeld => ?_)
   clear hK K
   replace GS := qH (GS.out.set2 (r := Rcd.zero) rfl)
   generalize wd.setRow g2 (rcL Rcd.zero).toArray = we at *
   clear hHeld
   refine rd1 3 (fun K hK => ?_)
   rw [if_pos (by rfl)]
   refine wp_store_row0 34 _ _ rfl rfl g3 (rcL Rcd.zero).toArray rfl rfl 34 _ GS.out.t3.row S0.out (GS.out.same rfl GS.out.t3.1) (rc_one _) ?_
   refine hK.out _ _ ((GS.out.set3 (r := Rcd.zero) rfl).t5) (fun hHeld => ?_)
   clear hK K
   replace GS := qH (GS.out.set3 (r := Rcd.zero) rfl)
   generalize we.setRow g3 (rcL Rcd.zero).toArray = wf at *
   refine tk 4 ?_
   simp only [pR]
   refine wpAnyH_done (by kernel_rfl) ?_ _
   go_wp2_with fail
   refine bodyPost_ret (res_rcG rfl _ _ w (.int .i64 160) rfl rfl rfl GS.out) rfl ?_
   exact ⟨by rw [HR.out], GS.out.bel⟩
  have HDE := qH (decide_eq_false hl)
  have hm := HLA.out.2.2.resolve_left hl
  have hsub := sub1 (x := l.seq) (by have := (cmMay_iff.1 hm).1; omega) HLA.out.1.seq.2
  clear hm
  go_upto_region 10 with (first | (refine wpList_load_row rfl 34 _ rfl g2 rfl 34 (rcL l).toArray (0, 0) _ GS.out.t2.row Tryz.underlying34 rfl SL.out ?_) | (refine wpList_load_row rfl 34 _ rfl g5 rfl 34 (rcL Rcd.zero).toArray (0, 0) _ GS.out.t5.row Tryz.underlying34 rfl S0.out ?_; refine wpList_eqRc (by rfl) _ _ rfl l Rcd.zero rfl rfl HLA.out.1.hash rfl ?_; rw [HDE.out]))
  obtain ⟨c2, -⟩ := GS.out.t2.cells
  obtain ⟨c3, -⟩ := GS.out.t3.cells
  by_cases hn : a.seq = l.seq - 1
  ·have HR : Hid (pr = (l, a, 0)) := by (show _ = _); rw [HP.out]; unfold cmPair; rw [if_neg hl, if_neg (fun h => h hn)]
   clear hl HP
   have hneq : (a.seq != l.seq - 1) = false := by rw [hn]; exact bne_self_eq_false _
   go_upto_region 12 with (fail)
   clear c2 c3 hneq hn hsub
   obtain ⟨w7, hw7⟩ : ∃ x, x = w4 := ⟨_, rfl⟩
   subst hw7
   have HAX := qH HLA.out.2.1
   obtain ⟨ax, hax⟩ : ∃ x, a = x := ⟨_, rfl⟩
   rw [hax] at GS HAX SA HR
   obtain ⟨wd, hwd⟩ : ∃ x, w7.drew = x := ⟨_, rfl⟩
   have BS : Below w7.heap.size w7 wd := by rw [← hwd]; exact (Below.refl _ _).drew
   replace GS := qH (GS.out.to BS)
   refine wp_region_held_drew (S := (fun w' => RB w' g2 l ∧ RB w' g3 ax)) (by kernel_rfl) ((by rw [hwd]; exact ⟨GS.out.t2, GS.out.t3⟩)) (fun hHeld => ?_)
   rw [hwd] at hHeld ⊢
   clear hwd BS
   refine tl 0 (.agg (rcL l).toArray) rfl (yieldsIf_load_row (by rfl) 34 _ rfl g2 rfl 34 (rcL l).toArray (0, 0) _ (fun w' h => RB.row h.1) Tryz.underlying34 rfl SL.out) ?_
   simp only [pR]
   refine tl 1 (.agg (rcL ax).toArray) rfl (yieldsIf_load_row (by rfl) 34 _ rfl g3 rfl 34 (rcL ax).toArray (0, 0) _ (fun w' h => RB.row h.2) Tryz.underlying34 rfl SA.out) ?_
   simp only [pR]
   clear hHeld
   refine rd1 2 (fun K hK => ?_)
   rw [if_pos (by rfl)]
   refine wp_store_row0 34 _ _ rfl rfl g2 (rcL l).toArray rfl rfl 34 _ GS.out.t2.row SL.out (GS.out.same HLA.out.1.hash GS.out.t2.1) (rc_one _) ?_
   refine hK.out _ _ (⟨(GS.out.set2 HLA.out.1.hash).t2, (GS.out.set2 HLA.out.1.hash).t3⟩) (fun hHeld => ?_)
   clear hK K
   replace GS := qH (GS.out.set2 (r := l) HLA.out.1.hash)
   generalize wd.setRow g2 (rcL l).toArray = we at *
   clear hHeld
   refine rd1 3 (fun K hK => ?_)
   rw [if_pos (by rfl)]
   refine wp_store_row0 34 _ _ rfl rfl g3 (rcL ax).toArray rfl rfl 34 _ GS.out.t3.row SA.out (GS.out.same HAX.out.hash GS.out.t3.1) (rc_one _) ?_
   refine hK.out _ _ (⟨(GS.out.set3 HAX.out.hash).t2, (GS.out.set3 HAX.out.hash).t3⟩) (fun hHeld => ?_)
   clear hK K
   replace GS := qH (GS.out.set3 (r := ax) HAX.out.hash)
   generalize we.setRow g3 (rcL ax).toArray = wf at *
   refine tk 4 ?_
   simp only [pR]
   refine wpAnyH_done (by kernel_rfl) ?_ _
   go_wp2_with fail
   refine bodyPost_ret (res_rcG rfl _ _ w (.int .i64 0) rfl rfl rfl GS.out) rfl ?_
   exact ⟨by rw [HR.out], GS.out.bel⟩
  ·have HR : Hid (pr = (l, Rcd.zero, 0)) := by (show _ = _); rw [HP.out]; unfold cmPair; rw [if_neg hl, if_pos hn]
   clear hl HP
   have hneq : (a.seq != l.seq - 1) = true := bne_iff_ne.2 hn
   go_upto_region 11 with (fail)
   clear c2 c3 hneq hsub
   go_upto_region 12 with (refine wpList_load_row rfl 34 _ rfl g5 rfl 34 (rcL Rcd.zero).toArray (0, 0) _ GS.out.t5.row Tryz.underlying34 rfl S0.out ?_; refine wpList_store_row rfl 34 _ _ rfl g3 (rcL Rcd.zero).toArray rfl rfl 34 (rcL a).toArray GS.out.t3.row S0.out (GS.out.same rfl GS.out.t3.1) (rc_one _) ?_; replace GS := qH (GS.out.set3 (r := Rcd.zero) rfl); generalize w4.setRow g3 (rcL Rcd.zero).toArray = w7 at *)
   clear hn
   obtain ⟨ax, hax⟩ : ∃ x, Rcd.zero = x := ⟨_, rfl⟩
   have HAX := qH Rcd.In.zero
   replace SA := S0
   rw [hax] at GS HAX SA HR
   obtain ⟨wd, hwd⟩ : ∃ x, w7.drew = x := ⟨_, rfl⟩
   have BS : Below w7.heap.size w7 wd := by rw [← hwd]; exact (Below.refl _ _).drew
   replace GS := qH (GS.out.to BS)
   refine wp_region_held_drew (S := (fun w' => RB w' g2 l ∧ RB w' g3 ax)) (by kernel_rfl) ((by rw [hwd]; exact ⟨GS.out.t2, GS.out.t3⟩)) (fun hHeld => ?_)
   rw [hwd] at hHeld ⊢
   clear hwd BS
   refine tl 0 (.agg (rcL l).toArray) rfl (yieldsIf_load_row (by rfl) 34 _ rfl g2 rfl 34 (rcL l).toArray (0, 0) _ (fun w' h => RB.row h.1) Tryz.underlying34 rfl SL.out) ?_
   simp only [pR]
   refine tl 1 (.agg (rcL ax).toArray) rfl (yieldsIf_load_row (by rfl) 34 _ rfl g3 rfl 34 (rcL ax).toArray (0, 0) _ (fun w' h => RB.row h.2) Tryz.underlying34 rfl SA.out) ?_
   simp only [pR]
   clear hHeld
   refine rd1 2 (fun K hK => ?_)
   rw [if_pos (by rfl)]
   refine wp_store_row0 34 _ _ rfl rfl g2 (rcL l).toArray rfl rfl 34 _ GS.out.t2.row SL.out (GS.out.same HLA.out.1.hash GS.out.t2.1) (rc_one _) ?_
   refine hK.out _ _ (⟨(GS.out.set2 HLA.out.1.hash).t2, (GS.out.set2 HLA.out.1.hash).t3⟩) (fun hHeld => ?_)
   clear hK K
   replace GS := qH (GS.out.set2 (r := l) HLA.out.1.hash)
   generalize wd.setRow g2 (rcL l).toArray = we at *
   clear hHeld
   refine rd1 3 (fun K hK => ?_)
   rw [if_pos (by rfl)]
   refine wp_store_row0 34 _ _ rfl rfl g3 (rcL ax).toArray rfl rfl 34 _ GS.out.t3.row SA.out (GS.out.same HAX.out.hash GS.out.t3.1) (rc_one _) ?_
   refine hK.out _ _ (⟨(GS.out.set3 HAX.out.hash).t2, (GS.out.set3 HAX.out.hash).t3⟩) (fun hHeld => ?_)
   clear hK K
   replace GS := qH (GS.out.set3 (r := ax) HAX.out.hash)
   generalize we.setRow g3 (rcL ax).toArray = wf at *
   refine tk 4 ?_
   simp only [pR]
   refine wpAnyH_done (by kernel_rfl) ?_ _
   go_wp2_with fail
   refine bodyPost_ret (res_rcG rfl _ _ w (.int .i64 0) rfl rfl rfl GS.out) rfl ?_
   exact ⟨by rw [HR.out], GS.out.bel⟩
theorem cGet (d : Nat) (F : Nat → Prop) (s : DS) (w : World) (h : DkAt w d F s) :
  Calls Tryz.prog 16 #[.pointer (some ⟨d, 0, none⟩)] w (RetG w (cmGet s)) :=
 cGetOf _ (cmTwo s) _ w (cmTwo_get s) (cmTwo_in s) fun w1 hb => cRecords d F s w1 (h.to hb)
theorem cGetNo (q : Option Addr) (w : World) (h : DkNo w (.pointer q)) :
  Calls Tryz.prog 16 #[.pointer q] w (RetG w (Rcd.zero, Rcd.zero, 1)) :=
 cGetOf _ (Rcd.zero, Rcd.zero, 1) _ w (by rfl) ⟨Rcd.In.zero, Rcd.In.zero, .inl rfl, .inl rfl⟩ fun w1 hb => cRecordsNo q w1 (h.to hb)
theorem own_offC {w : World} {B : Nat} {T : TypeId} {A : Option Addr} {n c : Nat} {xs : List Value} (h : w.ownsRow B T 1 (.slice A n c) n xs) {F : Nat → Prop} (hf : ∀ k, F k → k < B) : Off A n F := fun hn b o e hb => by
 obtain ⟨g, hg, hB⟩ := own_head h hn
 rw [e] at hg
 injection hg with hg; injection hg with hg _
 have := hf b hb
 omega
theorem DkTo.next {w w1 w2 : World} {d : Nat} {F F' : Nat → Prop} {s1 : DS} {r : Int × DS} {e : Ending} (hn : ∀ k, F' k → F k ∨ w.heap.size ≤ k) (hk : Keep F w w1) (h : DkTo w1 d F' r e w2) : DkTo w d F r e w2 := by
 obtain ⟨he, F2, a, b, c⟩ := h
 exact ⟨he, F2, a, fun k hk2 => (b k hk2).elim (hn k) (fun h => .inr (Nat.le_trans hk.size h)), hk.new (c.more (fun k h => hn k h))⟩
theorem cPut (d : Nat) (F : Nat → Prop) (s : DS) (r : Rcd) (w : World) (h : DkAt w d F s) (hl : 0 < s.L.length) (hr : r.hash.length = 32) :
  Calls Tryz.prog 22 #[.pointer (some ⟨d, 0, none⟩), .agg (rcL r).toArray] w (DkTo w d F (cmPut r s)) := by
 have hb : Below w.heap.size w (w.alloc (.cells (rcL r).toArray 34)) := (Below.refl _ _).alloc (Nat.le_refl _) _
 have B := qH hb
 have G := qH (RB.new w hr)
 have H := qH (h.to hb)
 have HP : Hid (cmPut r s = if cmMay r = true then (if (s.write (r.seq % 2) (cmSec r)).1 ≠ 0 then s.write (r.seq % 2) (cmSec r) else (s.write (r.seq % 2) (cmSec r)).2.flush) else (2, s)) := rfl
 have HR := qH hr
 have SR := qH (rc_size hr)
 have HGN : Hid (¬ F w.heap.size) := fun hf => Nat.lt_irrefl _ (h.lt _ hf)
 have hl0 : ((s.L.length : Int) == 0) = false := beq_eq_false_iff_ne.2 (by omega)
 have hl1 : ¬ (s.L.length : Int) = 0 := by omega
 clear hb h hr hl
 go_enter Tryz.func22, Tryz.ntmps22
 go_upto_region 1 with (fail)
 generalize w.alloc (.cells (rcL r).toArray 34) = w1 at *
 obtain ⟨g, hg⟩ : ∃ x, w.heap.size = x := ⟨_, rfl⟩
 rw [hg] at G HGN ⊢
 go_wp2_with fail
 refine (dLen d F s w1 H.out).mono ?_
 rintro e w2 ⟨rfl, rfl⟩
 go_wp2_with (refine wpList_load_row rfl 34 _ rfl g rfl 34 (rcL r).toArray (0, 0) _ G.out.row Tryz.underlying34 rfl SR.out ?_)
 refine (cMay r w1 HR.out).mono ?_
 rintro e w2 ⟨rfl, hb⟩
 replace G := qH (G.out.to hb)
 replace H := qH (H.out.to hb)
 replace B := qH (B.out.trans (hb.mono B.out.size))
 clear hb hl0 hl1
 cases hm : cmMay r
 ·rw [hm, if_neg (by decide)] at HP
  clear hm
  go_wp2_with fail
  go_ret
  rw [HP.out]
  exact (DkTo.same H.out).after B.out
 rw [hm, if_pos rfl] at HP
 have HS0 : Hid (0 ≤ r.seq) := by (show _ ≤ _); have := (cmMay_iff.1 hm).1; omega
 clear hm
 go_upto_region 5 with (fail)
 obtain ⟨wd, hwd⟩ : ∃ x, w2.drew = x := ⟨_, rfl⟩
 have BS : Below w2.heap.size w2 wd := by rw [← hwd]; exact (Below.refl _ _).drew
 replace G := qH (G.out.to BS)
 replace H := qH (H.out.to BS)
 replace B := qH (B.out.trans (BS.mono B.out.size))
 refine wp_region_held_drew (S := (fun w' => RB w' g r)) (by kernel_rfl) ((by rw [hwd]; exact G.out)) (fun hHeld => ?_)
 rw [hwd] at hHeld ⊢
 clear hwd BS
 refine tk 0 ?_
 simp only [pR]
 refine tl 1 (.agg (rcL r).toArray) rfl (yieldsIf_load_row (by rfl) 34 _ rfl g rfl 34 (rcL r).toArray (0, 0) _ (fun w' h => RB.row h) Tryz.underlying34 rfl SR.out) ?_
 simp only [pR]
 refine tl 3 (.agg (rcL r).toArray) rfl (yieldsIf_load_row (by rfl) 34 _ rfl g rfl 34 (rcL r).toArray (0, 0) _ (fun w' h => RB.row h) Tryz.underlying34 rfl SR.out) ?_
 simp only [pR]
 clear hHeld
 refine rd1 2 (fun K hK => ?_)
 go_simp
 refine (cPlace r wd HR.out HS0.out).mono ?_
 rintro e wa ⟨rfl, hb⟩
 replace G := qH (G.out.to hb)
 replace H := qH (H.out.to hb)
 replace B := qH (B.out.trans (hb.mono B.out.size))
 clear hb
 go_wp2_with fail
 refine hK.out _ _ (G.out) (fun hHeld => ?_)
 clear hK K
 clear hHeld
 refine rd1 4 (fun K hK => ?_)
 go_simp
 refine (cSeal r wa HR.out).mono ?_
 rintro e wb ⟨A4, n4, c4, rfl, hown, hb⟩
 replace G := qH (G.out.to hb)
 have O4 := qH (own_offC hown H.out.lt)
 replace H := qH (H.out.to hb)
 replace B := qH (B.out.trans (hb.mono B.out.size))
 have RD := qH (Rd.of_own hown)
 clear hown hb
 go_wp2_with fail
 refine hK.out _ _ (G.out) (fun hHeld => ?_)
 clear hK K
 clear hHeld
 have HGF : Hid (¬ F g) := HGN.out
 refine rd1 5 (fun K hK => ?_)
 go_simp
 refine (dWrite d F s (r.seq % 2) A4 n4 c4 (cmSec r) wb H.out RD.out O4.out).mono ?_
 rintro e wc h6
 obtain ⟨rfl, F6, h7, h8, h9⟩ := h6
 replace G := qH (G.out.kept h9 HGF.out)
 have HD := qH h7
 have HF := qH h8
 have HK := qH h9
 clear h7 h8 h9
 go_wp2_with fail
 refine hK.out _ _ (G.out) (fun hHeld => ?_)
 clear hK K
 refine tk 6 ?_
 simp only [pR]
 refine wpAnyH_done (by kernel_rfl) ?_ _
 clear hHeld G RD O4 H
 by_cases he : (s.write (r.seq % 2) (cmSec r)).1 = 0
 ·rw [if_neg (fun h => h he)] at HP
  rw [he]
  clear he
  go_wp2_with fail
  refine (dFlush d F6 _ wc HD.out).mono ?_
  intro e wz h10
  have T := qH (DkTo.next (s1 := s) HF.out HK.out h10)
  obtain ⟨rfl, _⟩ := h10
  go_wp2_with fail
  go_ret
  rw [HP.out]
  exact T.out.after B.out
 ·rw [if_pos he] at HP
  have hne : ((s.write (r.seq % 2) (cmSec r)).1 != 0) = true := bne_iff_ne.2 he
  clear he
  have T : Hid (DkTo wb d F (s.write (r.seq % 2) (cmSec r)) (.returned (.int .i64 (s.write (r.seq % 2) (cmSec r)).1)) wc) := ⟨rfl, F6, HD.out, HF.out, HK.out⟩
  rw [← HP.out] at T
  rw [← HP.out] at hne ⊢
  generalize cmPut r s = res at *
  obtain ⟨re, rs⟩ := res
  dsimp only at *
  clear HP HD
  go_wp2_with fail
  go_ret
  exact T.out.after B.out
theorem cPutNo (q : Option Addr) (r : Rcd) (w : World) (h : DkNo w (.pointer q)) :
  Calls Tryz.prog 22 #[.pointer q, .agg (rcL r).toArray] w fun e w' => e = .returned (.int .i64 1) ∧ Below w.heap.size w w' := by
 have hb : Below w.heap.size w (w.alloc (.cells (rcL r).toArray 34)) := (Below.refl _ _).alloc (Nat.le_refl _) _
 have B := qH hb
 have H := qH (h.to hb)
 clear hb h
 go_enter Tryz.func22, Tryz.ntmps22
 go_upto_region 1 with (fail)
 generalize w.alloc (.cells (rcL r).toArray 34) = w1 at *
 go_wp2_with fail
 refine (dLenNo (.pointer q) w1 H.out).mono ?_
 rintro e w2 ⟨rfl, rfl⟩
 go_wp2_with fail
 go_ret
 exact ⟨rfl, B.out⟩
end Go.Proofs.YtffdjnhhmfpkgaaGreat