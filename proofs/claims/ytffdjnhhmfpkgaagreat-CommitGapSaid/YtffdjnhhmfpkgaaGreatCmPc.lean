/- The program's commit: the records of the two sectors (made by gen_cmpc.py). -/
import Derived.Test.YtffdjnhhmfpkgaaGreatTz
import Derived.Test.YtffdjnhhmfpkgaaGreatCmPb
import Derived.Test.YtffdjnhhmfpkgaaGreatR7
namespace Go.Proofs.YtffdjnhhmfpkgaaGreat
set_option maxRecDepth 1000000
set_option maxHeartbeats 8000000
open Go.RowKit
set_option linter.unusedVariables false
set_option linter.unusedSimpArgs false
def HB (w : World) (g : Nat) (x y : Rcd) : Prop := x.hash.length = 32 ∧ y.hash.length = 32 ∧ Bx w g 80 (rcL x ++ rcL y)
section
variable {w w' : World} {g : Nat} {x y r : Rcd}
theorem rc2_len (hx : x.hash.length = 32) (hy : y.hash.length = 32) : (rcL x ++ rcL y).length = 72 := by rw [List.length_append, rcL_len hx, rcL_len hy]
theorem HB.to (h : HB w g x y) (hb : Below w.heap.size w w') : HB w' g x y := ⟨h.1, h.2.1, h.2.2.to hb⟩
theorem HB.new (w : World) (hx : x.hash.length = 32) (hy : y.hash.length = 32) : HB (w.alloc (.cells (rcL x ++ rcL y).toArray 80)) w.heap.size x y := ⟨hx, hy, Bx.new w _ _⟩
theorem HB.row (h : HB w g x y) : w.heap[g]? = some (.cells (rcL x ++ rcL y).toArray 80 (0, 0)) := h.2.2
theorem HB.there (h : HB w g x y) {o n : Nat} (hn : o + n ≤ 72) : w.there g o n := fun j hj => by
 have hj' : o + j < (rcL x ++ rcL y).length := by rw [rc2_len h.1 h.2.1]; omega
 exact ⟨by rw [h.2.2.at (j := o + j) (List.getElem?_eq_getElem hj')]; rfl, h.2.2.fz _⟩
theorem HB.one (h : HB w g x y) : w.rangeAt g 0 (rcL x) := fun j v hj => h.2.2.at (j := 0 + j) (by
 rw [Nat.zero_add, List.getElem?_append_left]
 ·exact hj
 ·rcases Nat.lt_or_ge j (rcL x).length with q | q
  ·exact q
  ·rw [List.getElem?_eq_none q] at hj; cases hj)
theorem HB.two (h : HB w g x y) : w.rangeAt g 36 (rcL y) := fun j v hj => h.2.2.at (j := 36 + j) (by
 rw [List.getElem?_append_right (by rw [rcL_len h.1]; omega), rcL_len h.1, Nat.add_sub_cancel_left]
 exact hj)
theorem HB.other (h : HB w g x y) {k : Nat} {cs : Array Value} (hn : g ≠ k) : HB (w.setRow k cs) g x y := ⟨h.1, h.2.1, (setRow_other w k g cs hn).trans h.2.2⟩
theorem HB.set0 (h : HB w g x y) (hr : r.hash.length = 32) : HB (w.setCells g 0 (rcL r).toArray.toList) g r y := by
 refine ⟨hr, h.2.1, ?_⟩
 have hl := rc2_len h.1 h.2.1
 have e := heap_setCellsM g 80 (rcL r).toArray.toList 0 (rcL x ++ rcL y).toArray w h.2.2 (by rw [List.size_toArray, hl]; simp [rcL_len hr])
 show (w.setCells g 0 (rcL r).toArray.toList).heap[g]? = _
 rw [e]
 congr 2
 have e2 : (rcL r).toArray.toList.length = 36 := by simp [rcL_len hr]
 rw [e2, List.take_zero, List.nil_append]
 show ((rcL r) ++ (rcL x ++ rcL y).drop (0 + 36)).toArray = _
 rw [Nat.zero_add, List.drop_left' (rcL_len h.1)]
theorem HB.set1 (h : HB w g x y) (hr : r.hash.length = 32) : HB (w.setCells g 36 (rcL r).toArray.toList) g x r := by
 refine ⟨h.1, hr, ?_⟩
 have hl := rc2_len h.1 h.2.1
 have e := heap_setCellsM g 80 (rcL r).toArray.toList 36 (rcL x ++ rcL y).toArray w h.2.2 (by rw [List.size_toArray, hl]; simp [rcL_len hr])
 show (w.setCells g 36 (rcL r).toArray.toList).heap[g]? = _
 rw [e]
 congr 2
 have e2 : (rcL r).toArray.toList.length = 36 := by simp [rcL_len hr]
 rw [e2]
 show ((rcL x ++ rcL y).take 36 ++ rcL r ++ (rcL x ++ rcL y).drop (36 + 36)).toArray = _
 rw [List.take_left' (rcL_len h.1), List.drop_of_length_le (by rw [hl]; decide), List.append_nil]
end
theorem rc2_info : (Tryz.prog.info? 80).map (fun i => (i.zero, i.size)) = some (some (.agg (rcL Rcd.zero ++ rcL Rcd.zero).toArray), 72) := by kernel_rfl
theorem rc2_size {x y : Rcd} (hx : x.hash.length = 32) (hy : y.hash.length = 32) : (Tryz.prog.info? 80).map (·.size) = some (rcL x ++ rcL y).toArray.size := by
 rw [List.size_toArray, rc2_len hx hy]; exact (zero_of_info rc2_info).2
theorem rc2_zero (w : World) : (zeroValue 80).run Tryz.prog w = .ok (.agg (rcL Rcd.zero ++ rcL Rcd.zero).toArray) w := (zero_of_info rc2_info).1 w
theorem rc2_one (x y : Rcd) : (rcL x ++ rcL y).toArray.all (·.oneCell') = true :=
 Go.all_oneCell_toArray (fun u hu => (List.mem_append.1 hu).elim (rc_oneL x u) (rc_oneL y u))
theorem res_rc2 {fn : Func} {p q : Tmp} (h : fn.results = #[.cell p 80, .tmp q]) (tmps : Array Value) (w : World) (g : Nat) (x y : Rcd) (u : Value) (hp : tmps.getD p undef = .pointer (some ⟨g, 0, none⟩)) (hq : tmps.getD q undef = u) (hg : HB w g x y) :
  (results fn tmps).run Tryz.prog w = .ok (.tuple #[.agg (rcL x ++ rcL y).toArray, u]) w := by
 have hp' : tmps[p]?.getD undef = .pointer (some ⟨g, 0, none⟩) := by simpa using hp
 have hq' : tmps[q]?.getD undef = u := by simpa using hq
 simp [results, h, hp', hq', asAddr, run_loadVar_row w g _ _ _ (0, 0) _ hg.2.2 Tryz.underlying80 rfl (rc2_size hg.1 hg.2.1)]
def cmTwo (s : DS) : Rcd × Rcd × Int :=
 if (s.read 0).2 ≠ 0 then (Rcd.zero, Rcd.zero, (s.read 0).2) else if (s.read 1).2 ≠ 0 then (cmAt 0 (s.read 0).1, Rcd.zero, (s.read 1).2) else (cmAt 0 (s.read 0).1, cmAt 1 (s.read 1).1, 0)
theorem cmTwo_get (s : DS) : cmGet s = if (cmTwo s).2.2 ≠ 0 then (Rcd.zero, Rcd.zero, (cmTwo s).2.2) else cmPick (cmTwo s).1 (cmTwo s).2.1 := by
 unfold cmGet cmTwo
 generalize s.read 0 = p
 generalize s.read 1 = q
 by_cases h0 : p.2 = 0 <;> by_cases h1 : q.2 = 0 <;> simp [h0, h1]
structure TwoS (w0 : World) (s : DS) (z g : Nat) (wr : World) (k : Nat) (x y : Rcd) : Prop where
 hb : HB wr g x y
 zb : HB wr z Rcd.zero Rcd.zero
 z0 : w0.heap.size ≤ z
 zg : z < g
 bel : Below w0.heap.size w0 wr
 one : 0 < k → (s.read 0).2 = 0 ∧ x = cmAt 0 (s.read 0).1
 two : 1 < k → (s.read 1).2 = 0 ∧ y = cmAt 1 (s.read 1).1
 non : k = 0 → x = Rcd.zero
 nty : k ≤ 1 → y = Rcd.zero
theorem TwoS.to {w0 : World} {s : DS} {z g : Nat} {wr w' : World} {k : Nat} {x y : Rcd} (h : TwoS w0 s z g wr k x y) (hb : Below wr.heap.size wr w') : TwoS w0 s z g w' k x y :=
 ⟨h.hb.to hb, h.zb.to hb, h.z0, h.zg, h.bel.trans (hb.mono h.bel.size), h.one, h.two, h.non, h.nty⟩
def TwoRel (w0 : World) (s : DS) (z g : Nat) (i : Value) (wr : World) : Prop := ∃ (k : Nat) (x y : Rcd), k ≤ 2 ∧ i = .int .i64 (k : Int) ∧ TwoS w0 s z g wr k x y
theorem cmAt_yes {i : Int} {s : List UInt8} (h1 : cmIs s = true) (h2 : (cmRec s).seq % 2 = i) : cmAt i s = cmRec s := by unfold cmAt; rw [h1, decide_eq_true h2, if_pos (by decide)]
theorem cmAt_no {i : Int} {s : List UInt8} (h : cmIs s = false) : cmAt i s = Rcd.zero := by unfold cmAt; rw [h, Bool.false_and, if_neg (by decide)]
theorem cmAt_off {i : Int} {s : List UInt8} (h2 : ¬ (cmRec s).seq % 2 = i) : cmAt i s = Rcd.zero := by unfold cmAt; rw [decide_eq_false h2, Bool.and_false, if_neg (by decide)]
theorem TwoS.keep0 {w0 : World} {s : DS} {z g : Nat} {wr : World} {y : Rcd} (h : TwoS w0 s z g wr 0 Rcd.zero y) (he : (s.read 0).2 = 0) (hc : cmAt 0 (s.read 0).1 = Rcd.zero) : TwoS w0 s z g wr 1 Rcd.zero y :=
 ⟨h.hb, h.zb, h.z0, h.zg, h.bel, fun _ => ⟨he, hc.symm⟩, fun h => absurd h (by decide), fun _ => rfl, fun _ => h.nty (by decide)⟩
theorem TwoS.keep1 {w0 : World} {s : DS} {z g : Nat} {wr : World} {x : Rcd} (h : TwoS w0 s z g wr 1 x Rcd.zero) (he : (s.read 1).2 = 0) (hc : cmAt 1 (s.read 1).1 = Rcd.zero) : TwoS w0 s z g wr 2 x Rcd.zero :=
 ⟨h.hb, h.zb, h.z0, h.zg, h.bel, fun _ => h.one (by decide), fun _ => ⟨he, hc.symm⟩, fun h => absurd h (by decide), fun h => absurd h (by decide)⟩
theorem TwoS.put0 {w0 : World} {s : DS} {z g : Nat} {wr : World} {y r : Rcd} (h : TwoS w0 s z g wr 0 Rcd.zero y) (he : (s.read 0).2 = 0) (hc : cmAt 0 (s.read 0).1 = r) (hr : r.hash.length = 32) : TwoS w0 s z g (wr.setCells g 0 (rcL r).toArray.toList) 1 r y :=
 ⟨h.hb.set0 hr, ⟨rfl, rfl, h.zb.2.2.kept (keep_setCellsM (R := (· = g)) (Keep.refl _ _) g 0 _ rfl) (fun e => by have := h.zg; omega)⟩, h.z0, h.zg, below_setCellsM h.bel (by have := h.z0; have := h.zg; omega) _ _, fun _ => ⟨he, hc.symm⟩, fun h => absurd h (by decide), fun h => absurd h (by decide), fun _ => h.nty (by decide)⟩
theorem TwoS.put1 {w0 : World} {s : DS} {z g : Nat} {wr : World} {x r : Rcd} (h : TwoS w0 s z g wr 1 x Rcd.zero) (he : (s.read 1).2 = 0) (hc : cmAt 1 (s.read 1).1 = r) (hr : r.hash.length = 32) : TwoS w0 s z g (wr.setCells g 36 (rcL r).toArray.toList) 2 x r :=
 ⟨h.hb.set1 hr, ⟨rfl, rfl, h.zb.2.2.kept (keep_setCellsM (R := (· = g)) (Keep.refl _ _) g 36 _ rfl) (fun e => by have := h.zg; omega)⟩, h.z0, h.zg, below_setCellsM h.bel (by have := h.z0; have := h.zg; omega) _ _, fun _ => h.one (by decide), fun _ => ⟨he, hc.symm⟩, fun h => absurd h (by decide), fun h => absurd h (by decide)⟩
theorem keep_of_belowC {B : Nat} {w w' : World} (h : Below B w w') : Keep (fun k => B ≤ k) w w' := ⟨h.os, h.tape, h.output, h.size, fun k _ hn => h.block k (by omega)⟩
theorem cRecords (d : Nat) (F : Nat → Prop) (s : DS) (w : World) (h : DkAt w d F s) :
  Calls Tryz.prog 38 #[.pointer (some ⟨d, 0, none⟩)] w fun e w' => e = .returned (.tuple #[.agg (rcL (cmTwo s).1 ++ rcL (cmTwo s).2.1).toArray, .int .i64 (cmTwo s).2.2]) ∧ Below w.heap.size w w' := by
 have hz := rc_zero
 have hz2 := rc2_zero
 have HT : Hid (cmTwo s = if (s.read 0).2 ≠ 0 then (Rcd.zero, Rcd.zero, (s.read 0).2) else if (s.read 1).2 ≠ 0 then (cmAt 0 (s.read 0).1, Rcd.zero, (s.read 1).2) else (cmAt 0 (s.read 0).1, cmAt 1 (s.read 1).1, 0)) := rfl
 have b1 : Below w.heap.size w (w.alloc (.cells (rcL Rcd.zero ++ rcL Rcd.zero).toArray 80)) := (Below.refl _ _).alloc (Nat.le_refl _) _
 have HS : Hid ((w.alloc (.cells (rcL Rcd.zero ++ rcL Rcd.zero).toArray 80)).heap.size = w.heap.size + 1) := by (show _ = _); simp
 have Z1 := qH (HB.new w (x := Rcd.zero) (y := Rcd.zero) rfl rfl)
 have B1 := qH b1
 have H0 := qH h
 clear h b1
 go_enter Tryz.func38, Tryz.ntmps38
 go_upto_region 1 with (fail)
 generalize w.alloc (.cells (rcL Rcd.zero ++ rcL Rcd.zero).toArray 80) = w1 at *
 have hal : Below w1.heap.size w1 (w1.alloc (.cells (rcL Rcd.zero ++ rcL Rcd.zero).toArray 80)) := (Below.refl _ _).alloc (Nat.le_refl _) _
 have T : Hid (TwoS w s w.heap.size w1.heap.size (w1.alloc (.cells (rcL Rcd.zero ++ rcL Rcd.zero).toArray 80)) 0 Rcd.zero Rcd.zero) :=
  ⟨HB.new w1 rfl rfl, Z1.out.to hal, Nat.le_refl _, by have := HS.out; omega, B1.out.trans (hal.mono B1.out.size), fun h => absurd h (by decide), fun h => absurd h (by decide), fun _ => rfl, fun _ => rfl⟩
 clear hal Z1 B1 HS
 go_upto_region 2 with (fail)
 generalize w1.alloc (.cells (rcL Rcd.zero ++ rcL Rcd.zero).toArray 80) = w2 at *
 generalize w1.heap.size = g at *
 clear w1
 go_wp2_with fail
 go_loopw [10] (fun i wr => TwoRel w s w.heap.size g i wr) (fun i _ => 2 - (intOf i).toNat)
 case atStart => exact ⟨0, _, _, by decide, rfl, T.out⟩
 case round =>
  clear T
  obtain ⟨k, x, y, hk, rfl, ht⟩ := hrel
  have T := qH ht
  clear ht
  rcases k with _ | _ | k
  ·obtain rfl := T.out.non rfl
   have HD := qH (H0.out.kept (R := fun j => w.heap.size ≤ j) (keep_of_belowC T.out.bel) (fun j hj hh => by have := H0.out.lt j hj; omega))
   go_wp2_with fail
   refine (dRead d F s (0 : Int) wr HD.out).mono ?_
   rintro e wa ⟨A3, n3, c3, rfl, hown, hb⟩
   replace T := qH (T.out.to hb)
   have RD := qH (Rd.of_own hown)
   have CP := qH (own_cap hown)
   clear hown hb HD
   by_cases he : (s.read 0).2 = 0
   ·have HE := qH he
    rw [he]
    clear he
    go_upto_region 8 with (fail)
    go_wp2_with fail
    refine (cOpen A3 n3 c3 (s.read 0).1 wa RD.out CP.out.1 CP.out.2).mono ?_
    rintro e wb ⟨rfl, hb⟩
    replace T := qH (T.out.to hb)
    clear hb RD CP
    have HIN := qH (cmRec_in (s.read 0).1)
    have S1 := qH (rc_size HIN.out.hash)
    have SZ : Hid ((rcL Rcd.zero).toArray.size = (rcL (cmRec (s.read 0).1)).toArray.size) := by (show _ = _); rw [rcL_size rfl, rcL_size HIN.out.hash]
    have HCY := qH (fun h1 h2 => cmAt_yes (i := 0) (s := (s.read 0).1) h1 h2)
    have HCN := qH (fun h1 => cmAt_no (i := 0) (s := (s.read 0).1) h1)
    have HCO := qH (fun h1 => cmAt_off (i := 0) (s := (s.read 0).1) h1)
    have HMY := qH (fun h1 => cmIs_may (s := (s.read 0).1) h1)
    generalize cmRec (s.read 0).1 = r at *
    generalize cmIs (s.read 0).1 = b at *
    go_upto_region 9 with (refine wpList_store_row rfl 34 _ _ rfl wb.heap.size (rcL r).toArray rfl rfl 34 (rcL Rcd.zero).toArray (heap_alloc_last wb _) S1.out SZ.out (rc_one _) ?_; rw [World.setRow_alloc_new])
    have hal : Below wb.heap.size wb (wb.alloc (.cells (rcL r).toArray 34)) := (Below.refl _ _).alloc (Nat.le_refl _) _
    have G := qH (RB.new wb HIN.out.hash)
    replace T := qH (T.out.to hal)
    clear hal
    generalize wb.alloc (.cells (rcL r).toArray 34) = wc at *
    generalize wb.heap.size = q at *
    cases b
    ·have T2 := qH (T.out.keep0 HE.out (HCN.out (by trivial)))
     go_wp2_with fail
     go_roundw
     case rel => exact ⟨0 + 1, _, _, by decide, by go_num, T2.out⟩
     case measure => simp [intOf]
    ·have HM := qH (HMY.out (by trivial))
     go_wp2_with (first | (refine wpList_load_rowGm (by rfl) 34 _ rfl q rfl 34 (rcL r).toArray (0, 0) _ G.out.row Tryz.underlying34 rfl S1.out ?_) | (refine wpList_load_row rfl 34 _ rfl q rfl 34 (rcL r).toArray (0, 0) _ G.out.row Tryz.underlying34 rfl S1.out ?_))
     refine (cPlace r wc HIN.out.hash (by have := (cmMay_iff.1 HM.out).1; omega)).mono ?_
     rintro e wd ⟨rfl, hb⟩
     replace T := qH (T.out.to hb)
     replace G := qH (G.out.to hb)
     clear hb
     by_cases hp : r.seq % 2 = 0
     ·have T2 := qH (T.out.put0 HE.out (HCY.out (by trivial) hp) HIN.out.hash)
      have TH : Hid (wd.there g 0 (rcL r).toArray.size) := T.out.hb.there (by rw [rcL_size HIN.out.hash]; decide)
      rw [hp]
      go_wp2_with (first | (refine wpList_load_row rfl 34 _ rfl q rfl 34 (rcL r).toArray (0, 0) _ G.out.row Tryz.underlying34 rfl S1.out ?_) | (refine wpList_store_mid rfl 34 _ _ rfl g 0 (rcL r).toArray rfl rfl TH.out S1.out (rc_one _) ?_))
      go_roundw
      case rel => exact ⟨0 + 1, _, _, by decide, by go_num, T2.out⟩
      case measure => simp [intOf]
     ·have T2 := qH (T.out.keep0 HE.out (HCO.out hp))
      have hq : (r.seq % 2 == 0) = false := beq_eq_false_iff_ne.2 hp
      go_wp2_with fail
      go_roundw
      case rel => exact ⟨0 + 1, _, _, by decide, by go_num, T2.out⟩
      case measure => simp [intOf]
   ·have HR : Hid (cmTwo s = (Rcd.zero, y, (s.read 0).2)) := by
     show _ = _
     rw [HT.out, if_pos he, T.out.nty (by decide)]
    have hne : ((s.read 0).2 != 0) = true := bne_iff_ne.2 he
    clear RD CP
    generalize (s.read 0).2 = ev at *
    have S7 := qH (rc2_size T.out.hb.1 T.out.hb.2.1)
    have SZ : Hid ((rcL Rcd.zero ++ rcL Rcd.zero).toArray.size = (rcL Rcd.zero ++ rcL y).toArray.size) := by (show _ = _); rw [List.size_toArray, List.size_toArray, rc2_len rfl rfl, rc2_len T.out.hb.1 T.out.hb.2.1]
    go_wp2_with (first | (refine wpList_load_row rfl 80 _ rfl g rfl 80 (rcL Rcd.zero ++ rcL y).toArray (0, 0) _ T.out.hb.row Tryz.underlying80 rfl S7.out ?_) | (refine wpList_store_row rfl 80 _ _ rfl w.heap.size (rcL Rcd.zero ++ rcL y).toArray rfl rfl 80 (rcL Rcd.zero ++ rcL Rcd.zero).toArray T.out.zb.row S7.out SZ.out (rc2_one _ _) ?_))
    (try simp only [Exit.inBlock, Exit.then])
    refine bodyPost_ret (res_rc2 rfl _ _ w.heap.size Rcd.zero y (.int .i64 ev) rfl rfl ⟨T.out.hb.1, T.out.hb.2.1, setRow_heap _ _ _ _ _ _ T.out.zb.2.2⟩) rfl ?_
    exact ⟨by rw [HR.out], below_setRow T.out.bel (Nat.le_refl _) _⟩
  ·obtain rfl := T.out.nty (by decide)
   have HD := qH (H0.out.kept (R := fun j => w.heap.size ≤ j) (keep_of_belowC T.out.bel) (fun j hj hh => by have := H0.out.lt j hj; omega))
   go_wp2_with fail
   refine (dRead d F s (1 : Int) wr HD.out).mono ?_
   rintro e wa ⟨A3, n3, c3, rfl, hown, hb⟩
   replace T := qH (T.out.to hb)
   have RD := qH (Rd.of_own hown)
   have CP := qH (own_cap hown)
   clear hown hb HD
   by_cases he : (s.read 1).2 = 0
   ·have HE := qH he
    rw [he]
    clear he
    go_upto_region 8 with (fail)
    go_wp2_with fail
    refine (cOpen A3 n3 c3 (s.read 1).1 wa RD.out CP.out.1 CP.out.2).mono ?_
    rintro e wb ⟨rfl, hb⟩
    replace T := qH (T.out.to hb)
    clear hb RD CP
    have HIN := qH (cmRec_in (s.read 1).1)
    have S1 := qH (rc_size HIN.out.hash)
    have SZ : Hid ((rcL Rcd.zero).toArray.size = (rcL (cmRec (s.read 1).1)).toArray.size) := by (show _ = _); rw [rcL_size rfl, rcL_size HIN.out.hash]
    have HCY := qH (fun h1 h2 => cmAt_yes (i := 1) (s := (s.read 1).1) h1 h2)
    have HCN := qH (fun h1 => cmAt_no (i := 1) (s := (s.read 1).1) h1)
    have HCO := qH (fun h1 => cmAt_off (i := 1) (s := (s.read 1).1) h1)
    have HMY := qH (fun h1 => cmIs_may (s := (s.read 1).1) h1)
    generalize cmRec (s.read 1).1 = r at *
    generalize cmIs (s.read 1).1 = b at *
    go_upto_region 9 with (refine wpList_store_row rfl 34 _ _ rfl wb.heap.size (rcL r).toArray rfl rfl 34 (rcL Rcd.zero).toArray (heap_alloc_last wb _) S1.out SZ.out (rc_one _) ?_; rw [World.setRow_alloc_new])
    have hal : Below wb.heap.size wb (wb.alloc (.cells (rcL r).toArray 34)) := (Below.refl _ _).alloc (Nat.le_refl _) _
    have G := qH (RB.new wb HIN.out.hash)
    replace T := qH (T.out.to hal)
    clear hal
    generalize wb.alloc (.cells (rcL r).toArray 34) = wc at *
    generalize wb.heap.size = q at *
    cases b
    ·have T2 := qH (T.out.keep1 HE.out (HCN.out (by trivial)))
     go_wp2_with fail
     go_roundw
     case rel => exact ⟨1 + 1, _, _, by decide, by go_num, T2.out⟩
     case measure => simp [intOf]
    ·have HM := qH (HMY.out (by trivial))
     go_wp2_with (first | (refine wpList_load_rowGm (by rfl) 34 _ rfl q rfl 34 (rcL r).toArray (0, 0) _ G.out.row Tryz.underlying34 rfl S1.out ?_) | (refine wpList_load_row rfl 34 _ rfl q rfl 34 (rcL r).toArray (0, 0) _ G.out.row Tryz.underlying34 rfl S1.out ?_))
     refine (cPlace r wc HIN.out.hash (by have := (cmMay_iff.1 HM.out).1; omega)).mono ?_
     rintro e wd ⟨rfl, hb⟩
     replace T := qH (T.out.to hb)
     replace G := qH (G.out.to hb)
     clear hb
     by_cases hp : r.seq % 2 = 1
     ·have T2 := qH (T.out.put1 HE.out (HCY.out (by trivial) hp) HIN.out.hash)
      have TH : Hid (wd.there g 36 (rcL r).toArray.size) := T.out.hb.there (by rw [rcL_size HIN.out.hash]; decide)
      rw [hp]
      go_wp2_with (first | (refine wpList_load_row rfl 34 _ rfl q rfl 34 (rcL r).toArray (0, 0) _ G.out.row Tryz.underlying34 rfl S1.out ?_) | (refine wpList_store_mid rfl 34 _ _ rfl g 36 (rcL r).toArray rfl rfl TH.out S1.out (rc_one _) ?_))
      go_roundw
      case rel => exact ⟨1 + 1, _, _, by decide, by go_num, T2.out⟩
      case measure => simp [intOf]
     ·have T2 := qH (T.out.keep1 HE.out (HCO.out hp))
      have hq : (r.seq % 2 == 1) = false := beq_eq_false_iff_ne.2 hp
      go_wp2_with fail
      go_roundw
      case rel => exact ⟨1 + 1, _, _, by decide, by go_num, T2.out⟩
      case measure => simp [intOf]
   ·have HR : Hid (cmTwo s = (x, Rcd.zero, (s.read 1).2)) := by
     show _ = _
     obtain ⟨e0, hx⟩ := T.out.one (by decide)
     rw [HT.out, if_neg (fun h => h e0), if_pos he, hx]
    have hne : ((s.read 1).2 != 0) = true := bne_iff_ne.2 he
    clear RD CP
    generalize (s.read 1).2 = ev at *
    have S7 := qH (rc2_size T.out.hb.1 T.out.hb.2.1)
    have SZ : Hid ((rcL Rcd.zero ++ rcL Rcd.zero).toArray.size = (rcL x ++ rcL Rcd.zero).toArray.size) := by (show _ = _); rw [List.size_toArray, List.size_toArray, rc2_len rfl rfl, rc2_len T.out.hb.1 T.out.hb.2.1]
    go_wp2_with (first | (refine wpList_load_row rfl 80 _ rfl g rfl 80 (rcL x ++ rcL Rcd.zero).toArray (0, 0) _ T.out.hb.row Tryz.underlying80 rfl S7.out ?_) | (refine wpList_store_row rfl 80 _ _ rfl w.heap.size (rcL x ++ rcL Rcd.zero).toArray rfl rfl 80 (rcL Rcd.zero ++ rcL Rcd.zero).toArray T.out.zb.row S7.out SZ.out (rc2_one _ _) ?_))
    (try simp only [Exit.inBlock, Exit.then])
    refine bodyPost_ret (res_rc2 rfl _ _ w.heap.size x Rcd.zero (.int .i64 ev) rfl rfl ⟨T.out.hb.1, T.out.hb.2.1, setRow_heap _ _ _ _ _ _ T.out.zb.2.2⟩) rfl ?_
    exact ⟨by rw [HR.out], below_setRow T.out.bel (Nat.le_refl _) _⟩
  ·obtain rfl : k = 0 := by omega
   obtain ⟨e0, hx⟩ := T.out.one (by omega)
   obtain ⟨e1, hy⟩ := T.out.two (by omega)
   have HR : Hid (cmTwo s = (x, y, 0)) := by
    show _ = _
    rw [HT.out, if_neg (fun h => h e0), if_neg (fun h => h e1), hx, hy]
   clear hx hy e0 e1
   have S7 := qH (rc2_size T.out.hb.1 T.out.hb.2.1)
   have SZ : Hid ((rcL Rcd.zero ++ rcL Rcd.zero).toArray.size = (rcL x ++ rcL y).toArray.size) := by (show _ = _); rw [List.size_toArray, List.size_toArray, rc2_len rfl rfl, rc2_len T.out.hb.1 T.out.hb.2.1]
   go_wp2_with (first | (refine wpList_load_row rfl 80 _ rfl g rfl 80 (rcL x ++ rcL y).toArray (0, 0) _ T.out.hb.row Tryz.underlying80 rfl S7.out ?_) | (refine wpList_store_row rfl 80 _ _ rfl w.heap.size (rcL x ++ rcL y).toArray rfl rfl 80 (rcL Rcd.zero ++ rcL Rcd.zero).toArray T.out.zb.row S7.out SZ.out (rc2_one _ _) ?_))
   (try simp only [Exit.inBlock, Exit.then])
   refine bodyPost_ret (res_rc2 rfl _ _ w.heap.size x y (.int .i64 0) rfl rfl ⟨T.out.hb.1, T.out.hb.2.1, setRow_heap _ _ _ _ _ _ T.out.zb.2.2⟩) rfl ?_
   exact ⟨by rw [HR.out], below_setRow T.out.bel (Nat.le_refl _) _⟩
theorem cRecordsNo (q : Option Addr) (w : World) (h : DkNo w (.pointer q)) :
  Calls Tryz.prog 38 #[.pointer q] w fun e w' => e = .returned (.tuple #[.agg (rcL Rcd.zero ++ rcL Rcd.zero).toArray, .int .i64 1]) ∧ Below w.heap.size w w' := by
 have hz := rc_zero
 have hz2 := rc2_zero
 have b1 : Below w.heap.size w (w.alloc (.cells (rcL Rcd.zero ++ rcL Rcd.zero).toArray 80)) := (Below.refl _ _).alloc (Nat.le_refl _) _
 have HS : Hid ((w.alloc (.cells (rcL Rcd.zero ++ rcL Rcd.zero).toArray 80)).heap.size = w.heap.size + 1) := by (show _ = _); simp
 have Z1 := qH (HB.new w (x := Rcd.zero) (y := Rcd.zero) rfl rfl)
 have B1 := qH b1
 have S7 := qH (rc2_size (x := Rcd.zero) (y := Rcd.zero) rfl rfl)
 have H0 := qH h
 clear h b1
 go_enter Tryz.func38, Tryz.ntmps38
 go_upto_region 1 with (fail)
 generalize w.alloc (.cells (rcL Rcd.zero ++ rcL Rcd.zero).toArray 80) = w1 at *
 have hal : Below w1.heap.size w1 (w1.alloc (.cells (rcL Rcd.zero ++ rcL Rcd.zero).toArray 80)) := (Below.refl _ _).alloc (Nat.le_refl _) _
 have HB2 := qH (HB.new w1 (x := Rcd.zero) (y := Rcd.zero) rfl rfl)
 have Z2 := qH (Z1.out.to hal)
 have B2 := qH (B1.out.trans (hal.mono B1.out.size))
 clear hal Z1 B1 HS
 go_upto_region 2 with (fail)
 generalize w1.alloc (.cells (rcL Rcd.zero ++ rcL Rcd.zero).toArray 80) = w2 at *
 generalize w1.heap.size = g at *
 clear w1
 go_wp2_with fail
 go_loopw [10] (fun i wr => i = .int .i64 0 ∧ wr = w2) (fun i _ => 2 - (intOf i).toNat)
 case atStart => exact ⟨rfl, rfl⟩
 case round =>
  obtain ⟨rfl, rfl⟩ := hrel
  go_wp2_with fail
  refine (dReadNo (.pointer q) 0 wr (H0.out.to B2.out)).mono ?_
  rintro e wa ⟨rfl, rfl⟩
  go_wp2_with (first | (refine wpList_load_row rfl 80 _ rfl g rfl 80 (rcL Rcd.zero ++ rcL Rcd.zero).toArray (0, 0) _ HB2.out.row Tryz.underlying80 rfl S7.out ?_) | (refine wpList_store_row rfl 80 _ _ rfl w.heap.size (rcL Rcd.zero ++ rcL Rcd.zero).toArray rfl rfl 80 (rcL Rcd.zero ++ rcL Rcd.zero).toArray Z2.out.row S7.out rfl (rc2_one _ _) ?_))
  (try simp only [Exit.inBlock, Exit.then])
  refine bodyPost_ret (res_rc2 rfl _ _ w.heap.size Rcd.zero Rcd.zero (.int .i64 1) rfl rfl ⟨rfl, rfl, setRow_heap _ _ _ _ _ _ Z2.out.2.2⟩) rfl ?_
  exact ⟨rfl, below_setRow B2.out (Nat.le_refl _) _⟩
end Go.Proofs.YtffdjnhhmfpkgaaGreat