/- For any number, any records, one more record, any operation, any bytes the law CommitOne of citadellaw16 returns true: whatever crashes in a Put of a record whose Seqn is one more than the last one's, behind it the last record is that one, or the one that was. Conditions: none beyond those that the statement itself prints. -/
import Derived.Test.YtffdjnhhmfpkgaaGreatTz
import Derived.Test.YtffdjnhhmfpkgaaGreatRows
import Derived.Test.YtffdjnhhmfpkgaaGreatCmY
import Derived.Test.YtffdjnhhmfpkgaaGreatCmZ
import Derived.Deep.RegionHeld
import Derived.SizedLaws
import Derived.WalkKit
import Derived.ProofKit
import Derived.OpenShut
import Derived.ShutString
import Derived.ChangeOld
import Derived.Below
namespace Go.Proofs.YtffdjnhhmfpkgaaGreat.commitOne
set_option maxRecDepth 1000000
set_option maxHeartbeats 8000000
open Go.ChangeShapes Go.WideShapes Go.ChangeAt Go.RowKit
open Go.ChangeMaps (open_string shut_string)
set_option linter.unusedVariables false
set_option linter.unusedSimpArgs false
theorem own : ownKnob Tryz.prog.godebug = none := by kernel_rfl
theorem laidOut : laidOutB Tryz.prog = true := by kernel_rfl
theorem walk (a0 : Int) (a1 : Option Addr) (len1 cap1 : Nat) (l1 : List Rcd) (x2 : Rcd) (a3 : Int) (a4 : Option Addr) (len4 cap4 : Nat) (z4 : List Int) (w : World) (w0 : (Lit.int .i64 a0).wf = true) (w1 : RdRL w w.heap.size a1 len1 l1 ∧ len1 ≤ cap1 ∧ cap1 * 64 ≤ 140737488351232) (w2 : x2.In) (w3 : (Lit.int .i64 a3).wf = true) (w4 : IsRow .u8 w a4 len4 cap4 z4) :
  Calls Tryz.prog 5 #[.int .i64 a0, .slice a1 len1 cap1, .agg (rcL x2).toArray, .int .i64 a3, .slice a4 len4 cap4] w fun e w' => e = .returned (.bool true) ∧ Below w.heap.size w w' := by
 obtain ⟨r1, hcap1, hcap1'⟩ := w1
 obtain ⟨r4, hcap4, hcap4'⟩ := w4.rd
 obtain ⟨ha3, ha3'⟩ := wf_i64 w3
 have HLEN1 : Hid (len1 ≤ 140737488351232) := by show _ ≤ _; omega
 have HA3 : Hid (a3 ≤ 9223372036854775807) := ha3'
 have HC4 : Hid (len4 ≤ cap4 ∧ cap4 ≤ 9223372036854775807) := ⟨hcap4, hcap4'⟩
 have HI := qH w2
 generalize bytesIn (z4.take len4) = st at r4
 have b0 : Below w.heap.size w (w.alloc (.cells (rcL x2).toArray 34)) := (Below.refl _ _).alloc (Nat.le_refl _) _
 have RS0 := qH r4
 have R := qH (r1.to b0)
 have RS := qH (r4.to b0)
 have G7 := qH (RB.new w HI.out.hash)
 have HG7 : Hid (w.heap.size < (w.alloc (.cells (rcL x2).toArray 34)).heap.size) := by (show _ < _); simp
 clear w0 w2 w3 w4 r1 hcap1 hcap1' r4 hcap4 hcap4' ha3 ha3'
 have hz := rc_zero
 go_enter Tryz.func5, Tryz.ntmps5
 go_upto_region 1 with (fail)
 generalize w.alloc (.cells (rcL x2).toArray 34) = W1 at *
 have B0 := qH b0
 clear b0
 obtain ⟨g7, hg7⟩ : ∃ x, w.heap.size = x := ⟨_, rfl⟩
 rw [hg7] at G7 HG7 ⊢
 go_wp2_with fail
 refine (lAwake16 W1).mono ?_
 rintro e wA ⟨rfl, hb⟩
 have BA := qH (B0.out.trans (hb.mono B0.out.size))
 have RA := qH (R.out.to hb)
 have RSA := qH (RS.out.to hb)
 replace G7 := qH (G7.out.to hb)
 have HG7A : Hid (g7 < wA.heap.size) := Nat.lt_of_lt_of_le HG7.out hb.size
 clear RS HG7 B0
 clear hb R
 go_wp2_with fail
 refine (lRows a0 a1 len1 cap1 l1 wA RA.out HLEN1.out).mono ?_
 rintro e wB (⟨rfl, hb⟩ | ⟨d, F, A, c, rfl, h1, h2, h20, hs⟩)
 ·have BZ := qH (BA.out.trans (hb.mono BA.out.size))
  clear hb
  go_wp2_with fail
  go_ret
  exact ⟨rfl, BZ.out⟩
 have HS := qH hs
 have BB := qH (BA.out.trans (hs.bel.mono BA.out.size))
 have RSB := qH (RSA.out.to hs.bel)
 replace G7 := qH (G7.out.to hs.bel)
 clear RSA
 have HL20 : Hid (len1 ≤ 20) := h20
 have HFR : Hid (1 ≤ a0 ∧ a0 ≤ 1099511627776) := ⟨h1, h2⟩
 clear h1 h2 h20 hs
 by_cases hn0 : len1 = 0
 ·subst hn0
  go_wp2_with fail
  go_ret
  exact ⟨rfl, BB.out⟩
 obtain ⟨m, hm⟩ : ∃ m, len1 = m + 1 := ⟨len1 - 1, by omega⟩
 have HM := qH hm
 have HO := qH (rows_own HS.out (by omega))
 obtain ⟨g, hA, hgl, hrow⟩ := HO.out
 subst hA
 have HROW := qH hrow
 have HGL : Hid (g < wB.heap.size) := hgl
 have HMAY := qH (fun j (hj : j ≤ m) => HS.out.may j (by omega))
 have HD := qH (show DkAt wB d F (sN a0 l1 (m + 1)) by rw [← hm]; exact HS.out.dk)
 have HFB := qH HS.out.fb
 have hlen0 : ((len1 : Int) == 0) = false := beq_eq_false_iff_ne.2 (by omega)
 have hlen1 : ¬ (len1 : Int) = 0 := by omega
 have HX1 := qH (HROW.out m (by omega))
 have HX2 := qH (fun h : ¬ m = 0 => HROW.out (m - 1) (by omega))
 clear hrow hgl HROW HO HS RA hm
 have hw1 : IntKind.i64.wrap ((len1 : Int) - 1) = (m : Int) := by rw [IntKind.wrap_i64]; have := HL20.out; have := HM.out; omega
 have hw1b : (len1 : Int) - 1 = (m : Int) := by have := HM.out; omega
 have hml : (m : Int) < (len1 : Int) := by have := HM.out; omega
 have hw1c : IntKind.i64.wrap (m : Int) = (m : Int) := by rw [IntKind.wrap_i64]; have := HL20.out; have := HM.out; omega
 have hm0 : (0 : Int) ≤ (m : Int) := by omega
 by_cases c5 : (len4 : Int) > 5
 ·go_wp2_with fail
  go_ret
  exact ⟨rfl, BB.out⟩
 by_cases c6 : a3 < 1
 ·go_wp2_with fail
  go_ret
  exact ⟨rfl, BB.out⟩
 have HA1 : Hid (1 ≤ a3) := by show _ ≤ _; omega
 have HXI := qH (HMAY.out m (Nat.le_refl m)).2
 have HXS : Hid ((rN a0 l1 m).seq = a0 + m) := rfl
 have hu := Tryz.underlying34
 have SXL : Hid ((Tryz.prog.info? 34).map (·.size) = some (rcL (rN a0 l1 m)).length) := by (show _ = _); rw [rc_size HXI.out.hash, List.size_toArray]
 have SX := qH (rc_size HXI.out.hash)
 have ZX := qH (rc_same HXI.out.hash)
 go_upto_region 7 with (first | (refine wpList_load_mid rfl 34 _ rfl g (m * 36) rfl (rcL (rN a0 l1 m)) _ HX1.out hu rfl SXL.out ?_) | (refine wpList_store_row rfl 34 _ _ rfl wB.heap.size (rcL (rN a0 l1 m)).toArray rfl rfl 34 (rcL Rcd.zero).toArray (heap_alloc_last wB _) SX.out ZX.out (rc_one _) ?_; rw [World.setRow_alloc_new]))
 clear hlen0 hlen1 hw1 hw1b hml hw1c hm0 c5 c6 hn0 hu SXL ZX HX1 HX2
 have hal : Below wB.heap.size wB (wB.alloc (.cells (rcL (rN a0 l1 m)).toArray 34)) := (Below.refl _ _).alloc (Nat.le_refl _) _
 have G14 := qH (RB.new wB HXI.out.hash)
 have N14 : Hid (¬ F wB.heap.size ∧ g7 ≠ wB.heap.size) := ⟨fun hf => Nat.lt_irrefl _ (HD.out.lt _ hf), Nat.ne_of_lt G7.out.lt⟩
 have N7 : Hid (¬ F g7) := fun hf => by have := HFB.out _ hf; have := HG7A.out; omega
 replace G7 := qH (G7.out.to hal)
 replace HD := qH (HD.out.to hal)
 replace RSB := qH (RSB.out.to hal)
 replace BB := qH (BB.out.trans (hal.mono BB.out.size))
 have HFW : Hid (∀ k, F k → w.heap.size ≤ k) := fun k hk => Nat.le_trans BA.out.size (HFB.out k hk)
 have OST : Hid (Off a4 len4 F) := RS0.out.off HFW.out
 clear hal HFB HG7A
 generalize wB.alloc (.cells (rcL (rN a0 l1 m)).toArray 34) = wC at *
 generalize wB.heap.size = g14 at *
 have hsum : IntKind.i64.wrap ((rN a0 l1 m).seq + 1) = (rN a0 l1 m).seq + 1 := by rw [IntKind.wrap_i64, HXS.out]; have := HFR.out; have := HL20.out; have := HM.out; omega
 obtain ⟨y0, -⟩ := G14.out.cells
 obtain ⟨y1, -⟩ := G7.out.cells
 have f1 := G7.out.fz 0
 go_upto_region 8 with (fail)
 have HKS := qH (show Keep (· = g7) wC (wC.setCell ⟨g7, 0, none⟩ (.int .i64 ((rN a0 l1 m).seq + 1))) from (Keep.refl _ _).setCell _ _ rfl)
 replace G7 := qH (G7.out.setSeq ((rN a0 l1 m).seq + 1))
 replace G14 := qH (G14.out.kept HKS.out (fun e => N14.out.2 e.symm))
 replace HD := qH (HD.out.kept HKS.out (fun k hk e => N7.out (by rw [← e]; exact hk)))
 replace RSB := qH (RS0.out.to (HKS.out.below BB.out BB.out.size (fun k e => by omega)))
 replace BB := qH (HKS.out.below BB.out BB.out.size (fun k e => by omega))
 clear y0 y1 f1 HKS hsum
 have HRI : Hid (Rcd.In ⟨(rN a0 l1 m).seq + 1, x2.slot, x2.len, x2.trial, x2.hash⟩) := ⟨by show inI ((rN a0 l1 m).seq + 1); rw [HXS.out]; unfold inI; have := HFR.out; have := HL20.out; have := HM.out; omega, HI.out.slot, HI.out.len, HI.out.hash⟩
 have HRS : Hid ((⟨(rN a0 l1 m).seq + 1, x2.slot, x2.len, x2.trial, x2.hash⟩ : Rcd).seq = a0 + m + 1) := by (show _ + 1 = _); rw [HXS.out]
 generalize wC.setCell ⟨g7, 0, none⟩ (.int .i64 ((rN a0 l1 m).seq + 1)) = wD at *
 generalize (⟨(rN a0 l1 m).seq + 1, x2.slot, x2.len, x2.trial, x2.hash⟩ : Rcd) = r at *
 have SR := qH (rc_size HRI.out.hash)
 have HNE : Hid (rN a0 l1 m ≠ r) := by
  (show _ ≠ _)
  intro e
  have h1 := HXS.out
  have h2 := HRS.out
  rw [e] at h1
  omega
 have BX : Hid (Bxs wD F [(g7, r), (g14, rN a0 l1 m)]) := fun p hp => by
  rcases List.mem_cons.1 hp with rfl | hp
  ·exact ⟨G7.out, N7.out⟩
  ·obtain rfl : p = (g14, rN a0 l1 m) := by simpa using hp
   exact ⟨G14.out, N14.out.1⟩
 clear G7 G14 N7 N14
 go_wp2_with (refine wpList_load_row rfl 34 _ rfl g7 rfl 34 (rcL r).toArray (0, 0) _ (BX.out.row (List.Mem.head _)) Tryz.underlying34 rfl SR.out ?_)
 refine (cMay r wD HRI.out.hash).mono ?_
 rintro e wE ⟨rfl, hb⟩
 replace BX := qH (BX.out.to hb)
 replace HD := qH (HD.out.to hb)
 replace RSB := qH (RSB.out.to hb)
 replace BB := qH (BB.out.trans (hb.mono BB.out.size))
 have HWE : Hid (w.heap.size ≤ wE.heap.size) := BB.out.size
 clear hb
 cases hm : cmMay r
 ·go_wp2_with fail
  go_ret
  exact ⟨rfl, BB.out⟩
 obtain ⟨ev, s1, hput, hl3, hcase⟩ := one_more (fr := a0) (l := l1) (k := m) (n := a3.toNat) (r := r) (st := st) HMAY.out hm HRI.out HRS.out (by have := HA1.out; omega)
 have HPUT := qH hput
 have HL3 := qH hl3
 have HCASE := qH hcase
 have HARM := qH (arm_sN a0 l1 (m + 1) HA1.out st)
 have HPOS : Hid (0 < (sN a0 l1 (m + 1)).L.length) := sN_pos _ _ _
 have HYI : Hid ((if m = 0 then Rcd.zero else rN a0 l1 (m - 1)).In) := by
  show Rcd.In _
  split
  ·exact Rcd.In.zero
  ·exact (HMAY.out (m - 1) (Nat.sub_le _ _)).2
 clear hm hput hl3 hcase HMAY HXS HRS
 generalize (if m = 0 then Rcd.zero else rN a0 l1 (m - 1)) = y at *
 generalize rN a0 l1 m = x at *
 generalize sN a0 l1 (m + 1) = s0 at *
 go_wp2_with fail
 refine (dArm d F s0 a3 a4 len4 cap4 st wE HD.out HA3.out RSB.out HC4.out.1 HC4.out.2).mono ?_
 rw [HARM.out]
 rintro e wF ⟨rfl, F1, h7, h8, h9⟩
 replace BX := qH (BX.out.step h8 h9)
 replace HD := qH h7
 replace BB := qH (h9.below BB.out BB.out.size HFW.out)
 have HF1 : Hid (∀ k, F1 k → w.heap.size ≤ k) := fun k hk => (h8 k hk).elim (HFW.out k) (fun h => Nat.le_trans HWE.out h)
 clear h7 h8 h9
 go_wp2_with (refine wpList_load_row rfl 34 _ rfl g7 rfl 34 (rcL r).toArray (0, 0) _ (BX.out.row (List.Mem.head _)) Tryz.underlying34 rfl SR.out ?_)
 refine (cPut d F1 _ r wF HD.out HPOS.out HRI.out.hash).mono ?_
 rw [HPUT.out]
 rintro e wG ⟨rfl, F2, h7, h8, h9⟩
 have HFS : Hid (w.heap.size ≤ wF.heap.size) := BB.out.size
 replace BX := qH (BX.out.step h8 h9)
 replace HD := qH h7
 replace BB := qH (h9.below BB.out BB.out.size HF1.out)
 have HF2 : Hid (∀ k, F2 k → w.heap.size ≤ k) := fun k hk => (h8 k hk).elim (HF1.out k) (fun h => Nat.le_trans HFS.out h)
 clear h7 h8 h9 HPUT HARM HF1 HFW HFS RSB
 go_wp2_with fail
 refine (dUp d F2 s1 wG HD.out).mono ?_
 rintro e wH ⟨rfl, rfl⟩
 rcases HCASE.out with ⟨rfl, h2, hup, hg⟩ | ⟨rfl, h2, hup, s2, hst, hg⟩
 ·rw [hup]
  have hA : a3 > 2 := by omega
  clear h2 hup HCASE
  have HGZ := qH hg
  clear hg
  go_wp2_with fail
  refine (cGet d F2 s1 wG HD.out).mono ?_
  rw [HGZ.out]
  rintro e wx ⟨rfl, hb⟩
  obtain ⟨t1, t2, t3, t4, t5⟩ := tw_is wx HRI.out.hash HXI.out.hash
  have T1 := qH t1
  have T2 := qH t2
  have T3 := qH t3.row
  have T4 := qH t4.row
  replace BX := qH ((BX.out.to hb).to t5)
  have H7 := qH (BX.out.row (List.Mem.head _))
  have H14 := qH (BX.out.row (List.Mem.tail _ (List.Mem.head _)))
  replace BB := qH (BB.out.trans ((hb.trans (t5.mono hb.size)).mono BB.out.size))
  clear hb t1 t2 t3 t4 t5 BX HD
  go_upto_region 15 with (first | (refine wpList_store_row rfl 34 _ _ rfl wx.heap.size (rcL r).toArray rfl rfl 34 (rcL Rcd.zero).toArray T1.out (rc_size HRI.out.hash) (rc_same HRI.out.hash) (rc_one _) ?_) | (refine wpList_store_row rfl 34 _ _ rfl (wx.heap.size + 1) (rcL x).toArray rfl rfl 34 (rcL Rcd.zero).toArray T2.out (rc_size HXI.out.hash) (rc_same HXI.out.hash) (rc_one _) ?_))
  have hE : (((wx.alloc (.cells (rcL Rcd.zero).toArray 34)).alloc (.cells (rcL Rcd.zero).toArray 34)).setRow wx.heap.size (rcL r).toArray).setRow (wx.heap.size + 1) (rcL x).toArray = tw2 wx r x := rfl
  rw [hE]
  clear hE T1 T2
  generalize tw2 wx r x = w7 at *
  generalize wx.heap.size + 1 = gq at *
  generalize wx.heap.size = gp at *
  go_wp2_with (first
   | (refine wpList_load_rowGm (by rfl) 34 _ rfl gp rfl 34 (rcL r).toArray (0, 0) _ T3.out Tryz.underlying34 rfl SR.out ?_; refine wpList_load_rowGm (by rfl) 34 _ rfl g7 rfl 34 (rcL r).toArray (0, 0) _ H7.out Tryz.underlying34 rfl SR.out ?_; refine wpList_eqB (by rfl) _ _ rfl r r rfl rfl HRI.out.hash HRI.out.hash true (decide_eq_true rfl) ?_)
   | (refine wpList_load_rowGm (by rfl) 34 _ rfl gq rfl 34 (rcL x).toArray (0, 0) _ T4.out Tryz.underlying34 rfl SX.out ?_; refine wpList_load_rowGm (by rfl) 34 _ rfl g14 rfl 34 (rcL x).toArray (0, 0) _ H14.out Tryz.underlying34 rfl SX.out ?_; refine wpList_eqB (by rfl) _ _ rfl x x rfl rfl HXI.out.hash HXI.out.hash true (decide_eq_true rfl) ?_))
  go_ret
  exact ⟨rfl, BB.out⟩
 ·rw [hup]
  have hA : ¬ a3 > 2 := by have := HA1.out; omega
  have HST := qH hst
  have HGZ := qH hg
  clear h2 hup HCASE hst hg
  go_wp2_with fail
  refine (dStart d F2 s1 wG HD.out).mono ?_
  rw [HST.out]
  rintro e wS ⟨rfl, F3, h7, h8, h9⟩
  replace BX := qH (BX.out.step h8 h9)
  replace HD := qH h7
  replace BB := qH (h9.below BB.out BB.out.size HF2.out)
  clear h7 h8 h9 HST
  go_wp2_with fail
  rcases HGZ.out with hg | hg
  ·have HG1 := qH hg
   clear hg HGZ
   refine (cGet d F3 s2 wS HD.out).mono ?_
   rw [HG1.out]
   rintro e wx ⟨rfl, hb⟩
   obtain ⟨t1, t2, t3, t4, t5⟩ := tw_is wx HRI.out.hash HXI.out.hash
   have T1 := qH t1
   have T2 := qH t2
   have T3 := qH t3.row
   have T4 := qH t4.row
   replace BX := qH ((BX.out.to hb).to t5)
   have H7 := qH (BX.out.row (List.Mem.head _))
   have H14 := qH (BX.out.row (List.Mem.tail _ (List.Mem.head _)))
   replace BB := qH (BB.out.trans ((hb.trans (t5.mono hb.size)).mono BB.out.size))
   clear hb t1 t2 t3 t4 t5 BX HD
   go_upto_region 15 with (first | (refine wpList_store_row rfl 34 _ _ rfl wx.heap.size (rcL r).toArray rfl rfl 34 (rcL Rcd.zero).toArray T1.out (rc_size HRI.out.hash) (rc_same HRI.out.hash) (rc_one _) ?_) | (refine wpList_store_row rfl 34 _ _ rfl (wx.heap.size + 1) (rcL x).toArray rfl rfl 34 (rcL Rcd.zero).toArray T2.out (rc_size HXI.out.hash) (rc_same HXI.out.hash) (rc_one _) ?_))
   have hE : (((wx.alloc (.cells (rcL Rcd.zero).toArray 34)).alloc (.cells (rcL Rcd.zero).toArray 34)).setRow wx.heap.size (rcL r).toArray).setRow (wx.heap.size + 1) (rcL x).toArray = tw2 wx r x := rfl
   rw [hE]
   clear hE T1 T2
   generalize tw2 wx r x = w7 at *
   generalize wx.heap.size + 1 = gq at *
   generalize wx.heap.size = gp at *
   go_wp2_with (first
    | (refine wpList_load_rowGm (by rfl) 34 _ rfl gp rfl 34 (rcL r).toArray (0, 0) _ T3.out Tryz.underlying34 rfl SR.out ?_; refine wpList_load_rowGm (by rfl) 34 _ rfl g7 rfl 34 (rcL r).toArray (0, 0) _ H7.out Tryz.underlying34 rfl SR.out ?_; refine wpList_eqB (by rfl) _ _ rfl r r rfl rfl HRI.out.hash HRI.out.hash true (decide_eq_true rfl) ?_)
    | (refine wpList_load_rowGm (by rfl) 34 _ rfl gq rfl 34 (rcL x).toArray (0, 0) _ T4.out Tryz.underlying34 rfl SX.out ?_; refine wpList_load_rowGm (by rfl) 34 _ rfl g14 rfl 34 (rcL x).toArray (0, 0) _ H14.out Tryz.underlying34 rfl SX.out ?_; refine wpList_eqB (by rfl) _ _ rfl x x rfl rfl HXI.out.hash HXI.out.hash true (decide_eq_true rfl) ?_))
   go_ret
   exact ⟨rfl, BB.out⟩
  ·have HG1 := qH hg
   clear hg HGZ
   refine (cGet d F3 s2 wS HD.out).mono ?_
   rw [HG1.out]
   rintro e wx ⟨rfl, hb⟩
   obtain ⟨t1, t2, t3, t4, t5⟩ := tw_is wx HXI.out.hash HYI.out.hash
   have T1 := qH t1
   have T2 := qH t2
   have T3 := qH t3.row
   have T4 := qH t4.row
   replace BX := qH ((BX.out.to hb).to t5)
   have H7 := qH (BX.out.row (List.Mem.head _))
   have H14 := qH (BX.out.row (List.Mem.tail _ (List.Mem.head _)))
   replace BB := qH (BB.out.trans ((hb.trans (t5.mono hb.size)).mono BB.out.size))
   clear hb t1 t2 t3 t4 t5 BX HD
   go_upto_region 15 with (first | (refine wpList_store_row rfl 34 _ _ rfl wx.heap.size (rcL x).toArray rfl rfl 34 (rcL Rcd.zero).toArray T1.out (rc_size HXI.out.hash) (rc_same HXI.out.hash) (rc_one _) ?_) | (refine wpList_store_row rfl 34 _ _ rfl (wx.heap.size + 1) (rcL y).toArray rfl rfl 34 (rcL Rcd.zero).toArray T2.out (rc_size HYI.out.hash) (rc_same HYI.out.hash) (rc_one _) ?_))
   have hE : (((wx.alloc (.cells (rcL Rcd.zero).toArray 34)).alloc (.cells (rcL Rcd.zero).toArray 34)).setRow wx.heap.size (rcL x).toArray).setRow (wx.heap.size + 1) (rcL y).toArray = tw2 wx x y := rfl
   rw [hE]
   clear hE T1 T2
   generalize tw2 wx x y = w7 at *
   generalize wx.heap.size + 1 = gq at *
   generalize wx.heap.size = gp at *
   go_wp2_with (first
    | (refine wpList_load_rowGm (by rfl) 34 _ rfl gp rfl 34 (rcL x).toArray (0, 0) _ T3.out Tryz.underlying34 rfl SX.out ?_; refine wpList_load_rowGm (by rfl) 34 _ rfl g7 rfl 34 (rcL r).toArray (0, 0) _ H7.out Tryz.underlying34 rfl SR.out ?_; refine wpList_eqB (by rfl) _ _ rfl x r rfl rfl HXI.out.hash HRI.out.hash false (decide_eq_false HNE.out) ?_)
    | (refine wpList_load_rowGm (by rfl) 34 _ rfl gp rfl 34 (rcL x).toArray (0, 0) _ T3.out Tryz.underlying34 rfl SX.out ?_; refine wpList_load_rowGm (by rfl) 34 _ rfl g14 rfl 34 (rcL x).toArray (0, 0) _ H14.out Tryz.underlying34 rfl SX.out ?_; refine wpList_eqB (by rfl) _ _ rfl x x rfl rfl HXI.out.hash HXI.out.hash true (decide_eq_true rfl) ?_))
   go_ret
   exact ⟨rfl, BB.out⟩
theorem lifted (os : Os) (started : os.Started) (H : Type) (enc : TypeId × Value → H) :
  ReturnsInHanded {} Tryz.checked os 5 .any (Rows.commitOneSpec.pre6 enc Tryz.prog Tryz.f5 Rows.commitOneRow.domain false) (Rows.commitOneSpec.post enc Tryz.prog Tryz.f5 false true false false) := by
 refine returnsInHanded_of_change_sized (C := Tryz.checked) own started (by kernel_rfl) Tryz.func5
  (ChangeSpec.witness6 (enc := enc) (C := Tryz.checked) false ⟨#[], #[.int .i64 0, .slice none 0 0, .agg #[.int .i64 0, .int .i64 0, .int .i64 0, .bool false, .int .u8 0, .int .u8 0, .int .u8 0, .int .u8 0, .int .u8 0, .int .u8 0, .int .u8 0, .int .u8 0, .int .u8 0, .int .u8 0, .int .u8 0, .int .u8 0, .int .u8 0, .int .u8 0, .int .u8 0, .int .u8 0, .int .u8 0, .int .u8 0, .int .u8 0, .int .u8 0, .int .u8 0, .int .u8 0, .int .u8 0, .int .u8 0, .int .u8 0, .int .u8 0, .int .u8 0, .int .u8 0, .int .u8 0, .int .u8 0, .int .u8 0, .int .u8 0], .int .i64 0, .slice none 0 0], []⟩ 8 (by kernel_rfl) (by kernel_rfl) (by kernel_rfl) (by kernel_rfl)) ?_
 intro W base args ds gs before hval0 hW hcnd hsz0 _
 have hval : ∀ (j : Nat) t v, Tryz.f5.params[j]? = some t → args[j]? = some v → Value.okWide Tryz.prog W .any base t v := hval0
 have hsz : (DataW.weightsEach Tryz.prog (Tryz.f5.params.toList ++ Rows.commitOneSpec.plain.varTypes Tryz.prog) (ds ++ gs)).all (· ≤ reachBytes) = true := hsz0
 have hW' := hW
 obtain ⟨p, q, hA0, hV, rfl, hfz, hnd⟩ := hW
 have hA : DataW.TrodAll enc Tryz.prog W 0 (fun _ => true) true Tryz.f5.params.toList args.toList ds p := hA0
 rw [Tryz.params5] at hA hval hsz
 obtain ⟨v0, vs0, d0, ds0, p0, q0, hargs, rfl, rfl, h0, r0⟩ := trodAll_cons hA
 obtain ⟨v1, vs1, d1, ds1, p1, q1, rfl, rfl, rfl, h1, r1⟩ := trodAll_cons r0
 obtain ⟨v2, vs2, d2, ds2, p2, q2, rfl, rfl, rfl, h2, r2⟩ := trodAll_cons r1
 obtain ⟨v3, vs3, d3, ds3, p3, q3, rfl, rfl, rfl, h3, r3⟩ := trodAll_cons r2
 obtain ⟨v4, vs4, d4, ds4, p4, q4, rfl, rfl, rfl, h4, r4⟩ := trodAll_cons r3
 obtain ⟨rfl, rfl, rfl⟩ := trodAll_nil r4
 obtain rfl : args = #[v0, v1, v2, v3, v4] := by cases args; simp_all
 obtain ⟨rfl, rfl⟩ := trodVars_none hV
 have sz1 : ∀ x ∈ d1.weights Tryz.prog 65, x ≤ reachBytes := fun x hx => by simpa using List.all_eq_true.1 hsz _ (DataW.weights_mem_each (j := 1) rfl rfl x hx)
 obtain ⟨a0, rfl, rfl, rfl, w0⟩ := open_int Tryz.underlying3 (hval 0 3 v0 rfl rfl) h0
 have k1 := h1
 have lt1 : ∀ x ∈ p1, x.block < W.heap.size := by obtain ⟨m, hm⟩ := k1; exact DataW.trod_lt m _ _ _ hm
 obtain ⟨a1, len1, cap1, l1, rfl, w1⟩ := open_rcs (hval 1 65 v1 rfl rfl) h1 sz1
 have k2 := h2
 have lt2 : ∀ x ∈ p2, x.block < W.heap.size := by obtain ⟨m, hm⟩ := k2; exact DataW.trod_lt m _ _ _ hm
 obtain ⟨x2, rfl, w2⟩ := open_rc (hval 2 34 v2 rfl rfl) h2
 obtain ⟨a3, rfl, rfl, rfl, w3⟩ := open_int Tryz.underlying3 (hval 3 3 v3 rfl rfl) h3
 obtain ⟨a4, len4, cap4, rfl⟩ := okWide_slice Tryz.underlying35 (hval 4 35 v4 rfl rfl)
 have k4 := h4
 have lt4 : ∀ x ∈ p4, x.block < W.heap.size := by obtain ⟨m, hm⟩ := k4; exact DataW.trod_lt m _ _ _ hm
 obtain ⟨z4, w4⟩ : ∃ zs, IsRow .u8 W a4 len4 cap4 zs := by
  obtain ⟨fuel, hf⟩ := h4
  rcases open_ints Tryz.underlying35 Tryz.underlying5 (by kernel_rfl) hf with ⟨hcs, _⟩ | ⟨x, l, c, zs, hcs, _, hl, hm, hz, _, hcell, hwz⟩
  ·simp [Value.cells] at hcs
   obtain ⟨rfl, rfl, rfl⟩ := hcs
   exact ⟨[], .inl ⟨rfl, rfl, rfl, rfl⟩⟩
  ·simp [Value.cells] at hcs
   obtain ⟨rfl, rfl, rfl⟩ := hcs
   exact ⟨zs, .inr ⟨_, rfl, hl, hm, by simpa using hz, hcell, hwz⟩⟩
 clear hA0 hval0
 refine (walk a0 a1 len1 cap1 l1 x2 a3 a4 len4 cap4 z4 W w0 w1 w2 w3 w4).mono fun e W' ⟨he, bel⟩ => ?_
 subst he
 exact ⟨_, rfl, _, _, _, [], _, [], hW', trodAll_mk1 (shut_bool Tryz.underlying4 _), (trodAll_cons_mk (shut_int Tryz.underlying3 w0) (trodAll_cons_mk (Below.trod laidOut (by kernel_rfl) (of_decide_eq_true (by kernel_rfl)) k1 bel lt1) (trodAll_cons_mk (Below.trod laidOut (by kernel_rfl) (of_decide_eq_true (by kernel_rfl)) k2 bel lt2) (trodAll_cons_mk (shut_int Tryz.underlying3 w3) (trodAll_cons_mk (Below.trod laidOut (by kernel_rfl) (of_decide_eq_true (by kernel_rfl)) k4 bel lt4) trodAll_mk0))))), rfl, bel.frame _, fun h => by cases h⟩
theorem over : Rows.commitOneRow.holds Tryz.pinned (OpenSpec.ofChange Rows.commitOneSpec) :=
 OpenClaim.holds_of_wide 5 Tryz.f5 rfl rfl rfl rfl rfl rfl rfl ⟨rfl, rfl, rfl, rfl, rfl⟩ rfl rfl rfl rfl rfl (by kernel_rfl) Tryz.func5 (by kernel_rfl)
  (of_decide_eq_true (by kernel_rfl)) (by unfold Func.isWrapper; first | (rw [if_pos (by decide +kernel)]; kernel_rfl) | (rw [if_neg (by decide +kernel)]; exact ⟨rfl, rfl⟩))
  (fun os started H enc _ => lifted os started H enc)
theorem proved : Rows.CommitOneSaid := over
end Go.Proofs.YtffdjnhhmfpkgaaGreat.commitOne