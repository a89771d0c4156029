/- For any number, any records, any byte's place, any byte the law CommitOther of citadellaw16 returns true: with one byte of the last one's sector otherwise the one ahead is the last one, or none is. Conditions: none beyond those that the statement itself prints. -/
import Derived.Test.YtffdjnhhmfpkgaaGreatTz
import Derived.Test.YtffdjnhhmfpkgaaGreatRows
import Derived.Test.YtffdjnhhmfpkgaaGreatCmY
import Derived.Test.YtffdjnhhmfpkgaaGreatCmZ
import Derived.Deep.RegionHeld
import Derived.SizedLaws
import Derived.WalkKit
import Derived.ProofKit
import Derived.OpenShut
import Derived.ShutString
import Derived.ChangeOld
import Derived.Below
namespace Go.Proofs.YtffdjnhhmfpkgaaGreat.commitOther
set_option maxRecDepth 1000000
set_option maxHeartbeats 8000000
open Go.ChangeShapes Go.WideShapes Go.ChangeAt Go.RowKit
open Go.ChangeMaps (open_string shut_string)
set_option linter.unusedVariables false
set_option linter.unusedSimpArgs false
theorem own : ownKnob Tryz.prog.godebug = none := by kernel_rfl
theorem laidOut : laidOutB Tryz.prog = true := by kernel_rfl
theorem xor_u8C (a b : UInt8) : bits .xor .u8 (a.toNat : Int) (b.toNat : Int) = ((a ^^^ b).toNat : Int) := by
 rw [UInt8.toNat_xor]
 exact u8_xor_nat _ _ a.toNat_lt b.toNat_lt
theorem turned {fr : Int} {l : List Rcd} {m j : Nat} {v : UInt8} (hk : ∀ i, i ≤ m → cmMay (rN fr l i) = true ∧ (rN fr l i).In) (hj : j < 64) (hv : v ≠ 0) :
  (sN fr l (m + 1)).read ((rN fr l m).seq % 2) = (cmSec (rN fr l m), 0) ∧ ∃ s', (sN fr l (m + 1)).write ((rN fr l m).seq % 2) ((cmSec (rN fr l m)).set j ((cmSec (rN fr l m)).getD j 0 ^^^ v)) = (0, s') ∧
   cmGet s' = if m = 0 then (Rcd.zero, Rcd.zero, 160) else (rN fr l (m - 1), Rcd.zero, 0) := by
 obtain ⟨h1, h2⟩ := hk m (Nat.le_refl m)
 have hl := cmSec_len h2.hash
 have hf : (cmForm (rN fr l m)).length ≤ 58 := by rw [cmForm_len h2.hash]; decide
 obtain ⟨s', a1, a2, a3⟩ := get_wr (p := (fr + m) % 2) (par_cases _) (x := cmSec (rN fr l m)) (y := if m = 0 then sec0 else cmSec (rN fr l (m - 1))) (t := (cmSec (rN fr l m)).set j ((cmSec (rN fr l m)).getD j 0 ^^^ v)) (T := T3) (by rw [List.length_set]; exact hl)
 refine ⟨a3, s', a1, ?_⟩
 have hz : cmAt ((fr + m) % 2) ((cmSec (rN fr l m)).set j ((cmSec (rN fr l m)).getD j 0 ^^^ v)) = Rcd.zero := cmAt_bad (frm_byte hf hj hv)
 rw [a2, get_other (par_cases _) hz, sN_other hk]
 cases m with
 | zero => rfl
 | succ m =>
  have hne := may_ne (hk m (Nat.le_succ m)).1
  show (if rN fr l m = Rcd.zero then _ else _) = _
  rw [if_neg hne]
  rfl
theorem walk (a0 : Int) (a1 : Option Addr) (len1 cap1 : Nat) (l1 : List Rcd) (a2 : Int) (a3 : Int) (w : World) (w0 : (Lit.int .i64 a0).wf = true) (w1 : RdRL w w.heap.size a1 len1 l1 ∧ len1 ≤ cap1 ∧ cap1 * 64 ≤ 140737488351232) (w2 : (Lit.int .i64 a2).wf = true) (w3 : (Lit.int .u8 a3).wf = true) :
  Calls Tryz.prog 8 #[.int .i64 a0, .slice a1 len1 cap1, .int .i64 a2, .int .u8 a3] w fun e w' => e = .returned (.bool true) ∧ Below w.heap.size w w' := by
 obtain ⟨r1, hcap1, hcap1'⟩ := w1
 obtain ⟨ov, rfl⟩ := u8v w3
 have R := qH r1
 have HLEN1 : Hid (len1 ≤ 140737488351232) := by show _ ≤ _; omega
 clear w0 w2 w3 r1 hcap1 hcap1'
 have hz := rc_zero
 go_enter Tryz.func8, Tryz.ntmps8
 go_wp2_with fail
 refine (lAwake16 w).mono ?_
 rintro e wA ⟨rfl, hb⟩
 have BA := qH (hb)
 have RA := qH (R.out.to hb)
 clear hb R
 go_wp2_with fail
 refine (lRows a0 a1 len1 cap1 l1 wA RA.out HLEN1.out).mono ?_
 rintro e wB (⟨rfl, hb⟩ | ⟨d, F, A, c, rfl, h1, h2, h20, hs⟩)
 ·have BZ := qH (BA.out.trans (hb.mono BA.out.size))
  clear hb
  go_wp2_with fail
  go_ret
  exact ⟨rfl, BZ.out⟩
 have HS := qH hs
 have BB := qH (BA.out.trans (hs.bel.mono BA.out.size))
 have HL20 : Hid (len1 ≤ 20) := h20
 have HFR : Hid (1 ≤ a0 ∧ a0 ≤ 1099511627776) := ⟨h1, h2⟩
 clear h1 h2 h20 hs
 by_cases hn0 : len1 = 0
 ·subst hn0
  go_wp2_with fail
  go_ret
  exact ⟨rfl, BB.out⟩
 obtain ⟨m, hm⟩ : ∃ m, len1 = m + 1 := ⟨len1 - 1, by omega⟩
 have HM := qH hm
 have HO := qH (rows_own HS.out (by omega))
 obtain ⟨g, hA, hgl, hrow⟩ := HO.out
 subst hA
 have HROW := qH hrow
 have HGL : Hid (g < wB.heap.size) := hgl
 have HMAY := qH (fun j (hj : j ≤ m) => HS.out.may j (by omega))
 have HD := qH (show DkAt wB d F (sN a0 l1 (m + 1)) by rw [← hm]; exact HS.out.dk)
 have HFB := qH HS.out.fb
 have hlen0 : ((len1 : Int) == 0) = false := beq_eq_false_iff_ne.2 (by omega)
 have hlen1 : ¬ (len1 : Int) = 0 := by omega
 have HX1 := qH (HROW.out m (by omega))
 have HX2 := qH (fun h : ¬ m = 0 => HROW.out (m - 1) (by omega))
 have HNF : Hid (¬ F g) := HS.out.off g rfl
 clear hrow hgl HROW HO HS RA hm
 have hw1 : IntKind.i64.wrap ((len1 : Int) - 1) = (m : Int) := by rw [IntKind.wrap_i64]; have := HL20.out; have := HM.out; omega
 have hw1b : (len1 : Int) - 1 = (m : Int) := by have := HM.out; omega
 have hml : (m : Int) < (len1 : Int) := by have := HM.out; omega
 have hw1c : IntKind.i64.wrap (m : Int) = (m : Int) := by rw [IntKind.wrap_i64]; have := HL20.out; have := HM.out; omega
 have hm0 : (0 : Int) ≤ (m : Int) := by omega
 by_cases c5 : a2 < 0
 ·go_wp2_with fail
  go_ret
  exact ⟨rfl, BB.out⟩
 by_cases c6 : a2 > 63
 ·go_wp2_with fail
  go_ret
  exact ⟨rfl, BB.out⟩
 by_cases c7 : (ov.toNat : Int) = 0
 ·go_wp2_with fail
  go_ret
  exact ⟨rfl, BB.out⟩
 obtain ⟨j, rfl⟩ : ∃ j : Nat, a2 = (j : Int) := ⟨a2.toNat, by omega⟩
 have HJ : Hid (j < 64) := by show _ < _; omega
 have HV : Hid (ov ≠ 0) := by
  (show _ ≠ _)
  intro e
  apply c7
  rw [e]
  rfl
 have HT := qH (turned (fr := a0) (l := l1) (m := m) (j := j) (v := ov) HMAY.out HJ.out HV.out)
 have HXI := qH (HMAY.out m (Nat.le_refl m)).2
 have HYI := qH (fun h : ¬ m = 0 => (HMAY.out (m - 1) (Nat.sub_le _ _)).2)
 have hs0 : 0 ≤ (rN a0 l1 m).seq := by have := (cmMay_iff.1 (HMAY.out m (Nat.le_refl m)).1).1; omega
 have q1 := rem2 (rN a0 l1 m).seq hs0
 have q2 := rem2b (rN a0 l1 m).seq hs0
 have q3 := rem2c (rN a0 l1 m).seq
 have y0 : wB.cell? ⟨g, m * 36, none⟩ = some (.int .i64 (rN a0 l1 m).seq) := HX1.out 0 _ rfl
 have HCL := qH (cmSec_len HXI.out.hash)
 clear HMAY hs0
 generalize rN a0 l1 m = x at *
 generalize rN a0 l1 (m - 1) = x2 at *
 generalize sN a0 l1 (m + 1) = s0 at *
 have k1 : ¬ (j : Int) < 0 := by omega
 have k2 : ¬ (j : Int) > 63 := by have := HJ.out; omega
 have k2b : ¬ 63 < (j : Int) := k2
 have k3 : ((ov.toNat : Int) == 0) = false := beq_eq_false_iff_ne.2 c7
 go_upto_region 7 with (fail)
 (try simp only [q1, q2, q3])
 clear hlen0 hlen1 hw1 hw1b hml hw1c hm0 hn0 q1 q2 q3 y0 HX1 k1 k2 k2b k3
 generalize x.seq % 2 = pp at *
 go_wp2_with fail
 refine (dRead d F s0 pp wB HD.out).mono ?_
 rw [HT.out.1]
 rintro e wC ⟨A3, n3, c3, rfl, hown, hb⟩
 have R3 := qH (Rd.of_own hown)
 obtain rfl : n3 = 64 := by rw [← R3.out.1]; exact HCL.out
 obtain ⟨g3, rfl, hg3⟩ := own_head hown (by decide)
 have FZ := qH (own_frozC hown (by decide))
 have HG3 : Hid (wB.heap.size ≤ g3) := hg3
 have HGW : Hid (g < wC.heap.size) := Nat.lt_of_lt_of_le HGL.out hb.size
 replace HX2 : Hid (¬ m = 0 → wC.rangeAt g ((m - 1) * 36) (rcL x2)) := fun h i v hv => (hb.cell (p := ⟨g, (m - 1) * 36 + i, none⟩) HGL.out).trans (HX2.out h i v hv)
 have O3 : Hid (Off (some ⟨g3, 0, none⟩) 64 F) := own_offC hown HD.out.lt
 have HNG : Hid (∀ k, F k → k ≠ g3) := fun k hk => Nat.ne_of_lt (Nat.lt_of_lt_of_le (HD.out.lt k hk) hg3)
 have HSZ : Hid (wB.heap.size ≤ wC.heap.size) := hb.size
 replace HD := qH (HD.out.to hb)
 have HFW : Hid (∀ k, F k → w.heap.size ≤ k) := fun k hk => Nat.le_trans BA.out.size (HFB.out k hk)
 have HGG : Hid (g ≠ g3) := Nat.ne_of_lt (Nat.lt_of_lt_of_le HGL.out hg3)
 have HW3 : Hid (w.heap.size ≤ g3) := Nat.le_trans BB.out.size hg3
 replace BB := qH (BB.out.trans (hb.mono BB.out.size))
 have HFG : Hid (¬ F g) := HNF.out
 clear hown hb hg3 HGL HFB HSZ
 have hjI : (j : Int) < 64 := by have := HJ.out; omega
 have hj0 : (0 : Int) ≤ (j : Int) := by omega
 obtain ⟨b9, o9, e9, _, hcell⟩ := R3.out.2 (by decide)
 obtain ⟨rfl, rfl⟩ : g3 = b9 ∧ 0 = o9 := by
  injection e9 with e9
  injection e9 with e1 e2
  exact ⟨e1, e2⟩
 have hc0 := hcell j HJ.out
 rw [Nat.zero_add] at hc0
 have f0 := FZ.out j
 have hx : bits .xor .u8 (nth (cmSec x) j : Int) (ov.toNat : Int) = (((cmSec x).getD j 0 ^^^ ov).toNat : Int) := xor_u8C ((cmSec x).getD j 0) ov
 have HN3 : Hid (∀ k, F k → k ≠ g3) := HNG.out
 clear e9 hcell c7
 go_upto_region 11 with (fail)
 (try rw [show ((((cmSec x)[j]?.getD 0).toNat ^^^ ov.toNat : Nat) : Int) = (((cmSec x).getD j 0 ^^^ ov).toNat : Int) from by rw [UInt8.toNat_xor]; rfl])
 clear hc0 f0 hx hjI hj0
 have HKS := qH (show Keep (· = g3) wC (wC.setCell ⟨g3, j, none⟩ (.int .u8 (((cmSec x).getD j 0 ^^^ ov).toNat : Int))) from (Keep.refl _ _).setCell _ _ rfl)
 replace R3 := qH (R3.out.setC HJ.out ((cmSec x).getD j 0 ^^^ ov))
 replace HD := qH (HD.out.kept HKS.out (fun k hk e => HN3.out k hk e))
 replace HX2 : Hid (¬ m = 0 → (wC.setCell ⟨g3, j, none⟩ (.int .u8 (((cmSec x).getD j 0 ^^^ ov).toNat : Int))).rangeAt g ((m - 1) * 36) (rcL x2)) := fun h i v hv => (HKS.out.cell (a := ⟨g, (m - 1) * 36 + i, none⟩) HGW.out HGG.out).trans (HX2.out h i v hv)
 replace HGW : Hid (g < (wC.setCell ⟨g3, j, none⟩ (.int .u8 (((cmSec x).getD j 0 ^^^ ov).toNat : Int))).heap.size) := Nat.lt_of_lt_of_le HGW.out HKS.out.size
 replace BB := qH (HKS.out.below BB.out BB.out.size (fun k e => by have := HW3.out; omega))
 replace R3 := qH (R3.out.more HKS.out.size)
 obtain ⟨-, s', hw, hg⟩ := HT.out
 have HWR := qH hw
 have HGE := qH hg
 clear hw hg HKS HT HGG HW3 FZ
 generalize (cmSec x).set j ((cmSec x).getD j 0 ^^^ ov) = tt at *
 generalize wC.setCell ⟨g3, j, none⟩ (.int .u8 (((cmSec x).getD j 0 ^^^ ov).toNat : Int)) = wD at *
 go_wp2_with fail
 refine (dWrite d F s0 pp (some ⟨g3, 0, none⟩) 64 c3 tt wD HD.out R3.out O3.out).mono ?_
 rw [HWR.out]
 rintro e wE ⟨rfl, F1, h7, h8, h9⟩
 replace HD := qH h7
 replace HX2 : Hid (¬ m = 0 → wE.rangeAt g ((m - 1) * 36) (rcL x2)) := fun h i v hv => (h9.cell (a := ⟨g, (m - 1) * 36 + i, none⟩) HGW.out HFG.out).trans (HX2.out h i v hv)
 replace HGW : Hid (g < wE.heap.size) := Nat.lt_of_lt_of_le HGW.out h9.size
 replace BB := qH (h9.below BB.out BB.out.size HFW.out)
 clear h7 h8 h9 HWR R3 O3 HFG HN3 HNF HNG
 go_wp2_with fail
 by_cases hm0 : m = 0
 ·have HG : Hid (cmGet s' = (Rcd.zero, Rcd.zero, 160)) := by (show _ = _); rw [HGE.out, if_pos hm0]
  have hlen1 : (len1 : Int) = 1 := by have := HM.out; omega
  clear HGE HX2 hm0 HM
  refine (cGet d F1 s' wE HD.out).mono ?_
  rw [HG.out]
  rintro e wx ⟨rfl, hb⟩
  obtain ⟨t1, t2, t3, t4, t5⟩ := tw_is wx (x := Rcd.zero) (y := Rcd.zero) rfl rfl
  have T1 := qH t1
  have T2 := qH t2
  have T3 := qH t3
  have T4 := qH t4
  have B7 := qH (hb.trans (t5.mono hb.size))
  clear hb t1 t2 t3 t4 t5 HD HG
  go_upto_region 13 with (first | (refine wpList_store_row rfl 34 _ _ rfl wx.heap.size (rcL Rcd.zero).toArray rfl rfl 34 (rcL Rcd.zero).toArray T1.out (rc_size rfl) (rc_same rfl) (rc_one _) ?_) | (refine wpList_store_row rfl 34 _ _ rfl (wx.heap.size + 1) (rcL Rcd.zero).toArray rfl rfl 34 (rcL Rcd.zero).toArray T2.out (rc_size rfl) (rc_same rfl) (rc_one _) ?_))
  have hE : (((wx.alloc (.cells (rcL Rcd.zero).toArray 34)).alloc (.cells (rcL Rcd.zero).toArray 34)).setRow wx.heap.size (rcL Rcd.zero).toArray).setRow (wx.heap.size + 1) (rcL Rcd.zero).toArray = tw2 wx Rcd.zero Rcd.zero := rfl
  rw [hE]
  clear hE T1 T2
  generalize tw2 wx Rcd.zero Rcd.zero = w7 at *
  generalize wx.heap.size + 1 = gy at *
  generalize wx.heap.size = gx at *
  replace BB := qH (BB.out.trans (B7.out.mono BB.out.size))
  go_wp2_with fail
  go_ret
  exact ⟨rfl, BB.out⟩
 ·have HG : Hid (cmGet s' = (x2, Rcd.zero, 0)) := by (show _ = _); rw [HGE.out, if_neg hm0]
  have HI2 := qH (HYI.out hm0)
  obtain ⟨m2, hm2⟩ : ∃ m2, m = m2 + 1 := ⟨m - 1, by omega⟩
  have E3 := qH (HX2.out hm0)
  rw [show m - 1 = m2 by omega] at E3
  have hw2 : IntKind.i64.wrap ((len1 : Int) - 2) = (m2 : Int) := by rw [IntKind.wrap_i64]; have := HL20.out; have := HM.out; omega
  have hw2b : (len1 : Int) - 2 = (m2 : Int) := by have := HM.out; omega
  have hml : (m2 : Int) < (len1 : Int) := by have := HM.out; omega
  have hw2c : IntKind.i64.wrap (m2 : Int) = (m2 : Int) := by rw [IntKind.wrap_i64]; have := HL20.out; have := HM.out; omega
  have hlen1 : ¬ (len1 : Int) = 1 := by have := HM.out; omega
  have SYL : Hid ((Tryz.prog.info? 34).map (·.size) = some (rcL x2).length) := by (show _ = _); rw [rc_size HI2.out.hash, List.size_toArray]
  clear HGE HX2 hm0 HM hm2
  refine (cGet d F1 s' wE HD.out).mono ?_
  rw [HG.out]
  rintro e wx ⟨rfl, hb⟩
  obtain ⟨t1, t2, t3, t4, t5⟩ := tw_is wx (x := x2) (y := Rcd.zero) HI2.out.hash rfl
  have T1 := qH t1
  have T2 := qH t2
  have T3 := qH t3
  have T4 := qH t4
  have B7 := qH (hb.trans (t5.mono hb.size))
  clear hb t1 t2 t3 t4 t5 HD HG
  go_upto_region 15 with (first | (refine wpList_store_row rfl 34 _ _ rfl wx.heap.size (rcL x2).toArray rfl rfl 34 (rcL Rcd.zero).toArray T1.out (rc_size HI2.out.hash) (rc_same HI2.out.hash) (rc_one _) ?_) | (refine wpList_store_row rfl 34 _ _ rfl (wx.heap.size + 1) (rcL Rcd.zero).toArray rfl rfl 34 (rcL Rcd.zero).toArray T2.out (rc_size rfl) (rc_same rfl) (rc_one _) ?_))
  have hE : (((wx.alloc (.cells (rcL Rcd.zero).toArray 34)).alloc (.cells (rcL Rcd.zero).toArray 34)).setRow wx.heap.size (rcL x2).toArray).setRow (wx.heap.size + 1) (rcL Rcd.zero).toArray = tw2 wx x2 Rcd.zero := rfl
  rw [hE]
  clear hE T1 T2
  generalize tw2 wx x2 Rcd.zero = w7 at *
  generalize wx.heap.size + 1 = gy at *
  generalize wx.heap.size = gx at *
  have E4 : Hid (w7.rangeAt g (m2 * 36) (rcL x2)) := fun i v hv => (B7.out.cell (p := ⟨g, m2 * 36 + i, none⟩) HGW.out).trans (E3.out i v hv)
  replace BB := qH (BB.out.trans (B7.out.mono BB.out.size))
  clear B7 E3
  obtain ⟨we, hwe⟩ : ∃ x, w7.drew = x := ⟨_, rfl⟩
  have BS : Below w7.heap.size w7 we := by rw [← hwe]; exact (Below.refl _ _).drew
  replace T3 := qH (T3.out.to BS)
  replace T4 := qH (T4.out.to BS)
  have E5 : Hid (we.rangeAt g (m2 * 36) (rcL x2)) := fun i v hv => E4.out i v hv |> fun h => by rw [← hwe]; exact h
  replace BB := qH (BB.out.trans (BS.mono BB.out.size))
  have hu := Tryz.underlying34
  refine wp_region_held_drew (S := (fun w' => RB w' gx x2 ∧ RB w' gy Rcd.zero ∧ w'.rangeAt g (m2 * 36) (rcL x2))) (by kernel_rfl) ((by rw [hwe]; exact ⟨T3.out, T4.out, E5.out⟩)) (fun hHeld => ?_)
  rw [hwe] at hHeld ⊢
  clear hwe BS
  refine tk 0 ?_
  simp only [pR]
  refine tk 1 ?_
  simp only [pR]
  refine tk 2 ?_
  simp only [pR]
  refine tl 3 (.agg (rcL x2).toArray) rfl (yieldsIf_load_row (by rfl) 34 _ rfl gx rfl 34 (rcL x2).toArray (0, 0) _ (fun w' h => h.1.row) Tryz.underlying34 rfl (rc_size HI2.out.hash)) ?_
  simp only [pR]
  refine tk 4 ?_
  simp only [pR]
  refine tk 5 ?_
  simp only [pR]
  refine tk 6 ?_
  simp only [pR]
  refine tk 7 ?_
  simp only [pR]
  refine tk 8 ?_
  simp only [pR]
  refine tl 9 (.agg (List.toArray (rcL x2))) rfl (yieldsIf_load_mid (by rfl) 34 _ rfl g (m2 * 36) rfl (rcL x2) _ ((fun w' h => h.2.2)) hu rfl SYL.out) ?_
  simp only [pR]
  refine wpAnyH_take (i := 10) (v := .bool true) rfl (by kernel_rfl) (by kernel_rfl) (by kernel_rfl) (fun _ _ _ h => h) (yieldsIf_eqB (by rfl) _ _ rfl x2 x2 rfl rfl HI2.out.hash HI2.out.hash true (decide_eq_true rfl)) (by assumption) ?_
  simp only [pR]
  refine tk 11 ?_
  simp only [pR]
  refine tk 12 ?_
  simp only [pR]
  refine tl 13 (.agg (rcL Rcd.zero).toArray) rfl (yieldsIf_load_row (by rfl) 34 _ rfl gy rfl 34 (rcL Rcd.zero).toArray (0, 0) _ (fun w' h => h.2.1.row) Tryz.underlying34 rfl (rc_size rfl)) ?_
  simp only [pR]
  refine tw 14 rfl (by intro w hSw; (try dsimp only at hSw); (have x := hz w); clear hSw; go_simp; (try with_reducible rfl)) ?_
  simp only [pR]
  refine wpAnyH_take (i := 15) (v := .bool true) rfl (by kernel_rfl) (by kernel_rfl) (by kernel_rfl) (fun _ _ _ h => h) (yieldsIf_eqB (by rfl) _ _ rfl Rcd.zero Rcd.zero rfl rfl rfl rfl true (decide_eq_true rfl)) (by assumption) ?_
  simp only [pR]
  refine tk 16 ?_
  simp only [pR]
  refine tk 17 ?_
  simp only [pR]
  refine wpAnyH_done (by kernel_rfl) ?_ _
  clear hHeld hw2 hw2b hw2c hml hu
  go_wp2_with fail
  go_ret
  exact ⟨rfl, BB.out⟩
theorem lifted (os : Os) (started : os.Started) (H : Type) (enc : TypeId × Value → H) :
  ReturnsInHanded {} Tryz.checked os 8 .any (Rows.commitOtherSpec.pre6 enc Tryz.prog Tryz.f8 Rows.commitOtherRow.domain false) (Rows.commitOtherSpec.post enc Tryz.prog Tryz.f8 false true false false) := by
 refine returnsInHanded_of_change_sized (C := Tryz.checked) own started (by kernel_rfl) Tryz.func8
  (ChangeSpec.witness6 (enc := enc) (C := Tryz.checked) false ⟨#[], #[.int .i64 0, .slice none 0 0, .int .i64 0, .int .u8 0], []⟩ 8 (by kernel_rfl) (by kernel_rfl) (by kernel_rfl) (by kernel_rfl)) ?_
 intro W base args ds gs before hval0 hW hcnd hsz0 _
 have hval : ∀ (j : Nat) t v, Tryz.f8.params[j]? = some t → args[j]? = some v → Value.okWide Tryz.prog W .any base t v := hval0
 have hsz : (DataW.weightsEach Tryz.prog (Tryz.f8.params.toList ++ Rows.commitOtherSpec.plain.varTypes Tryz.prog) (ds ++ gs)).all (· ≤ reachBytes) = true := hsz0
 have hW' := hW
 obtain ⟨p, q, hA0, hV, rfl, hfz, hnd⟩ := hW
 have hA : DataW.TrodAll enc Tryz.prog W 0 (fun _ => true) true Tryz.f8.params.toList args.toList ds p := hA0
 rw [Tryz.params8] at hA hval hsz
 obtain ⟨v0, vs0, d0, ds0, p0, q0, hargs, rfl, rfl, h0, r0⟩ := trodAll_cons hA
 obtain ⟨v1, vs1, d1, ds1, p1, q1, rfl, rfl, rfl, h1, r1⟩ := trodAll_cons r0
 obtain ⟨v2, vs2, d2, ds2, p2, q2, rfl, rfl, rfl, h2, r2⟩ := trodAll_cons r1
 obtain ⟨v3, vs3, d3, ds3, p3, q3, rfl, rfl, rfl, h3, r3⟩ := trodAll_cons r2
 obtain ⟨rfl, rfl, rfl⟩ := trodAll_nil r3
 obtain rfl : args = #[v0, v1, v2, v3] := by cases args; simp_all
 obtain ⟨rfl, rfl⟩ := trodVars_none hV
 have sz1 : ∀ x ∈ d1.weights Tryz.prog 65, x ≤ reachBytes := fun x hx => by simpa using List.all_eq_true.1 hsz _ (DataW.weights_mem_each (j := 1) rfl rfl x hx)
 obtain ⟨a0, rfl, rfl, rfl, w0⟩ := open_int Tryz.underlying3 (hval 0 3 v0 rfl rfl) h0
 have k1 := h1
 have lt1 : ∀ x ∈ p1, x.block < W.heap.size := by obtain ⟨m, hm⟩ := k1; exact DataW.trod_lt m _ _ _ hm
 obtain ⟨a1, len1, cap1, l1, rfl, w1⟩ := open_rcs (hval 1 65 v1 rfl rfl) h1 sz1
 obtain ⟨a2, rfl, rfl, rfl, w2⟩ := open_int Tryz.underlying3 (hval 2 3 v2 rfl rfl) h2
 obtain ⟨a3, rfl, rfl, rfl, w3⟩ := open_int Tryz.underlying5 (hval 3 5 v3 rfl rfl) h3
 clear hA0 hval0
 refine (walk a0 a1 len1 cap1 l1 a2 a3 W w0 w1 w2 w3).mono fun e W' ⟨he, bel⟩ => ?_
 subst he
 exact ⟨_, rfl, _, _, _, [], _, [], hW', trodAll_mk1 (shut_bool Tryz.underlying4 _), (trodAll_cons_mk (shut_int Tryz.underlying3 w0) (trodAll_cons_mk (Below.trod laidOut (by kernel_rfl) (of_decide_eq_true (by kernel_rfl)) k1 bel lt1) (trodAll_cons_mk (shut_int Tryz.underlying3 w2) (trodAll_cons_mk (shut_int Tryz.underlying5 w3) trodAll_mk0)))), rfl, bel.frame _, fun h => by cases h⟩
theorem over : Rows.commitOtherRow.holds Tryz.pinned (OpenSpec.ofChange Rows.commitOtherSpec) :=
 OpenClaim.holds_of_wide 8 Tryz.f8 rfl rfl rfl rfl rfl rfl rfl ⟨rfl, rfl, rfl, rfl, rfl⟩ rfl rfl rfl rfl rfl (by kernel_rfl) Tryz.func8 (by kernel_rfl)
  (of_decide_eq_true (by kernel_rfl)) (by unfold Func.isWrapper; first | (rw [if_pos (by decide +kernel)]; kernel_rfl) | (rw [if_neg (by decide +kernel)]; exact ⟨rfl, rfl⟩))
  (fun os started H enc _ => lifted os started H enc)
theorem proved : Rows.CommitOtherSaid := over
end Go.Proofs.YtffdjnhhmfpkgaaGreat.commitOther