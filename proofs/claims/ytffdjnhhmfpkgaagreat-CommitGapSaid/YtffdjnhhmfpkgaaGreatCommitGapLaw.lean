/- For any two records the law CommitGap of citadellaw16 returns true: the greater one is the last one, in whichever order they were put; the other one is ahead of it if it is its neighbour, and else none is. Conditions: none beyond those that the statement itself prints. -/
import Derived.Test.YtffdjnhhmfpkgaaGreatTz
import Derived.Test.YtffdjnhhmfpkgaaGreatRows
import Derived.Test.YtffdjnhhmfpkgaaGreatCmY
import Derived.Test.YtffdjnhhmfpkgaaGreatCmZ
import Derived.Deep.RegionHeld
import Derived.WalkKit
import Derived.ProofKit
import Derived.OpenShut
import Derived.ShutString
import Derived.ChangeOld
import Derived.Below
namespace Go.Proofs.YtffdjnhhmfpkgaaGreat.commitGap
set_option maxRecDepth 1000000
set_option maxHeartbeats 8000000
open Go.ChangeShapes Go.WideShapes Go.ChangeAt Go.RowKit
open Go.ChangeMaps (open_string shut_string)
set_option linter.unusedVariables false
set_option linter.unusedSimpArgs false
theorem own : ownKnob Tryz.prog.godebug = none := by kernel_rfl
theorem laidOut : laidOutB Tryz.prog = true := by kernel_rfl
theorem gap_get {a b : Rcd} (ha : cmMay a = true) (hb : cmMay b = true) (ia : a.In) (ib : b.In) (hp : ¬ a.seq % 2 = b.seq % 2) :
  cmPut a (DS.new 2) = (0, dsP (a.seq % 2) (cmSec a) sec0 []) ∧ cmPut b (dsP (a.seq % 2) (cmSec a) sec0 []) = (0, dsP (b.seq % 2) (cmSec b) (cmSec a) []) ∧
  (b.seq > a.seq → cmGet (dsP (b.seq % 2) (cmSec b) (cmSec a) []) = (b, if a.seq = b.seq - 1 then a else Rcd.zero, 0)) ∧ (¬ b.seq > a.seq → a.seq > b.seq ∧ cmGet (dsP (b.seq % 2) (cmSec b) (cmSec a) []) = (a, if b.seq = a.seq - 1 then b else Rcd.zero, 0)) := by
 have hpb := par_cases b.seq
 have hpa := par_cases a.seq
 have h0 : DS.new 2 = dsP (b.seq % 2) sec0 sec0 [] := by unfold dsP; rw [ite_self]; rfl
 have e1 : 1 - b.seq % 2 = a.seq % 2 := by omega
 have p1 := put_dsP (x := sec0) (y := sec0) (p := b.seq % 2) (T := []) ha ia.hash calm_nil hpb e1.symm
 rw [e1, ← h0] at p1
 have e2 : 1 - a.seq % 2 = b.seq % 2 := by omega
 have p2 := put_dsP (x := cmSec a) (y := sec0) (p := a.seq % 2) (T := []) hb ib.hash calm_nil hpa e2.symm
 rw [e2] at p2
 have ca := cmAt_sec ha ia
 have cb := cmAt_sec hb ib
 have hg := get_dsP (b.seq % 2) hpb (cmSec b) (cmSec a) []
 rw [e1, ca, cb] at hg
 refine ⟨p1, p2, fun h => ?_, fun h => ?_⟩
 ·obtain ⟨g1, g2⟩ := pick_gt (y := a) hb h
  rcases hg with hg | hg
  ·rw [hg, g1]
  ·rw [hg, g2]
 ·have hne : a.seq > b.seq := by omega
  obtain ⟨g1, g2⟩ := pick_gt (y := b) ha hne
  refine ⟨hne, ?_⟩
  rcases hg with hg | hg
  ·rw [hg, g2]
  ·rw [hg, g1]
theorem sub_eqC {x y : Int} (h1 : 1 ≤ x) (h2 : x ≤ 9223372036854775807) (h3 : 1 ≤ y) (h4 : y ≤ 9223372036854775807) : IntKind.i64.wrap (x - y) = x - y := by rw [IntKind.wrap_i64]; omega
theorem walk (x0 : Rcd) (x1 : Rcd) (w : World) (w0 : x0.In) (w1 : x1.In) :
  Calls Tryz.prog 7 #[.agg (rcL x0).toArray, .agg (rcL x1).toArray] w fun e w' => e = .returned (.bool true) ∧ Below w.heap.size w w' := by
 have HA := qH w0
 have HB := qH w1
 clear w0 w1
 have hz := rc_zero
 have B0 : Below w.heap.size w (w.alloc (.cells (rcL x0).toArray 34)) := (Below.refl _ _).alloc (Nat.le_refl _) _
 have BX0 : Bxs (w.alloc (.cells (rcL x0).toArray 34)) (fun _ => False) [(w.heap.size, x0)] := fun p hp => by
  obtain rfl : p = (w.heap.size, x0) := by simpa using hp
  exact ⟨RB.new w HA.out.hash, fun h => h⟩
 obtain ⟨W1, hW1⟩ : ∃ X, w.alloc (.cells (rcL x0).toArray 34) = X := ⟨_, rfl⟩
 have hs1 : W1.heap.size = w.heap.size + 1 := by rw [← hW1]; simp
 rw [hW1] at B0 BX0
 have B1 : Below W1.heap.size W1 (W1.alloc (.cells (rcL x1).toArray 34)) := (Below.refl _ _).alloc (Nat.le_refl _) _
 have RB1 := RB.new W1 HB.out.hash
 obtain ⟨W2, hW2⟩ : ∃ X, W1.alloc (.cells (rcL x1).toArray 34) = X := ⟨_, rfl⟩
 rw [hW2] at B1 RB1
 rw [hs1] at RB1
 have hww : (w.alloc (.cells (rcL x0).toArray 34)).alloc (.cells (rcL x1).toArray 34) = W2 := by rw [hW1, hW2]
 have R0 := qH ((BX0 _ (List.Mem.head _)).1.to B1)
 have R1 := qH RB1
 have B := qH (B0.trans (B1.mono B0.size))
 go_enter Tryz.func7, Tryz.ntmps7
 go_upto_region 1 with (fail)
 (try rw [hww])
 clear hww BX0 B0 B1 RB1 hW1 hW2 hs1 W1
 generalize w.heap.size + 1 = g3 at *
 obtain ⟨g2, hg2⟩ : ∃ x, w.heap.size = x := ⟨_, rfl⟩
 rw [hg2] at R0 ⊢
 go_wp2_with fail
 refine (lAwake16 W2).mono ?_
 rintro e w3 ⟨rfl, hb⟩
 replace R0 := qH (R0.out.to hb)
 replace R1 := qH (R1.out.to hb)
 replace B := qH (B.out.trans (hb.mono B.out.size))
 clear hb
 have SA := qH (rc_size HA.out.hash)
 have SB := qH (rc_size HB.out.hash)
 go_wp2_with (refine wpList_load_row rfl 34 _ rfl g2 rfl 34 (rcL x0).toArray (0, 0) _ R0.out.row Tryz.underlying34 rfl SA.out ?_)
 refine (cMay x0 w3 HA.out.hash).mono ?_
 rintro e w4 ⟨rfl, hb⟩
 replace R0 := qH (R0.out.to hb)
 replace R1 := qH (R1.out.to hb)
 replace B := qH (B.out.trans (hb.mono B.out.size))
 clear hb
 cases hma : cmMay x0
 ·go_wp2_with fail
  go_ret
  exact ⟨rfl, B.out⟩
 have HMA := qH hma
 clear hma
 go_wp2_with (refine wpList_load_rowGm (by rfl) 34 _ rfl g3 rfl 34 (rcL x1).toArray (0, 0) _ R1.out.row Tryz.underlying34 rfl SB.out ?_)
 refine (cMay x1 w4 HB.out.hash).mono ?_
 rintro e w5 ⟨rfl, hb⟩
 replace R0 := qH (R0.out.to hb)
 replace R1 := qH (R1.out.to hb)
 replace B := qH (B.out.trans (hb.mono B.out.size))
 clear hb
 cases hmb : cmMay x1
 ·go_wp2_with fail
  go_ret
  exact ⟨rfl, B.out⟩
 have HMB := qH hmb
 clear hmb
 have s0 : 1 ≤ x0.seq := (cmMay_iff.1 HMA.out).1
 have s1 : 1 ≤ x1.seq := (cmMay_iff.1 HMB.out).1
 have q1 := rem2 x0.seq (by omega)
 have q2 := rem2b x0.seq (by omega)
 have q3 := rem2c x0.seq
 have r1 := rem2 x1.seq (by omega)
 have r2 := rem2b x1.seq (by omega)
 have r3 := rem2c x1.seq
 obtain ⟨y0, -⟩ := R0.out.cells
 obtain ⟨y1, -⟩ := R1.out.cells
 by_cases hpar : x0.seq % 2 = x1.seq % 2
 ·go_wp2_with fail
  go_ret
  exact ⟨rfl, B.out⟩
 have HG := qH (gap_get HMA.out HMB.out HA.out HB.out hpar)
 have hparb : (x0.seq % 2 == x1.seq % 2) = false := beq_eq_false_iff_ne.2 hpar
 go_upto_region 5 with (fail)
 clear q1 q2 q3 r1 r2 r3 y0 y1 hpar hparb s0 s1
 go_wp2_with fail
 refine (dNew 2 w5 (by decide) (by decide)).mono ?_
 rintro e w6 ⟨d, rfl, F, hd, hf, hb⟩
 have HD := qH hd
 have HFB : Hid (∀ k, F k → w.heap.size ≤ k) := fun k hk => Nat.le_trans B.out.size (hf k hk)
 have BX : Hid (Bxs w6 F [(g2, x0), (g3, x1)]) := fun p hp => by
  rcases List.mem_cons.1 hp with rfl | hp
  ·exact ⟨R0.out.to hb, fun h => by have := hf _ h; have := R0.out.lt; omega⟩
  ·obtain rfl : p = (g3, x1) := by simpa using hp
   exact ⟨R1.out.to hb, fun h => by have := hf _ h; have := R1.out.lt; omega⟩
 replace B := qH (B.out.trans (hb.mono B.out.size))
 clear hd hf hb R0 R1
 go_wp2_with (refine wpList_load_rowGm (by rfl) 34 _ rfl g2 rfl 34 (rcL x0).toArray (0, 0) _ (BX.out.row (List.Mem.head _)) Tryz.underlying34 rfl SA.out ?_)
 refine (cPut d F _ x0 w6 HD.out (by decide) HA.out.hash).mono ?_
 rw [HG.out.1]
 rintro e w7 ⟨rfl, F1, h7, h8, h9⟩
 have HSW : Hid (w.heap.size ≤ w6.heap.size) := B.out.size
 replace HD := qH h7
 replace BX := qH (BX.out.step h8 h9)
 replace B := qH (h9.below B.out B.out.size HFB.out)
 have HF1 : Hid (∀ k, F1 k → w.heap.size ≤ k) := fun k hk => (h8 k hk).elim (HFB.out k) (fun h => Nat.le_trans HSW.out h)
 clear h7 h8 h9 HSW HFB
 go_wp2_with (refine wpList_load_rowGm (by rfl) 34 _ rfl g3 rfl 34 (rcL x1).toArray (0, 0) _ (BX.out.row (List.Mem.tail _ (List.Mem.head _))) Tryz.underlying34 rfl SB.out ?_)
 refine (cPut d F1 _ x1 w7 HD.out (dsP_pos _ _ _ _) HB.out.hash).mono ?_
 rw [HG.out.2.1]
 rintro e w8 ⟨rfl, F2, h7, h8, h9⟩
 have HSW : Hid (w.heap.size ≤ w7.heap.size) := B.out.size
 replace HD := qH h7
 replace BX := qH (BX.out.step h8 h9)
 replace B := qH (h9.below B.out B.out.size HF1.out)
 clear h7 h8 h9 HSW HF1
 obtain ⟨-, -, hg1, hg2⟩ := HG.out
 have HG1 := qH hg1
 have HG2 := qH hg2
 have HI1 : Hid (1 ≤ x0.seq ∧ 1 ≤ x1.seq) := ⟨(cmMay_iff.1 HMA.out).1, (cmMay_iff.1 HMB.out).1⟩
 clear hg1 hg2 HG HMA HMB
 generalize dsP (x1.seq % 2) (cmSec x1) (cmSec x0) [] = sz at *
 go_upto_region 8 with (fail)
 obtain ⟨wd, hwd⟩ : ∃ x, w8.drew = x := ⟨_, rfl⟩
 have BS : Below w8.heap.size w8 wd := by rw [← hwd]; exact (Below.refl _ _).drew
 replace BX := qH (BX.out.to BS)
 replace HD := qH (HD.out.to BS)
 replace B := qH (B.out.trans (BS.mono B.out.size))
 have BW1 : Hid (Below wd.heap.size wd (wd.alloc (.cells (rcL Rcd.zero).toArray 34))) := (Below.refl _ _).alloc (Nat.le_refl _) _
 have BW2 : Hid (Below wd.heap.size wd (tw0 wd)) := BW1.out.alloc BW1.out.size _
 obtain ⟨t1, t2, t3, t4, t5⟩ := tw_is wd HA.out.hash HB.out.hash
 obtain ⟨v1, v2, v3, v4, v5⟩ := tw_rev wd HA.out.hash HB.out.hash
 have T1 := qH t1
 have T2 := qH t2
 have T3 := qH t3
 have T4 := qH t4
 have T5 := qH t5
 have V1 := qH v1
 have V2 := qH v2
 have V3 := qH v3
 have V4 := qH v4
 have V5 := qH v5
 clear t1 t2 t3 t4 t5 v1 v2 v3 v4 v5
 refine wp_region_held_drew (S := (fun w' => RB w' g2 x0 ∧ RB w' g3 x1)) (by kernel_rfl) ((by rw [hwd]; exact ⟨BX.out.rb (List.Mem.head _), BX.out.rb (List.Mem.tail _ (List.Mem.head _))⟩)) (fun hHeld => ?_)
 rw [hwd] at hHeld ⊢
 clear hwd BS
 refine tl 0 (.agg (rcL x0).toArray) rfl (yieldsIf_load_row (by rfl) 34 _ rfl g2 rfl 34 (rcL x0).toArray (0, 0) _ (fun w' h => h.1.row) Tryz.underlying34 rfl SA.out) ?_
 simp only [pR]
 refine tl 1 (.agg (rcL x1).toArray) rfl (yieldsIf_load_row (by rfl) 34 _ rfl g3 rfl 34 (rcL x1).toArray (0, 0) _ (fun w' h => h.2.row) Tryz.underlying34 rfl SB.out) ?_
 simp only [pR]
 clear hHeld
 have hK1 : RB (wd.alloc (.cells (rcL Rcd.zero).toArray 34)) g2 x0 ∧ RB (wd.alloc (.cells (rcL Rcd.zero).toArray 34)) g3 x1 := ⟨(BX.out.to BW1.out).rb (List.Mem.head _), (BX.out.to BW1.out).rb (List.Mem.tail _ (List.Mem.head _))⟩
 have hK2 : RB (tw0 wd) g2 x0 ∧ RB (tw0 wd) g3 x1 := ⟨(BX.out.to BW2.out).rb (List.Mem.head _), (BX.out.to BW2.out).rb (List.Mem.tail _ (List.Mem.head _))⟩
 have hN : g2 ≠ wd.heap.size ∧ g3 ≠ wd.heap.size ∧ g2 ≠ wd.heap.size + 1 ∧ g3 ≠ wd.heap.size + 1 := by
  have h2 := (BX.out.rb (List.Mem.head _)).lt
  have h3 := (BX.out.rb (List.Mem.tail _ (List.Mem.head _))).lt
  omega
 have HK1 := qH hK1
 have HK2 := qH hK2
 have HNN := qH hN
 clear hK1 hK2 hN
 have HNFW : Hid (∀ k, wd.heap.size ≤ k → ¬ F2 k) := fun k hk hf => by have := HD.out.lt k hf; omega
 refine wpAnyH_ready (rs := [2, 3]) (by kernel_rfl) (by simp) ?_
 refine AllReadyH.cons rfl (fun K hK => ?_) (AllReadyH.cons rfl (fun K hK => ?_) AllReadyH.nil)
 ·skip
  go_simp
  refine hK.out _ _ (HK1.out) (fun hHeld => ?_)
  clear hK K
  refine rd1 3 (fun K hK => ?_)
  go_simp
  refine hK.out _ _ (HK2.out) (fun hHeld => ?_)
  clear hK K
  clear hHeld
  refine rd1 4 (fun K hK => ?_)
  rw [if_pos (by rfl)]
  refine wp_store_row0 34 _ _ rfl rfl (wd.heap.size) (rcL x0).toArray rfl rfl 34 _ T1.out SA.out (rc_same HA.out.hash) (rc_one _) ?_
  refine hK.out _ _ (⟨HK2.out.1.setOther HNN.out.1, HK2.out.2.setOther HNN.out.2.1⟩) (fun hHeld => ?_)
  clear hK K
  have HK3 := qH hHeld
  clear hHeld
  refine rd1 5 (fun K hK => ?_)
  rw [if_pos (by rfl)]
  refine wp_store_row0 34 _ _ rfl rfl (wd.heap.size + 1) (rcL x1).toArray rfl rfl 34 _ T2.out SB.out (rc_same HB.out.hash) (rc_one _) ?_
  refine hK.out _ _ (⟨HK3.out.1.setOther HNN.out.2.2.1, HK3.out.2.setOther HNN.out.2.2.2⟩) (fun hHeld => ?_)
  clear hK K
  have G2 : Hid (RB (tw2 wd x0 x1) g2 x0) := hHeld.1
  have G3 : Hid (RB (tw2 wd x0 x1) g3 x1) := hHeld.2
  have G7 := T3
  have G8 := T4
  replace HD := qH (HD.out.to T5.out)
  have HNF : Hid (¬ F2 (wd.heap.size) ∧ ¬ F2 (wd.heap.size + 1)) := ⟨HNFW.out _ (by omega), HNFW.out _ (by omega)⟩
  have HW7 : Hid (w.heap.size ≤ wd.heap.size) := (by (show _ ≤ _); have := B.out.size; omega)
  have HW8 : Hid (w.heap.size ≤ wd.heap.size + 1) := (by (show _ ≤ _); have := B.out.size; omega)
  have HN78 : Hid (wd.heap.size ≠ wd.heap.size + 1) := (by (show _ ≠ _); omega)
  have HNE : Hid (g2 ≠ wd.heap.size ∧ g3 ≠ wd.heap.size ∧ g2 ≠ wd.heap.size + 1 ∧ g3 ≠ wd.heap.size + 1) := (by (show _ ∧ _); have := HNN.out; omega)
  replace B := qH (B.out.trans (T5.out.mono B.out.size))
  refine wpAnyH_done (by kernel_rfl) ?_ _
  clear HK1 HK2 HK3 T1 T2 T3 T4 T5 V1 V2 V3 V4 V5 BX BW1 BW2 HNN HNFW
  have hE : ((((wd.alloc (.cells (rcL Rcd.zero).toArray 34)).alloc (.cells (rcL Rcd.zero).toArray 34)).setRow wd.heap.size (rcL x0).toArray).setRow (wd.heap.size + 1) (rcL x1).toArray) = tw2 wd x0 x1 := rfl
  rw [hE]
  clear hE
  generalize tw2 wd x0 x1 = wz at *
  generalize wd.heap.size + 1 = g8 at *
  generalize wd.heap.size = g7 at *
  clear hHeld
  obtain ⟨y2, -⟩ := G2.out.cells
  obtain ⟨y3, -⟩ := G3.out.cells
  by_cases hgt : x1.seq > x0.seq
  ·have HGZ := qH (HG1.out hgt)
   go_upto_region 10 with (fail)
   clear y2 y3 hgt HG1 HG2
   obtain ⟨wf, hwf⟩ : ∃ x, wz.drew = x := ⟨_, rfl⟩
   have BS : Below wz.heap.size wz wf := by rw [← hwf]; exact (Below.refl _ _).drew
   replace G2 := qH (G2.out.to BS)
   replace G3 := qH (G3.out.to BS)
   replace G7 := qH (G7.out.to BS)
   replace G8 := qH (G8.out.to BS)
   replace HD := qH (HD.out.to BS)
   replace B := qH (B.out.trans (BS.mono B.out.size))
   refine wp_region_held_drew (S := (fun w' => RB w' g2 x0 ∧ RB w' g3 x1)) (by kernel_rfl) ((by rw [hwf]; exact ⟨G2.out, G3.out⟩)) (fun hHeld => ?_)
   rw [hwf] at hHeld ⊢
   clear hwf BS
   refine tl 0 (.agg (rcL x1).toArray) rfl (yieldsIf_load_row (by rfl) 34 _ rfl g3 rfl 34 (rcL x1).toArray (0, 0) _ (fun w' h => h.2.row) Tryz.underlying34 rfl SB.out) ?_
   simp only [pR]
   refine tl 1 (.agg (rcL x0).toArray) rfl (yieldsIf_load_row (by rfl) 34 _ rfl g2 rfl 34 (rcL x0).toArray (0, 0) _ (fun w' h => h.1.row) Tryz.underlying34 rfl SA.out) ?_
   simp only [pR]
   clear hHeld
   refine rd1 2 (fun K hK => ?_)
   rw [if_pos (by rfl)]
   refine wp_store_row0 34 _ _ rfl rfl g7 (rcL x1).toArray rfl rfl 34 _ G7.out.row SB.out (by rw [rcL_size HA.out.hash, rcL_size HB.out.hash]) (rc_one _) ?_
   refine hK.out _ _ (⟨G2.out.setOther HNE.out.1, G3.out.setOther HNE.out.2.1⟩) (fun hHeld => ?_)
   clear hK K
   have HDa := qH (HD.out.kept (keep_setRow g7 (rcL x1).toArray) (fun k hk e => HNF.out.1 (by rw [← e]; exact hk)))
   have G2a := qH hHeld.1
   have G3a := qH hHeld.2
   have G7a := qH (G7.out.setRow (r' := x1) HB.out.hash)
   have G8a := qH (G8.out.setOther (cs := (rcL x1).toArray) (fun e => HN78.out e.symm))
   have Ba := qH (below_setRow B.out HW7.out (rcL x1).toArray)
   clear hHeld
   generalize wf.setRow g7 (rcL x1).toArray = wg at *
   refine rd1 3 (fun K hK => ?_)
   rw [if_pos (by rfl)]
   refine wp_store_row0 34 _ _ rfl rfl g8 (rcL x0).toArray rfl rfl 34 _ G8a.out.row SA.out (by rw [rcL_size HA.out.hash, rcL_size HB.out.hash]) (rc_one _) ?_
   refine hK.out _ _ (⟨G2a.out.setOther HNE.out.2.2.1, G3a.out.setOther HNE.out.2.2.2⟩) (fun hHeld => ?_)
   clear hK K
   replace HD := qH (HDa.out.kept (keep_setRow g8 (rcL x0).toArray) (fun k hk e => HNF.out.2 (by rw [← e]; exact hk)))
   replace G7 := qH (G7a.out.setOther (cs := (rcL x0).toArray) HN78.out)
   replace G8 := qH (G8a.out.setRow (r' := x0) HA.out.hash)
   replace B := qH (below_setRow Ba.out HW8.out (rcL x0).toArray)
   clear hHeld HDa G2a G3a G7a G8a Ba G2 G3
   generalize wg.setRow g8 (rcL x0).toArray = wh at *
   refine wpAnyH_done (by kernel_rfl) ?_ _
   have hsub := sub_eqC (x := x1.seq) (y := x0.seq) (by have := HI1.out; omega) HB.out.seq.2 (by have := HI1.out; omega) HA.out.seq.2
   by_cases hd0 : x0.seq = x1.seq - 1
   ·have HGQ : Hid (cmGet sz = (x1, x0, 0)) := by (show _ = _); rw [HGZ.out, if_pos hd0]
    have hd1 : (x1.seq - x0.seq != 1) = false := by rw [show x1.seq - x0.seq = 1 by omega]; rfl
    clear hd0 HGZ
    go_wp2_with fail
    refine (cGet d F2 sz wh HD.out).mono ?_
    rw [HGQ.out]
    rintro e wx ⟨rfl, hb⟩
    obtain ⟨t1, t2, t3, t4, t5⟩ := tw_is wx (x := x1) (y := x0) HB.out.hash HA.out.hash
    have T1q := qH t1
    have T2q := qH t2
    have T3q := qH t3
    have T4q := qH t4
    have B7 := qH (hb.trans (t5.mono hb.size))
    have HWX : Hid (wh.heap.size ≤ wx.heap.size) := hb.size
    clear hb t1 t2 t3 t4 t5 HD
    go_upto_region 12 with (first | (refine wpList_store_row rfl 34 _ _ rfl wx.heap.size (rcL x1).toArray rfl rfl 34 (rcL Rcd.zero).toArray T1q.out (rc_size HB.out.hash) (rc_same HB.out.hash) (rc_one _) ?_) | (refine wpList_store_row rfl 34 _ _ rfl (wx.heap.size + 1) (rcL x0).toArray rfl rfl 34 (rcL Rcd.zero).toArray T2q.out (rc_size HA.out.hash) (rc_same HA.out.hash) (rc_one _) ?_))
    have hE : (((wx.alloc (.cells (rcL Rcd.zero).toArray 34)).alloc (.cells (rcL Rcd.zero).toArray 34)).setRow wx.heap.size (rcL x1).toArray).setRow (wx.heap.size + 1) (rcL x0).toArray = tw2 wx x1 x0 := rfl
    rw [hE]
    clear hE T1q T2q
    have HGP : Hid (g8 < wx.heap.size + 1 ∧ g8 ≠ wx.heap.size ∧ g8 ≠ wx.heap.size + 1) := by (show _ ∧ _); have h8 := G8.out.lt; have hz9 : wh.heap.size ≤ wx.heap.size := HWX.out; omega
    replace G7 := qH (G7.out.to B7.out)
    replace G8 := qH (G8.out.to B7.out)
    replace B := qH (B.out.trans (B7.out.mono B.out.size))
    generalize tw2 wx x1 x0 = w9 at *
    generalize wx.heap.size + 1 = gq at *
    generalize wx.heap.size = gp at *
    obtain ⟨y7, -⟩ := G7.out.cells
    obtain ⟨y8, -⟩ := G8.out.cells
    go_upto_region 14 with (fail)
    clear y7 y8 hsub hd1
    have G9 := qH T3q.out.row
    have G10 := qH T4q.out.row
    go_wp2_with (first
     | (refine wpList_load_rowGm (by rfl) 34 _ rfl gp rfl 34 (rcL x1).toArray (0, 0) _ G9.out Tryz.underlying34 rfl (rc_size HB.out.hash) ?_; refine wpList_load_rowGm (by rfl) 34 _ rfl g7 rfl 34 (rcL x1).toArray (0, 0) _ G7.out.row Tryz.underlying34 rfl (rc_size HB.out.hash) ?_; refine wpList_eqB (by rfl) _ _ rfl x1 x1 rfl rfl HB.out.hash HB.out.hash true (decide_eq_true rfl) ?_)
     | (refine wpList_load_rowGm (by rfl) 34 _ rfl gq rfl 34 (rcL x0).toArray (0, 0) _ G10.out Tryz.underlying34 rfl (rc_size HA.out.hash) ?_; refine wpList_load_rowGm (by rfl) 34 _ rfl g8 rfl 34 (rcL x0).toArray (0, 0) _ G8.out.row Tryz.underlying34 rfl (rc_size HA.out.hash) ?_; refine wpList_eqB (by rfl) _ _ rfl x0 x0 rfl rfl HA.out.hash HA.out.hash true (decide_eq_true rfl) ?_))
    go_ret
    exact ⟨rfl, B.out⟩
   ·have HGQ : Hid (cmGet sz = (x1, Rcd.zero, 0)) := by (show _ = _); rw [HGZ.out, if_neg hd0]
    have hd1 : (x1.seq - x0.seq != 1) = true := bne_iff_ne.2 (by omega)
    clear hd0 HGZ
    go_wp2_with fail
    refine (cGet d F2 sz wh HD.out).mono ?_
    rw [HGQ.out]
    rintro e wx ⟨rfl, hb⟩
    obtain ⟨t1, t2, t3, t4, t5⟩ := tw_is wx (x := x1) (y := Rcd.zero) HB.out.hash rfl
    have T1q := qH t1
    have T2q := qH t2
    have T3q := qH t3
    have T4q := qH t4
    have B7 := qH (hb.trans (t5.mono hb.size))
    have HWX : Hid (wh.heap.size ≤ wx.heap.size) := hb.size
    clear hb t1 t2 t3 t4 t5 HD
    go_upto_region 12 with (first | (refine wpList_store_row rfl 34 _ _ rfl wx.heap.size (rcL x1).toArray rfl rfl 34 (rcL Rcd.zero).toArray T1q.out (rc_size HB.out.hash) (rc_same HB.out.hash) (rc_one _) ?_) | (refine wpList_store_row rfl 34 _ _ rfl (wx.heap.size + 1) (rcL Rcd.zero).toArray rfl rfl 34 (rcL Rcd.zero).toArray T2q.out (rc_size rfl) (rc_same rfl) (rc_one _) ?_))
    have hE : (((wx.alloc (.cells (rcL Rcd.zero).toArray 34)).alloc (.cells (rcL Rcd.zero).toArray 34)).setRow wx.heap.size (rcL x1).toArray).setRow (wx.heap.size + 1) (rcL Rcd.zero).toArray = tw2 wx x1 Rcd.zero := rfl
    rw [hE]
    clear hE T1q T2q
    have HGP : Hid (g8 < wx.heap.size + 1 ∧ g8 ≠ wx.heap.size ∧ g8 ≠ wx.heap.size + 1) := by (show _ ∧ _); have h8 := G8.out.lt; have hz9 : wh.heap.size ≤ wx.heap.size := HWX.out; omega
    replace G7 := qH (G7.out.to B7.out)
    replace G8 := qH (G8.out.to B7.out)
    replace B := qH (B.out.trans (B7.out.mono B.out.size))
    generalize tw2 wx x1 Rcd.zero = w9 at *
    generalize wx.heap.size + 1 = gq at *
    generalize wx.heap.size = gp at *
    obtain ⟨y7, -⟩ := G7.out.cells
    obtain ⟨y8, -⟩ := G8.out.cells
    go_upto_region 13 with (fail)
    go_upto_region 14 with (refine wpList_store_row rfl 34 _ _ rfl g8 (rcL Rcd.zero).toArray rfl rfl 34 (rcL x0).toArray G8.out.row (rc_size rfl) (by rw [rcL_size HA.out.hash, rcL_size rfl]) (rc_one _) ?_)
    have hn1 : gp ≠ g8 := fun e => HGP.out.2.1 e.symm
    have hn2 : gq ≠ g8 := fun e => HGP.out.2.2 e.symm
    replace T3q := qH (T3q.out.setOther (cs := (rcL Rcd.zero).toArray) hn1)
    replace T4q := qH (T4q.out.setOther (cs := (rcL Rcd.zero).toArray) hn2)
    replace G7 := qH (G7.out.setOther (cs := (rcL Rcd.zero).toArray) HN78.out)
    replace G8 := qH (G8.out.setRow (r' := Rcd.zero) rfl)
    replace B := qH (below_setRow B.out HW8.out (rcL Rcd.zero).toArray)
    generalize w9.setRow g8 (rcL Rcd.zero).toArray = w10 at *
    clear hn1 hn2
    clear y7 y8 hsub hd1
    have G9 := qH T3q.out.row
    have G10 := qH T4q.out.row
    go_wp2_with (first
     | (refine wpList_load_rowGm (by rfl) 34 _ rfl gp rfl 34 (rcL x1).toArray (0, 0) _ G9.out Tryz.underlying34 rfl (rc_size HB.out.hash) ?_; refine wpList_load_rowGm (by rfl) 34 _ rfl g7 rfl 34 (rcL x1).toArray (0, 0) _ G7.out.row Tryz.underlying34 rfl (rc_size HB.out.hash) ?_; refine wpList_eqB (by rfl) _ _ rfl x1 x1 rfl rfl HB.out.hash HB.out.hash true (decide_eq_true rfl) ?_)
     | (refine wpList_load_rowGm (by rfl) 34 _ rfl gq rfl 34 (rcL Rcd.zero).toArray (0, 0) _ G10.out Tryz.underlying34 rfl (rc_size rfl) ?_; refine wpList_load_rowGm (by rfl) 34 _ rfl g8 rfl 34 (rcL Rcd.zero).toArray (0, 0) _ G8.out.row Tryz.underlying34 rfl (rc_size rfl) ?_; refine wpList_eqB (by rfl) _ _ rfl Rcd.zero Rcd.zero rfl rfl rfl rfl true (decide_eq_true rfl) ?_))
    go_ret
    exact ⟨rfl, B.out⟩
  ·obtain ⟨hgt2, hgz⟩ := HG2.out (by omega)
   have HGZ := qH hgz
   go_upto_region 11 with (fail)
   clear y2 y3 hgt HG1 HG2 hgt2 hgz G2 G3
   have hsub := sub_eqC (x := x0.seq) (y := x1.seq) (by have := HI1.out; omega) HA.out.seq.2 (by have := HI1.out; omega) HB.out.seq.2
   by_cases hd0 : x1.seq = x0.seq - 1
   ·have HGQ : Hid (cmGet sz = (x0, x1, 0)) := by (show _ = _); rw [HGZ.out, if_pos hd0]
    have hd1 : (x0.seq - x1.seq != 1) = false := by rw [show x0.seq - x1.seq = 1 by omega]; rfl
    clear hd0 HGZ
    go_wp2_with fail
    refine (cGet d F2 sz wz HD.out).mono ?_
    rw [HGQ.out]
    rintro e wx ⟨rfl, hb⟩
    obtain ⟨t1, t2, t3, t4, t5⟩ := tw_is wx (x := x0) (y := x1) HA.out.hash HB.out.hash
    have T1q := qH t1
    have T2q := qH t2
    have T3q := qH t3
    have T4q := qH t4
    have B7 := qH (hb.trans (t5.mono hb.size))
    have HWX : Hid (wz.heap.size ≤ wx.heap.size) := hb.size
    clear hb t1 t2 t3 t4 t5 HD
    go_upto_region 12 with (first | (refine wpList_store_row rfl 34 _ _ rfl wx.heap.size (rcL x0).toArray rfl rfl 34 (rcL Rcd.zero).toArray T1q.out (rc_size HA.out.hash) (rc_same HA.out.hash) (rc_one _) ?_) | (refine wpList_store_row rfl 34 _ _ rfl (wx.heap.size + 1) (rcL x1).toArray rfl rfl 34 (rcL Rcd.zero).toArray T2q.out (rc_size HB.out.hash) (rc_same HB.out.hash) (rc_one _) ?_))
    have hE : (((wx.alloc (.cells (rcL Rcd.zero).toArray 34)).alloc (.cells (rcL Rcd.zero).toArray 34)).setRow wx.heap.size (rcL x0).toArray).setRow (wx.heap.size + 1) (rcL x1).toArray = tw2 wx x0 x1 := rfl
    rw [hE]
    clear hE T1q T2q
    have HGP : Hid (g8 < wx.heap.size + 1 ∧ g8 ≠ wx.heap.size ∧ g8 ≠ wx.heap.size + 1) := by (show _ ∧ _); have h8 := G8.out.lt; have hz9 : wz.heap.size ≤ wx.heap.size := HWX.out; omega
    replace G7 := qH (G7.out.to B7.out)
    replace G8 := qH (G8.out.to B7.out)
    replace B := qH (B.out.trans (B7.out.mono B.out.size))
    generalize tw2 wx x0 x1 = w9 at *
    generalize wx.heap.size + 1 = gq at *
    generalize wx.heap.size = gp at *
    obtain ⟨y7, -⟩ := G7.out.cells
    obtain ⟨y8, -⟩ := G8.out.cells
    go_upto_region 14 with (fail)
    clear y7 y8 hsub hd1
    have G9 := qH T3q.out.row
    have G10 := qH T4q.out.row
    go_wp2_with (first
     | (refine wpList_load_rowGm (by rfl) 34 _ rfl gp rfl 34 (rcL x0).toArray (0, 0) _ G9.out Tryz.underlying34 rfl (rc_size HA.out.hash) ?_; refine wpList_load_rowGm (by rfl) 34 _ rfl g7 rfl 34 (rcL x0).toArray (0, 0) _ G7.out.row Tryz.underlying34 rfl (rc_size HA.out.hash) ?_; refine wpList_eqB (by rfl) _ _ rfl x0 x0 rfl rfl HA.out.hash HA.out.hash true (decide_eq_true rfl) ?_)
     | (refine wpList_load_rowGm (by rfl) 34 _ rfl gq rfl 34 (rcL x1).toArray (0, 0) _ G10.out Tryz.underlying34 rfl (rc_size HB.out.hash) ?_; refine wpList_load_rowGm (by rfl) 34 _ rfl g8 rfl 34 (rcL x1).toArray (0, 0) _ G8.out.row Tryz.underlying34 rfl (rc_size HB.out.hash) ?_; refine wpList_eqB (by rfl) _ _ rfl x1 x1 rfl rfl HB.out.hash HB.out.hash true (decide_eq_true rfl) ?_))
    go_ret
    exact ⟨rfl, B.out⟩
   ·have HGQ : Hid (cmGet sz = (x0, Rcd.zero, 0)) := by (show _ = _); rw [HGZ.out, if_neg hd0]
    have hd1 : (x0.seq - x1.seq != 1) = true := bne_iff_ne.2 (by omega)
    clear hd0 HGZ
    go_wp2_with fail
    refine (cGet d F2 sz wz HD.out).mono ?_
    rw [HGQ.out]
    rintro e wx ⟨rfl, hb⟩
    obtain ⟨t1, t2, t3, t4, t5⟩ := tw_is wx (x := x0) (y := Rcd.zero) HA.out.hash rfl
    have T1q := qH t1
    have T2q := qH t2
    have T3q := qH t3
    have T4q := qH t4
    have B7 := qH (hb.trans (t5.mono hb.size))
    have HWX : Hid (wz.heap.size ≤ wx.heap.size) := hb.size
    clear hb t1 t2 t3 t4 t5 HD
    go_upto_region 12 with (first | (refine wpList_store_row rfl 34 _ _ rfl wx.heap.size (rcL x0).toArray rfl rfl 34 (rcL Rcd.zero).toArray T1q.out (rc_size HA.out.hash) (rc_same HA.out.hash) (rc_one _) ?_) | (refine wpList_store_row rfl 34 _ _ rfl (wx.heap.size + 1) (rcL Rcd.zero).toArray rfl rfl 34 (rcL Rcd.zero).toArray T2q.out (rc_size rfl) (rc_same rfl) (rc_one _) ?_))
    have hE : (((wx.alloc (.cells (rcL Rcd.zero).toArray 34)).alloc (.cells (rcL Rcd.zero).toArray 34)).setRow wx.heap.size (rcL x0).toArray).setRow (wx.heap.size + 1) (rcL Rcd.zero).toArray = tw2 wx x0 Rcd.zero := rfl
    rw [hE]
    clear hE T1q T2q
    have HGP : Hid (g8 < wx.heap.size + 1 ∧ g8 ≠ wx.heap.size ∧ g8 ≠ wx.heap.size + 1) := by (show _ ∧ _); have h8 := G8.out.lt; have hz9 : wz.heap.size ≤ wx.heap.size := HWX.out; omega
    replace G7 := qH (G7.out.to B7.out)
    replace G8 := qH (G8.out.to B7.out)
    replace B := qH (B.out.trans (B7.out.mono B.out.size))
    generalize tw2 wx x0 Rcd.zero = w9 at *
    generalize wx.heap.size + 1 = gq at *
    generalize wx.heap.size = gp at *
    obtain ⟨y7, -⟩ := G7.out.cells
    obtain ⟨y8, -⟩ := G8.out.cells
    go_upto_region 13 with (fail)
    go_upto_region 14 with (refine wpList_store_row rfl 34 _ _ rfl g8 (rcL Rcd.zero).toArray rfl rfl 34 (rcL x1).toArray G8.out.row (rc_size rfl) (by rw [rcL_size HB.out.hash, rcL_size rfl]) (rc_one _) ?_)
    have hn1 : gp ≠ g8 := fun e => HGP.out.2.1 e.symm
    have hn2 : gq ≠ g8 := fun e => HGP.out.2.2 e.symm
    replace T3q := qH (T3q.out.setOther (cs := (rcL Rcd.zero).toArray) hn1)
    replace T4q := qH (T4q.out.setOther (cs := (rcL Rcd.zero).toArray) hn2)
    replace G7 := qH (G7.out.setOther (cs := (rcL Rcd.zero).toArray) HN78.out)
    replace G8 := qH (G8.out.setRow (r' := Rcd.zero) rfl)
    replace B := qH (below_setRow B.out HW8.out (rcL Rcd.zero).toArray)
    generalize w9.setRow g8 (rcL Rcd.zero).toArray = w10 at *
    clear hn1 hn2
    clear y7 y8 hsub hd1
    have G9 := qH T3q.out.row
    have G10 := qH T4q.out.row
    go_wp2_with (first
     | (refine wpList_load_rowGm (by rfl) 34 _ rfl gp rfl 34 (rcL x0).toArray (0, 0) _ G9.out Tryz.underlying34 rfl (rc_size HA.out.hash) ?_; refine wpList_load_rowGm (by rfl) 34 _ rfl g7 rfl 34 (rcL x0).toArray (0, 0) _ G7.out.row Tryz.underlying34 rfl (rc_size HA.out.hash) ?_; refine wpList_eqB (by rfl) _ _ rfl x0 x0 rfl rfl HA.out.hash HA.out.hash true (decide_eq_true rfl) ?_)
     | (refine wpList_load_rowGm (by rfl) 34 _ rfl gq rfl 34 (rcL Rcd.zero).toArray (0, 0) _ G10.out Tryz.underlying34 rfl (rc_size rfl) ?_; refine wpList_load_rowGm (by rfl) 34 _ rfl g8 rfl 34 (rcL Rcd.zero).toArray (0, 0) _ G8.out.row Tryz.underlying34 rfl (rc_size rfl) ?_; refine wpList_eqB (by rfl) _ _ rfl Rcd.zero Rcd.zero rfl rfl rfl rfl true (decide_eq_true rfl) ?_))
    go_ret
    exact ⟨rfl, B.out⟩
 ·skip
  go_simp
  refine hK.out _ _ (HK1.out) (fun hHeld => ?_)
  clear hK K
  refine rd1 2 (fun K hK => ?_)
  go_simp
  refine hK.out _ _ (HK2.out) (fun hHeld => ?_)
  clear hK K
  clear hHeld
  refine rd1 4 (fun K hK => ?_)
  rw [if_pos (by rfl)]
  refine wp_store_row0 34 _ _ rfl rfl (wd.heap.size + 1) (rcL x0).toArray rfl rfl 34 _ V1.out SA.out (rc_same HA.out.hash) (rc_one _) ?_
  refine hK.out _ _ (⟨HK2.out.1.setOther HNN.out.2.2.1, HK2.out.2.setOther HNN.out.2.2.2⟩) (fun hHeld => ?_)
  clear hK K
  have HK3 := qH hHeld
  clear hHeld
  refine rd1 5 (fun K hK => ?_)
  rw [if_pos (by rfl)]
  refine wp_store_row0 34 _ _ rfl rfl (wd.heap.size) (rcL x1).toArray rfl rfl 34 _ V2.out SB.out (rc_same HB.out.hash) (rc_one _) ?_
  refine hK.out _ _ (⟨HK3.out.1.setOther HNN.out.1, HK3.out.2.setOther HNN.out.2.1⟩) (fun hHeld => ?_)
  clear hK K
  have G2 : Hid (RB (((tw0 wd).setRow (wd.heap.size + 1) (rcL x0).toArray).setRow wd.heap.size (rcL x1).toArray) g2 x0) := hHeld.1
  have G3 : Hid (RB (((tw0 wd).setRow (wd.heap.size + 1) (rcL x0).toArray).setRow wd.heap.size (rcL x1).toArray) g3 x1) := hHeld.2
  have G7 := V3
  have G8 := V4
  replace HD := qH (HD.out.to V5.out)
  have HNF : Hid (¬ F2 (wd.heap.size + 1) ∧ ¬ F2 (wd.heap.size)) := ⟨HNFW.out _ (by omega), HNFW.out _ (by omega)⟩
  have HW7 : Hid (w.heap.size ≤ wd.heap.size + 1) := (by (show _ ≤ _); have := B.out.size; omega)
  have HW8 : Hid (w.heap.size ≤ wd.heap.size) := (by (show _ ≤ _); have := B.out.size; omega)
  have HN78 : Hid (wd.heap.size + 1 ≠ wd.heap.size) := (by (show _ ≠ _); omega)
  have HNE : Hid (g2 ≠ wd.heap.size + 1 ∧ g3 ≠ wd.heap.size + 1 ∧ g2 ≠ wd.heap.size ∧ g3 ≠ wd.heap.size) := (by (show _ ∧ _); have := HNN.out; omega)
  replace B := qH (B.out.trans (V5.out.mono B.out.size))
  refine wpAnyH_done (by kernel_rfl) ?_ _
  clear HK1 HK2 HK3 T1 T2 T3 T4 T5 V1 V2 V3 V4 V5 BX BW1 BW2 HNN HNFW
  have hE : ((((wd.alloc (.cells (rcL Rcd.zero).toArray 34)).alloc (.cells (rcL Rcd.zero).toArray 34)).setRow (wd.heap.size + 1) (rcL x0).toArray).setRow wd.heap.size (rcL x1).toArray) = ((tw0 wd).setRow (wd.heap.size + 1) (rcL x0).toArray).setRow wd.heap.size (rcL x1).toArray := rfl
  rw [hE]
  clear hE
  generalize ((tw0 wd).setRow (wd.heap.size + 1) (rcL x0).toArray).setRow wd.heap.size (rcL x1).toArray = wz at *
  generalize wd.heap.size + 1 = g7 at *
  generalize wd.heap.size = g8 at *
  clear hHeld
  obtain ⟨y2, -⟩ := G2.out.cells
  obtain ⟨y3, -⟩ := G3.out.cells
  by_cases hgt : x1.seq > x0.seq
  ·have HGZ := qH (HG1.out hgt)
   go_upto_region 10 with (fail)
   clear y2 y3 hgt HG1 HG2
   obtain ⟨wf, hwf⟩ : ∃ x, wz.drew = x := ⟨_, rfl⟩
   have BS : Below wz.heap.size wz wf := by rw [← hwf]; exact (Below.refl _ _).drew
   replace G2 := qH (G2.out.to BS)
   replace G3 := qH (G3.out.to BS)
   replace G7 := qH (G7.out.to BS)
   replace G8 := qH (G8.out.to BS)
   replace HD := qH (HD.out.to BS)
   replace B := qH (B.out.trans (BS.mono B.out.size))
   refine wp_region_held_drew (S := (fun w' => RB w' g2 x0 ∧ RB w' g3 x1)) (by kernel_rfl) ((by rw [hwf]; exact ⟨G2.out, G3.out⟩)) (fun hHeld => ?_)
   rw [hwf] at hHeld ⊢
   clear hwf BS
   refine tl 0 (.agg (rcL x1).toArray) rfl (yieldsIf_load_row (by rfl) 34 _ rfl g3 rfl 34 (rcL x1).toArray (0, 0) _ (fun w' h => h.2.row) Tryz.underlying34 rfl SB.out) ?_
   simp only [pR]
   refine tl 1 (.agg (rcL x0).toArray) rfl (yieldsIf_load_row (by rfl) 34 _ rfl g2 rfl 34 (rcL x0).toArray (0, 0) _ (fun w' h => h.1.row) Tryz.underlying34 rfl SA.out) ?_
   simp only [pR]
   clear hHeld
   refine rd1 2 (fun K hK => ?_)
   rw [if_pos (by rfl)]
   refine wp_store_row0 34 _ _ rfl rfl g7 (rcL x1).toArray rfl rfl 34 _ G7.out.row SB.out (by rw [rcL_size HA.out.hash, rcL_size HB.out.hash]) (rc_one _) ?_
   refine hK.out _ _ (⟨G2.out.setOther HNE.out.1, G3.out.setOther HNE.out.2.1⟩) (fun hHeld => ?_)
   clear hK K
   have HDa := qH (HD.out.kept (keep_setRow g7 (rcL x1).toArray) (fun k hk e => HNF.out.1 (by rw [← e]; exact hk)))
   have G2a := qH hHeld.1
   have G3a := qH hHeld.2
   have G7a := qH (G7.out.setRow (r' := x1) HB.out.hash)
   have G8a := qH (G8.out.setOther (cs := (rcL x1).toArray) (fun e => HN78.out e.symm))
   have Ba := qH (below_setRow B.out HW7.out (rcL x1).toArray)
   clear hHeld
   generalize wf.setRow g7 (rcL x1).toArray = wg at *
   refine rd1 3 (fun K hK => ?_)
   rw [if_pos (by rfl)]
   refine wp_store_row0 34 _ _ rfl rfl g8 (rcL x0).toArray rfl rfl 34 _ G8a.out.row SA.out (by rw [rcL_size HA.out.hash, rcL_size HB.out.hash]) (rc_one _) ?_
   refine hK.out _ _ (⟨G2a.out.setOther HNE.out.2.2.1, G3a.out.setOther HNE.out.2.2.2⟩) (fun hHeld => ?_)
   clear hK K
   replace HD := qH (HDa.out.kept (keep_setRow g8 (rcL x0).toArray) (fun k hk e => HNF.out.2 (by rw [← e]; exact hk)))
   replace G7 := qH (G7a.out.setOther (cs := (rcL x0).toArray) HN78.out)
   replace G8 := qH (G8a.out.setRow (r' := x0) HA.out.hash)
   replace B := qH (below_setRow Ba.out HW8.out (rcL x0).toArray)
   clear hHeld HDa G2a G3a G7a G8a Ba G2 G3
   generalize wg.setRow g8 (rcL x0).toArray = wh at *
   refine wpAnyH_done (by kernel_rfl) ?_ _
   have hsub := sub_eqC (x := x1.seq) (y := x0.seq) (by have := HI1.out; omega) HB.out.seq.2 (by have := HI1.out; omega) HA.out.seq.2
   by_cases hd0 : x0.seq = x1.seq - 1
   ·have HGQ : Hid (cmGet sz = (x1, x0, 0)) := by (show _ = _); rw [HGZ.out, if_pos hd0]
    have hd1 : (x1.seq - x0.seq != 1) = false := by rw [show x1.seq - x0.seq = 1 by omega]; rfl
    clear hd0 HGZ
    go_wp2_with fail
    refine (cGet d F2 sz wh HD.out).mono ?_
    rw [HGQ.out]
    rintro e wx ⟨rfl, hb⟩
    obtain ⟨t1, t2, t3, t4, t5⟩ := tw_is wx (x := x1) (y := x0) HB.out.hash HA.out.hash
    have T1q := qH t1
    have T2q := qH t2
    have T3q := qH t3
    have T4q := qH t4
    have B7 := qH (hb.trans (t5.mono hb.size))
    have HWX : Hid (wh.heap.size ≤ wx.heap.size) := hb.size
    clear hb t1 t2 t3 t4 t5 HD
    go_upto_region 12 with (first | (refine wpList_store_row rfl 34 _ _ rfl wx.heap.size (rcL x1).toArray rfl rfl 34 (rcL Rcd.zero).toArray T1q.out (rc_size HB.out.hash) (rc_same HB.out.hash) (rc_one _) ?_) | (refine wpList_store_row rfl 34 _ _ rfl (wx.heap.size + 1) (rcL x0).toArray rfl rfl 34 (rcL Rcd.zero).toArray T2q.out (rc_size HA.out.hash) (rc_same HA.out.hash) (rc_one _) ?_))
    have hE : (((wx.alloc (.cells (rcL Rcd.zero).toArray 34)).alloc (.cells (rcL Rcd.zero).toArray 34)).setRow wx.heap.size (rcL x1).toArray).setRow (wx.heap.size + 1) (rcL x0).toArray = tw2 wx x1 x0 := rfl
    rw [hE]
    clear hE T1q T2q
    have HGP : Hid (g8 < wx.heap.size + 1 ∧ g8 ≠ wx.heap.size ∧ g8 ≠ wx.heap.size + 1) := by (show _ ∧ _); have h8 := G8.out.lt; have hz9 : wh.heap.size ≤ wx.heap.size := HWX.out; omega
    replace G7 := qH (G7.out.to B7.out)
    replace G8 := qH (G8.out.to B7.out)
    replace B := qH (B.out.trans (B7.out.mono B.out.size))
    generalize tw2 wx x1 x0 = w9 at *
    generalize wx.heap.size + 1 = gq at *
    generalize wx.heap.size = gp at *
    obtain ⟨y7, -⟩ := G7.out.cells
    obtain ⟨y8, -⟩ := G8.out.cells
    go_upto_region 14 with (fail)
    clear y7 y8 hsub hd1
    have G9 := qH T3q.out.row
    have G10 := qH T4q.out.row
    go_wp2_with (first
     | (refine wpList_load_rowGm (by rfl) 34 _ rfl gp rfl 34 (rcL x1).toArray (0, 0) _ G9.out Tryz.underlying34 rfl (rc_size HB.out.hash) ?_; refine wpList_load_rowGm (by rfl) 34 _ rfl g7 rfl 34 (rcL x1).toArray (0, 0) _ G7.out.row Tryz.underlying34 rfl (rc_size HB.out.hash) ?_; refine wpList_eqB (by rfl) _ _ rfl x1 x1 rfl rfl HB.out.hash HB.out.hash true (decide_eq_true rfl) ?_)
     | (refine wpList_load_rowGm (by rfl) 34 _ rfl gq rfl 34 (rcL x0).toArray (0, 0) _ G10.out Tryz.underlying34 rfl (rc_size HA.out.hash) ?_; refine wpList_load_rowGm (by rfl) 34 _ rfl g8 rfl 34 (rcL x0).toArray (0, 0) _ G8.out.row Tryz.underlying34 rfl (rc_size HA.out.hash) ?_; refine wpList_eqB (by rfl) _ _ rfl x0 x0 rfl rfl HA.out.hash HA.out.hash true (decide_eq_true rfl) ?_))
    go_ret
    exact ⟨rfl, B.out⟩
   ·have HGQ : Hid (cmGet sz = (x1, Rcd.zero, 0)) := by (show _ = _); rw [HGZ.out, if_neg hd0]
    have hd1 : (x1.seq - x0.seq != 1) = true := bne_iff_ne.2 (by omega)
    clear hd0 HGZ
    go_wp2_with fail
    refine (cGet d F2 sz wh HD.out).mono ?_
    rw [HGQ.out]
    rintro e wx ⟨rfl, hb⟩
    obtain ⟨t1, t2, t3, t4, t5⟩ := tw_is wx (x := x1) (y := Rcd.zero) HB.out.hash rfl
    have T1q := qH t1
    have T2q := qH t2
    have T3q := qH t3
    have T4q := qH t4
    have B7 := qH (hb.trans (t5.mono hb.size))
    have HWX : Hid (wh.heap.size ≤ wx.heap.size) := hb.size
    clear hb t1 t2 t3 t4 t5 HD
    go_upto_region 12 with (first | (refine wpList_store_row rfl 34 _ _ rfl wx.heap.size (rcL x1).toArray rfl rfl 34 (rcL Rcd.zero).toArray T1q.out (rc_size HB.out.hash) (rc_same HB.out.hash) (rc_one _) ?_) | (refine wpList_store_row rfl 34 _ _ rfl (wx.heap.size + 1) (rcL Rcd.zero).toArray rfl rfl 34 (rcL Rcd.zero).toArray T2q.out (rc_size rfl) (rc_same rfl) (rc_one _) ?_))
    have hE : (((wx.alloc (.cells (rcL Rcd.zero).toArray 34)).alloc (.cells (rcL Rcd.zero).toArray 34)).setRow wx.heap.size (rcL x1).toArray).setRow (wx.heap.size + 1) (rcL Rcd.zero).toArray = tw2 wx x1 Rcd.zero := rfl
    rw [hE]
    clear hE T1q T2q
    have HGP : Hid (g8 < wx.heap.size + 1 ∧ g8 ≠ wx.heap.size ∧ g8 ≠ wx.heap.size + 1) := by (show _ ∧ _); have h8 := G8.out.lt; have hz9 : wh.heap.size ≤ wx.heap.size := HWX.out; omega
    replace G7 := qH (G7.out.to B7.out)
    replace G8 := qH (G8.out.to B7.out)
    replace B := qH (B.out.trans (B7.out.mono B.out.size))
    generalize tw2 wx x1 Rcd.zero = w9 at *
    generalize wx.heap.size + 1 = gq at *
    generalize wx.heap.size = gp at *
    obtain ⟨y7, -⟩ := G7.out.cells
    obtain ⟨y8, -⟩ := G8.out.cells
    go_upto_region 13 with (fail)
    go_upto_region 14 with (refine wpList_store_row rfl 34 _ _ rfl g8 (rcL Rcd.zero).toArray rfl rfl 34 (rcL x0).toArray G8.out.row (rc_size rfl) (by rw [rcL_size HA.out.hash, rcL_size rfl]) (rc_one _) ?_)
    have hn1 : gp ≠ g8 := fun e => HGP.out.2.1 e.symm
    have hn2 : gq ≠ g8 := fun e => HGP.out.2.2 e.symm
    replace T3q := qH (T3q.out.setOther (cs := (rcL Rcd.zero).toArray) hn1)
    replace T4q := qH (T4q.out.setOther (cs := (rcL Rcd.zero).toArray) hn2)
    replace G7 := qH (G7.out.setOther (cs := (rcL Rcd.zero).toArray) HN78.out)
    replace G8 := qH (G8.out.setRow (r' := Rcd.zero) rfl)
    replace B := qH (below_setRow B.out HW8.out (rcL Rcd.zero).toArray)
    generalize w9.setRow g8 (rcL Rcd.zero).toArray = w10 at *
    clear hn1 hn2
    clear y7 y8 hsub hd1
    have G9 := qH T3q.out.row
    have G10 := qH T4q.out.row
    go_wp2_with (first
     | (refine wpList_load_rowGm (by rfl) 34 _ rfl gp rfl 34 (rcL x1).toArray (0, 0) _ G9.out Tryz.underlying34 rfl (rc_size HB.out.hash) ?_; refine wpList_load_rowGm (by rfl) 34 _ rfl g7 rfl 34 (rcL x1).toArray (0, 0) _ G7.out.row Tryz.underlying34 rfl (rc_size HB.out.hash) ?_; refine wpList_eqB (by rfl) _ _ rfl x1 x1 rfl rfl HB.out.hash HB.out.hash true (decide_eq_true rfl) ?_)
     | (refine wpList_load_rowGm (by rfl) 34 _ rfl gq rfl 34 (rcL Rcd.zero).toArray (0, 0) _ G10.out Tryz.underlying34 rfl (rc_size rfl) ?_; refine wpList_load_rowGm (by rfl) 34 _ rfl g8 rfl 34 (rcL Rcd.zero).toArray (0, 0) _ G8.out.row Tryz.underlying34 rfl (rc_size rfl) ?_; refine wpList_eqB (by rfl) _ _ rfl Rcd.zero Rcd.zero rfl rfl rfl rfl true (decide_eq_true rfl) ?_))
    go_ret
    exact ⟨rfl, B.out⟩
  ·obtain ⟨hgt2, hgz⟩ := HG2.out (by omega)
   have HGZ := qH hgz
   go_upto_region 11 with (fail)
   clear y2 y3 hgt HG1 HG2 hgt2 hgz G2 G3
   have hsub := sub_eqC (x := x0.seq) (y := x1.seq) (by have := HI1.out; omega) HA.out.seq.2 (by have := HI1.out; omega) HB.out.seq.2
   by_cases hd0 : x1.seq = x0.seq - 1
   ·have HGQ : Hid (cmGet sz = (x0, x1, 0)) := by (show _ = _); rw [HGZ.out, if_pos hd0]
    have hd1 : (x0.seq - x1.seq != 1) = false := by rw [show x0.seq - x1.seq = 1 by omega]; rfl
    clear hd0 HGZ
    go_wp2_with fail
    refine (cGet d F2 sz wz HD.out).mono ?_
    rw [HGQ.out]
    rintro e wx ⟨rfl, hb⟩
    obtain ⟨t1, t2, t3, t4, t5⟩ := tw_is wx (x := x0) (y := x1) HA.out.hash HB.out.hash
    have T1q := qH t1
    have T2q := qH t2
    have T3q := qH t3
    have T4q := qH t4
    have B7 := qH (hb.trans (t5.mono hb.size))
    have HWX : Hid (wz.heap.size ≤ wx.heap.size) := hb.size
    clear hb t1 t2 t3 t4 t5 HD
    go_upto_region 12 with (first | (refine wpList_store_row rfl 34 _ _ rfl wx.heap.size (rcL x0).toArray rfl rfl 34 (rcL Rcd.zero).toArray T1q.out (rc_size HA.out.hash) (rc_same HA.out.hash) (rc_one _) ?_) | (refine wpList_store_row rfl 34 _ _ rfl (wx.heap.size + 1) (rcL x1).toArray rfl rfl 34 (rcL Rcd.zero).toArray T2q.out (rc_size HB.out.hash) (rc_same HB.out.hash) (rc_one _) ?_))
    have hE : (((wx.alloc (.cells (rcL Rcd.zero).toArray 34)).alloc (.cells (rcL Rcd.zero).toArray 34)).setRow wx.heap.size (rcL x0).toArray).setRow (wx.heap.size + 1) (rcL x1).toArray = tw2 wx x0 x1 := rfl
    rw [hE]
    clear hE T1q T2q
    have HGP : Hid (g8 < wx.heap.size + 1 ∧ g8 ≠ wx.heap.size ∧ g8 ≠ wx.heap.size + 1) := by (show _ ∧ _); have h8 := G8.out.lt; have hz9 : wz.heap.size ≤ wx.heap.size := HWX.out; omega
    replace G7 := qH (G7.out.to B7.out)
    replace G8 := qH (G8.out.to B7.out)
    replace B := qH (B.out.trans (B7.out.mono B.out.size))
    generalize tw2 wx x0 x1 = w9 at *
    generalize wx.heap.size + 1 = gq at *
    generalize wx.heap.size = gp at *
    obtain ⟨y7, -⟩ := G7.out.cells
    obtain ⟨y8, -⟩ := G8.out.cells
    go_upto_region 14 with (fail)
    clear y7 y8 hsub hd1
    have G9 := qH T3q.out.row
    have G10 := qH T4q.out.row
    go_wp2_with (first
     | (refine wpList_load_rowGm (by rfl) 34 _ rfl gp rfl 34 (rcL x0).toArray (0, 0) _ G9.out Tryz.underlying34 rfl (rc_size HA.out.hash) ?_; refine wpList_load_rowGm (by rfl) 34 _ rfl g7 rfl 34 (rcL x0).toArray (0, 0) _ G7.out.row Tryz.underlying34 rfl (rc_size HA.out.hash) ?_; refine wpList_eqB (by rfl) _ _ rfl x0 x0 rfl rfl HA.out.hash HA.out.hash true (decide_eq_true rfl) ?_)
     | (refine wpList_load_rowGm (by rfl) 34 _ rfl gq rfl 34 (rcL x1).toArray (0, 0) _ G10.out Tryz.underlying34 rfl (rc_size HB.out.hash) ?_; refine wpList_load_rowGm (by rfl) 34 _ rfl g8 rfl 34 (rcL x1).toArray (0, 0) _ G8.out.row Tryz.underlying34 rfl (rc_size HB.out.hash) ?_; refine wpList_eqB (by rfl) _ _ rfl x1 x1 rfl rfl HB.out.hash HB.out.hash true (decide_eq_true rfl) ?_))
    go_ret
    exact ⟨rfl, B.out⟩
   ·have HGQ : Hid (cmGet sz = (x0, Rcd.zero, 0)) := by (show _ = _); rw [HGZ.out, if_neg hd0]
    have hd1 : (x0.seq - x1.seq != 1) = true := bne_iff_ne.2 (by omega)
    clear hd0 HGZ
    go_wp2_with fail
    refine (cGet d F2 sz wz HD.out).mono ?_
    rw [HGQ.out]
    rintro e wx ⟨rfl, hb⟩
    obtain ⟨t1, t2, t3, t4, t5⟩ := tw_is wx (x := x0) (y := Rcd.zero) HA.out.hash rfl
    have T1q := qH t1
    have T2q := qH t2
    have T3q := qH t3
    have T4q := qH t4
    have B7 := qH (hb.trans (t5.mono hb.size))
    have HWX : Hid (wz.heap.size ≤ wx.heap.size) := hb.size
    clear hb t1 t2 t3 t4 t5 HD
    go_upto_region 12 with (first | (refine wpList_store_row rfl 34 _ _ rfl wx.heap.size (rcL x0).toArray rfl rfl 34 (rcL Rcd.zero).toArray T1q.out (rc_size HA.out.hash) (rc_same HA.out.hash) (rc_one _) ?_) | (refine wpList_store_row rfl 34 _ _ rfl (wx.heap.size + 1) (rcL Rcd.zero).toArray rfl rfl 34 (rcL Rcd.zero).toArray T2q.out (rc_size rfl) (rc_same rfl) (rc_one _) ?_))
    have hE : (((wx.alloc (.cells (rcL Rcd.zero).toArray 34)).alloc (.cells (rcL Rcd.zero).toArray 34)).setRow wx.heap.size (rcL x0).toArray).setRow (wx.heap.size + 1) (rcL Rcd.zero).toArray = tw2 wx x0 Rcd.zero := rfl
    rw [hE]
    clear hE T1q T2q
    have HGP : Hid (g8 < wx.heap.size + 1 ∧ g8 ≠ wx.heap.size ∧ g8 ≠ wx.heap.size + 1) := by (show _ ∧ _); have h8 := G8.out.lt; have hz9 : wz.heap.size ≤ wx.heap.size := HWX.out; omega
    replace G7 := qH (G7.out.to B7.out)
    replace G8 := qH (G8.out.to B7.out)
    replace B := qH (B.out.trans (B7.out.mono B.out.size))
    generalize tw2 wx x0 Rcd.zero = w9 at *
    generalize wx.heap.size + 1 = gq at *
    generalize wx.heap.size = gp at *
    obtain ⟨y7, -⟩ := G7.out.cells
    obtain ⟨y8, -⟩ := G8.out.cells
    go_upto_region 13 with (fail)
    go_upto_region 14 with (refine wpList_store_row rfl 34 _ _ rfl g8 (rcL Rcd.zero).toArray rfl rfl 34 (rcL x1).toArray G8.out.row (rc_size rfl) (by rw [rcL_size HB.out.hash, rcL_size rfl]) (rc_one _) ?_)
    have hn1 : gp ≠ g8 := fun e => HGP.out.2.1 e.symm
    have hn2 : gq ≠ g8 := fun e => HGP.out.2.2 e.symm
    replace T3q := qH (T3q.out.setOther (cs := (rcL Rcd.zero).toArray) hn1)
    replace T4q := qH (T4q.out.setOther (cs := (rcL Rcd.zero).toArray) hn2)
    replace G7 := qH (G7.out.setOther (cs := (rcL Rcd.zero).toArray) HN78.out)
    replace G8 := qH (G8.out.setRow (r' := Rcd.zero) rfl)
    replace B := qH (below_setRow B.out HW8.out (rcL Rcd.zero).toArray)
    generalize w9.setRow g8 (rcL Rcd.zero).toArray = w10 at *
    clear hn1 hn2
    clear y7 y8 hsub hd1
    have G9 := qH T3q.out.row
    have G10 := qH T4q.out.row
    go_wp2_with (first
     | (refine wpList_load_rowGm (by rfl) 34 _ rfl gp rfl 34 (rcL x0).toArray (0, 0) _ G9.out Tryz.underlying34 rfl (rc_size HA.out.hash) ?_; refine wpList_load_rowGm (by rfl) 34 _ rfl g7 rfl 34 (rcL x0).toArray (0, 0) _ G7.out.row Tryz.underlying34 rfl (rc_size HA.out.hash) ?_; refine wpList_eqB (by rfl) _ _ rfl x0 x0 rfl rfl HA.out.hash HA.out.hash true (decide_eq_true rfl) ?_)
     | (refine wpList_load_rowGm (by rfl) 34 _ rfl gq rfl 34 (rcL Rcd.zero).toArray (0, 0) _ G10.out Tryz.underlying34 rfl (rc_size rfl) ?_; refine wpList_load_rowGm (by rfl) 34 _ rfl g8 rfl 34 (rcL Rcd.zero).toArray (0, 0) _ G8.out.row Tryz.underlying34 rfl (rc_size rfl) ?_; refine wpList_eqB (by rfl) _ _ rfl Rcd.zero Rcd.zero rfl rfl rfl rfl true (decide_eq_true rfl) ?_))
    go_ret
    exact ⟨rfl, B.out⟩
theorem lifted (os : Os) (started : os.Started) (H : Type) (enc : TypeId × Value → H) :
  ReturnsInHanded {} Tryz.checked os 7 .any (Rows.commitGapSpec.pre6 enc Tryz.prog Tryz.f7 Rows.commitGapRow.domain false) (Rows.commitGapSpec.post enc Tryz.prog Tryz.f7 false true false false) := by
 refine returnsInHanded_of_change (C := Tryz.checked) own started (by kernel_rfl) Tryz.func7
  (ChangeSpec.witness6 (enc := enc) (C := Tryz.checked) false ⟨#[], #[.agg #[.int .i64 0, .int .i64 0, .int .i64 0, .bool false, .int .u8 0, .int .u8 0, .int .u8 0, .int .u8 0, .int .u8 0, .int .u8 0, .int .u8 0, .int .u8 0, .int .u8 0, .int .u8 0, .int .u8 0, .int .u8 0, .int .u8 0, .int .u8 0, .int .u8 0, .int .u8 0, .int .u8 0, .int .u8 0, .int .u8 0, .int .u8 0, .int .u8 0, .int .u8 0, .int .u8 0, .int .u8 0, .int .u8 0, .int .u8 0, .int .u8 0, .int .u8 0, .int .u8 0, .int .u8 0, .int .u8 0, .int .u8 0], .agg #[.int .i64 0, .int .i64 0, .int .i64 0, .bool false, .int .u8 0, .int .u8 0, .int .u8 0, .int .u8 0, .int .u8 0, .int .u8 0, .int .u8 0, .int .u8 0, .int .u8 0, .int .u8 0, .int .u8 0, .int .u8 0, .int .u8 0, .int .u8 0, .int .u8 0, .int .u8 0, .int .u8 0, .int .u8 0, .int .u8 0, .int .u8 0, .int .u8 0, .int .u8 0, .int .u8 0, .int .u8 0, .int .u8 0, .int .u8 0, .int .u8 0, .int .u8 0, .int .u8 0, .int .u8 0, .int .u8 0, .int .u8 0]], []⟩ 8 (by kernel_rfl) (by kernel_rfl) (by kernel_rfl) (by kernel_rfl)) ?_
 intro W base args ds gs before hval0 hW hcnd _
 have hval : ∀ (j : Nat) t v, Tryz.f7.params[j]? = some t → args[j]? = some v → Value.okWide Tryz.prog W .any base t v := hval0
 have hW' := hW
 obtain ⟨p, q, hA0, hV, rfl, hfz, hnd⟩ := hW
 have hA : DataW.TrodAll enc Tryz.prog W 0 (fun _ => true) true Tryz.f7.params.toList args.toList ds p := hA0
 rw [Tryz.params7] at hA hval
 obtain ⟨v0, vs0, d0, ds0, p0, q0, hargs, rfl, rfl, h0, r0⟩ := trodAll_cons hA
 obtain ⟨v1, vs1, d1, ds1, p1, q1, rfl, rfl, rfl, h1, r1⟩ := trodAll_cons r0
 obtain ⟨rfl, rfl, rfl⟩ := trodAll_nil r1
 obtain rfl : args = #[v0, v1] := by cases args; simp_all
 obtain ⟨rfl, rfl⟩ := trodVars_none hV
 have k0 := h0
 have lt0 : ∀ x ∈ p0, x.block < W.heap.size := by obtain ⟨m, hm⟩ := k0; exact DataW.trod_lt m _ _ _ hm
 obtain ⟨x0, rfl, w0⟩ := open_rc (hval 0 34 v0 rfl rfl) h0
 have k1 := h1
 have lt1 : ∀ x ∈ p1, x.block < W.heap.size := by obtain ⟨m, hm⟩ := k1; exact DataW.trod_lt m _ _ _ hm
 obtain ⟨x1, rfl, w1⟩ := open_rc (hval 1 34 v1 rfl rfl) h1
 clear hA0 hval0
 refine (walk x0 x1 W w0 w1).mono fun e W' ⟨he, bel⟩ => ?_
 subst he
 exact ⟨_, rfl, _, _, _, [], _, [], hW', trodAll_mk1 (shut_bool Tryz.underlying4 _), (trodAll_cons_mk (Below.trod laidOut (by kernel_rfl) (of_decide_eq_true (by kernel_rfl)) k0 bel lt0) (trodAll_cons_mk (Below.trod laidOut (by kernel_rfl) (of_decide_eq_true (by kernel_rfl)) k1 bel lt1) trodAll_mk0)), rfl, bel.frame _, fun h => by cases h⟩
theorem over : Rows.commitGapRow.holds Tryz.pinned (OpenSpec.ofChange Rows.commitGapSpec) :=
 OpenClaim.holds_of_wide 7 Tryz.f7 rfl rfl rfl rfl rfl rfl rfl ⟨rfl, rfl, rfl, rfl, rfl⟩ rfl rfl rfl rfl rfl (by kernel_rfl) Tryz.func7 (by kernel_rfl)
  (of_decide_eq_true (by kernel_rfl)) (by unfold Func.isWrapper; first | (rw [if_pos (by decide +kernel)]; kernel_rfl) | (rw [if_neg (by decide +kernel)]; exact ⟨rfl, rfl⟩))
  (fun os started H enc _ => lifted os started H enc)
theorem proved : Rows.CommitGapSaid := over
end Go.Proofs.YtffdjnhhmfpkgaaGreat.commitGap