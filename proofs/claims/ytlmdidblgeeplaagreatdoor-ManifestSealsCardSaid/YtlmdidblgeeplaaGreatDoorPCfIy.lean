/- Several texts in one (a claim has 60 files at most): CfI. -/
import Derived.Test.YtlmdidblgeeplaaGreatDoorTz
import Derived.Test.YtlmdidblgeeplaaGreatDoorPVaPbx
namespace Go.Proofs.YtlmdidblgeeplaaGreatDoor
set_option maxRecDepth 1000000
set_option maxHeartbeats 8000000
set_option linter.unusedVariables false
set_option linter.unusedSimpArgs false
section
open Go.RowKit
theorem wCopy (v : CV) (c : Cf) (w : World) (h : RdCf w w.heap.size v c) (hw : v.nw ≤ 1000) (hp : v.np ≤ 1000) (hc : v.nc ≤ 1000) :
  Calls Tryz.prog 53 #[.agg #[.slice v.aw v.nw v.kw, .slice v.ap v.np v.kp, .slice v.ac v.nc v.kc]] w fun x w' => ∃ v' : CV, x = .returned v'.val ∧ OwCf w' w.heap.size v' c ∧ Below w.heap.size w w' := by
 obtain ⟨w2, hw2, hb2, hx, hz, hs2⟩ := two_boxes v w
 have R := qH (h.to hb2)
 have X := qH hx
 have Z := qH hz
 have BW := qH hb2
 have S2 := qH hs2
 have HW2 := qH hw2
 have HNW := qH hw
 have HNP := qH hp
 have HNC := qH hc
 clear h hw hp hc hw2 hb2 hx hz hs2
 go_enter Tryz.func53, Tryz.ntmps53
 go_upto_region 1 with (fail)
 rw [show (w.alloc (.cells #[.slice v.aw v.nw v.kw, .slice v.ap v.np v.kp, .slice v.ac v.nc v.kc] 28)).alloc (.cells #[.slice none 0 0, .slice none 0 0, .slice none 0 0] 28) = w2 from HW2.out]
 clear HW2
 have x1 := X.out.at (j := 1) rfl
 go_wp2_with fail
 obtain ⟨qs, hq1, hq2, hq3, hq4⟩ := R.out.pp.rows
 refine (wCloneP v.ap v.np v.kp qs w2 hq3 HNP.out).mono ?_
 rintro e w3 ⟨A, kc, rfl, hown, hb3⟩
 have HR : Hid (∃ qs, CpRel w2 A v.np kc 0 c.ps w3 qs) := ⟨qs, hq1, hq2, hown, fun j hj hk => absurd hk (Nat.not_lt_zero _), fun j hj _ => ⟨(hq4 _ (List.getElem_mem hj)).1, (hq4 _ (List.getElem_mem hj)).2.2.2⟩, hb3⟩
 clear hq1 hq2 hq3 hq4 hown hb3 x1
 go_wp2_with fail
 go_loopw [4, 5, 11] (fun s4 s5 s11 wr => ∃ k : Nat, k ≤ v.np ∧ s11 = .int .i64 (k : Int) ∧ ∃ qs, CpRel w2 A v.np kc k c.ps wr qs) (fun _ _ s11 _ => v.np - (intOf s11).toNat)
 case atStart => exact ⟨0, Nat.zero_le _, rfl, HR.out⟩
 case round =>
  clear HR
  obtain ⟨k, hk, rfl, qs, hcp⟩ := hrel
  have H := qH hcp
  have HK := qH hk
  clear hcp hk
  by_cases hlt : k < v.np
  ·have hltI : (k : Int) < (v.np : Int) := by omega
   have hwk : IntKind.i64.wrap ((k : Int) + 1) = (k : Int) + 1 := by have := HNP.out; rw [IntKind.wrap_i64]; omega
   have HLT : Hid (k < v.np) := hlt
   obtain ⟨g, hA, hg, hgl, hfr, hcell⟩ := own_frV H.out.row (by omega)
   subst hA
   have HFR := qH hfr
   have hkq : k < qs.length := by rw [H.out.len]; exact hlt
   have HKQ := qH hkq
   have y0 := hcell _ _ (flat_at QP.cells QP.cells_len qs k 0 hkq (by decide))
   have y1 := hcell _ _ (flat_at QP.cells QP.cells_len qs k 1 hkq (by decide))
   have y2 := hcell _ _ (flat_at QP.cells QP.cells_len qs k 2 hkq (by decide))
   have y3 := hcell _ _ (flat_at QP.cells QP.cells_len qs k 3 hkq (by decide))
   have y4 := hcell _ _ (flat_at QP.cells QP.cells_len qs k 4 hkq (by decide))
   have hold := H.out.old k hkq (Nat.le_refl _)
   have HOLD := qH hold
   clear hcell hfr hlt hold
   generalize hq : qs[k] = q at *
   replace hq := qH hq
   simp only [QP.cells, ptL, Nat.add_zero] at y0 y1 y2 y3 y4
   have BA := (Below.refl wr.heap.size wr).alloc (Nat.le_refl _) (.cells #[.int .i64 q.p.id, .int .i64 q.p.base, .int .i64 q.p.size, .bool q.p.keep, .slice q.A q.m q.c] 58)
   have RA := qH ((HOLD.out.1.below (H.out.bel.trans (BA.mono H.out.bel.size))).more (Nat.le_trans H.out.bel.size BA.size))
   have H1 := qH (H.out.step BA)
   clear BA
   go_wp2_with fail
   refine (wCopied q.p q.A q.m q.c _ RA.out (by have := HOLD.out.2; omega)).mono ?_
   rintro e w5 ⟨A3, m3, c3, rfl, ho, hc1, hc2, hb5⟩
   have O := qH ho
   have HC1 := qH hc1
   have HC2 := qH hc2
   have H2 := qH (H1.out.step hb5)
   clear ho hc1 hc2 hb5 y0 y1 y2 y3 y4 RA
   obtain ⟨g', hA, _, _, hfr, hcell⟩ := own_frV H2.out.row (by have := HLT.out; omega)
   obtain rfl : g = g' := by injection hA with hA; injection hA
   have y0 := hcell _ _ (flat_at QP.cells QP.cells_len qs k 0 HKQ.out (by decide))
   have y1 := hcell _ _ (flat_at QP.cells QP.cells_len qs k 1 HKQ.out (by decide))
   have y2 := hcell _ _ (flat_at QP.cells QP.cells_len qs k 2 HKQ.out (by decide))
   have y3 := hcell _ _ (flat_at QP.cells QP.cells_len qs k 3 HKQ.out (by decide))
   have y4 := hcell _ _ (flat_at QP.cells QP.cells_len qs k 4 HKQ.out (by decide))
   have f0 := hfr (k * 5)
   have f1 := hfr (k * 5 + 1)
   have f2 := hfr (k * 5 + 2)
   have f3 := hfr (k * 5 + 3)
   have f4 := hfr (k * 5 + 4)
   have hq2 : qs[k]'(HKQ.out) = q := hq.out
   rw [hq2] at y0 y1 y2 y3 y4
   clear hq2
   simp only [QP.cells, ptL, Nat.add_zero] at y0 y1 y2 y3 y4
   have HIM : Hid (Img w5 w2.heap.size ⟨q.p, A3, m3, c3⟩) := ⟨O.out.mono (by have := H.out.bel.size; simp; omega), HC1.out, HC2.out, by rw [← O.out.1.1, HOLD.out.1.1]; exact HOLD.out.2⟩
   have HIO : Hid (Off A3 m3 (· = g)) := O.out.off (fun k hk => by have := (H.out.row.lt g rfl).2; simp; omega)
   clear hA hfr hcell
   go_wp2_with fail
   go_roundw
   case rel => exact ⟨k + 1, HLT.out, by go_num, qs.set k ⟨q.p, A3, m3, c3⟩, H2.out.put HKQ.out HIM.out HIO.out (show q.p = _ from congrArg QP.p hq.out.symm)⟩
   case measure => simp [intOf]; omega
  ·obtain rfl : k = v.np := by have := HK.out; omega
   clear hlt
   have HO := qH H.out.done
   have HQ := qH H.out.ps
   have BL := qH H.out.bel
   clear H HK
   go_wp2_with fail
   obtain ⟨wd, hwd⟩ : ∃ wd, wr.drew = wd := ⟨_, rfl⟩
   have BD : Hid (Below w2.heap.size w2 wd) := by (show Below _ _ _); rw [← hwd]; exact BL.out.drew
   have OD : Hid (OwnP wd w2.heap.size (.slice A v.np kc) qs) := by (show OwnP _ _ _ _); rw [← hwd]; exact HO.out.kept (R := fun _ => False) ((Keep.refl _ wr).drew) (fun _ _ hh => hh) (fun _ _ _ _ _ _ hh => hh)
   have XD := qH (X.out.to BD.out)
   have ZD := qH (Z.out.to BD.out)
   have RW := qH (R.out.ww.to BD.out)
   have RC := qH (R.out.cc.to BD.out)
   refine wp_region_held_drew (S := (fun w' => w'.cell? ⟨w.heap.size, 0, none⟩ = some (.slice v.aw v.nw v.kw) ∧ w'.cell? ⟨w.heap.size, 2, none⟩ = some (.slice v.ac v.nc v.kc))) (by kernel_rfl) ((by rw [hwd]; exact ⟨XD.out.at (j := 0) rfl, XD.out.at (j := 2) rfl⟩)) (fun hHeld => ?_)
   rw [hwd] at hHeld ⊢
   clear hwd BL HO X Z R
   refine tk 0 ?_
   simp only [pR]
   refine tk 1 ?_
   simp only [pR]
   refine tk 3 ?_
   simp only [pR]
   refine tk 4 ?_
   simp only [pR]
   refine tk 5 ?_
   simp only [pR]
   refine rd1 2 (fun K hK => ?_)
   go_simp
   refine (wCloneW v.aw v.nw v.kw c.ws wd RW.out HNW.out).mono ?_
   rintro e w6 ⟨A6, c6, rfl, hown6, hb6⟩
   have O6 := qH hown6
   have B6 := qH hb6
   clear hown6 hb6 hHeld
   go_wp2_with fail
   refine hK.out _ _ (⟨(XD.out.to B6.out).at (j := 0) rfl, (XD.out.to B6.out).at (j := 2) rfl⟩) (fun hHeld => ?_)
   clear hK K
   replace XD := qH (XD.out.to B6.out)
   replace ZD := qH (ZD.out.to B6.out)
   replace RC := qH (RC.out.to B6.out)
   replace OD := qH (OD.out.to (R := fun _ => False) (Keep.of_below B6.out) (fun _ hh => hh.elim))
   have HSZ := qH BD.out.size
   have HSZ6 := qH B6.out.size
   replace BD := qH (BD.out.trans (B6.out.mono BD.out.size))
   clear RW
   refine rd1 6 (fun K hK => ?_)
   go_simp
   refine (wCloneC v.ac v.nc v.kc c.cs w6 RC.out HNC.out).mono ?_
   rintro e w7 ⟨A7, c7, rfl, hown7, hb7⟩
   have O7 := qH hown7
   have B7 := qH hb7
   clear hown7 hb7 hHeld
   go_wp2_with fail
   refine hK.out _ _ (⟨(XD.out.to B7.out).at (j := 0) rfl, (XD.out.to B7.out).at (j := 2) rfl⟩) (fun hHeld => ?_)
   clear hK K
   replace XD := qH (XD.out.to B7.out)
   replace ZD := qH (ZD.out.to B7.out)
   replace OD := qH (OD.out.to (R := fun _ => False) (Keep.of_below B7.out) (fun _ hh => hh.elim))
   replace O6 := qH (own_bv O6.out B7.out)
   replace BD := qH (BD.out.trans (B7.out.mono BD.out.size))
   have BW7 := qH (BW.out.trans (BD.out.mono BW.out.size))
   clear RC B6 B7 BW
   have z0 := ZD.out.at (j := 0) rfl
   have z1 := ZD.out.at (j := 1) rfl
   have z2 := ZD.out.at (j := 2) rfl
   have f0 := ZD.out.fz 0
   have f1 := ZD.out.fz 1
   have f2 := ZD.out.fz 2
   have hK := Keep.sets (R := (· = w.heap.size + 1)) rfl [.slice A6 v.nw c6, .slice A v.np kc, .slice A7 v.nc c7] 0 (Keep.refl _ w7)
   have XS := qH (XD.out.kept hK (fun hh => by omega))
   have P9 := qH (ZD.out.sets [.slice A6 v.nw c6, .slice A v.np kc, .slice A7 v.nc c7] rfl)
   have B9 := qH (below_sets (Nat.le_succ w.heap.size) [.slice A6 v.nw c6, .slice A v.np kc, .slice A7 v.nc c7] 0 BW7.out)
   have HC : Hid (OwCf (setsC w7 (w.heap.size + 1) 0 [.slice A6 v.nw c6, .slice A v.np kc, .slice A7 v.nc c7]) w.heap.size ⟨A6, v.nw, c6, A, v.np, kc, A7, v.nc, c7⟩ c) := by
    (show OwCf _ _ _ _)
    have hs := S2.out
    have h1 := HSZ.out
    have h2 := HSZ6.out
    have hR : ∀ k, (· = w.heap.size + 1) k → k < w2.heap.size := fun k hk => by (show k < _); have : k = w.heap.size + 1 := hk; omega
    refine ⟨?_, ?_⟩
    ·exact (OwCf.of_rows (B := w2.heap.size) (w := setsC w7 (w.heap.size + 1) 0 [.slice A6 v.nw c6, .slice A v.np kc, .slice A7 v.nc c7]) (v := ⟨A6, v.nw, c6, A, v.np, kc, A7, v.nc, c7⟩) (own_moV (own_tv O6.out hK (fun k hk => .inl (by have := hR k hk; omega))) h1) (OD.out.to hK (fun k hk => .inl (hR k hk))) HQ.out (own_moV (own_tv O7.out hK (fun k hk => .inl (by have := hR k hk; omega))) (Nat.le_trans h1 h2))).rd
    ·exact (OwCf.of_rows (B := w2.heap.size) (w := setsC w7 (w.heap.size + 1) 0 [.slice A6 v.nw c6, .slice A v.np kc, .slice A7 v.nc c7]) (v := ⟨A6, v.nw, c6, A, v.np, kc, A7, v.nc, c7⟩) (own_moV (own_tv O6.out hK (fun k hk => .inl (by have := hR k hk; omega))) h1) (OD.out.to hK (fun k hk => .inl (hR k hk))) HQ.out (own_moV (own_tv O7.out hK (fun k hk => .inl (by have := hR k hk; omega))) (Nat.le_trans h1 h2))).sp.mono (by omega)
   clear hK
   refine tk 7 ?_
   simp only [pR]
   refine rd1 8 (fun K hK => ?_)
   go_simp
   refine hK.out _ _ (⟨XS.out.at (j := 0) rfl, XS.out.at (j := 2) rfl⟩) (fun hHeld => ?_)
   clear hK K
   refine wpAnyH_done (by kernel_rfl) ?_ _
   clear hHeld
   go_wp2_with fail
   change bodyPost _ _ _ _ _ (setsC w7 (w.heap.size + 1) 0 [.slice A6 v.nw c6, .slice A v.np kc, .slice A7 v.nc c7])
   generalize setsC w7 (w.heap.size + 1) 0 [.slice A6 v.nw c6, .slice A v.np kc, .slice A7 v.nc c7] = w9 at *
   exact bodyPost_ret (res_cf1 rfl _ _ (w.heap.size + 1) _ _ _ rfl P9.out) rfl ⟨⟨A6, v.nw, c6, A, v.np, kc, A7, v.nc, c7⟩, rfl, HC.out, B9.out⟩
end
end Go.Proofs.YtlmdidblgeeplaaGreatDoor