/- Several texts in one (a claim has 60 files at most): VaA. -/
import Derived.Test.YtlmdidblgeeplaaGreatDoorTz
import Derived.Test.YtlmdidblgeeplaaGreatDoorPCfLcx
namespace Go.Proofs.YtlmdidblgeeplaaGreatDoor
set_option maxRecDepth 1000000
set_option maxHeartbeats 8000000
set_option linter.unusedVariables false
set_option linter.unusedSimpArgs false
section
open Go.RowKit
theorem rAllV (v : CV) (c : Cf) (w : World) (h : RdCf w w.heap.size v c) (hw : v.nw ≤ 1000) (hp : v.np ≤ 1000) (hc : v.nc ≤ 1000) :
  Calls Tryz.prog 129 #[.agg #[.slice v.aw v.nw v.kw, .slice v.ap v.np v.kp, .slice v.ac v.nc v.kc]] w fun x w' => ∃ A n k, x = .returned (.slice A n k) ∧ w'.ownsRow w.heap.size 3 1 (.slice A n k) n ((allV c).map iv) ∧ Below w.heap.size w w' := by
 have hb1 := (Below.refl w.heap.size w).alloc (Nat.le_refl _) (.cells #[.slice v.aw v.nw v.kw, .slice v.ap v.np v.kp, .slice v.ac v.nc v.kc] 28)
 have hx : Bx (w.alloc (.cells #[.slice v.aw v.nw v.kw, .slice v.ap v.np v.kp, .slice v.ac v.nc v.kc] 28)) w.heap.size 28 (cfL v) := Bx.new w _ (cfL v)
 have R := qH (h.to hb1)
 have B := qH hb1
 have X := qH hx
 have HNW := qH hw
 have HNP := qH hp
 have HNC := qH hc
 clear h hw hp hc hb1 hx
 go_enter Tryz.func129, Tryz.ntmps129
 go_upto_region 1 with (fail)
 generalize w.alloc (.cells #[.slice v.aw v.nw v.kw, .slice v.ap v.np v.kp, .slice v.ac v.nc v.kc] 28) = w1 at *
 have V0 : Hid (VSt w1 w1 (.slice none 0 0) []) := ⟨World.ownsRow_nil _ _ _ _, Below.refl _ _⟩
 -- the windows
 have p1 := X.out.at (j := 0) rfl
 go_wp2_with fail
 refine (SchD.may v.aw v.nw v.kw c.ws w1 R.out.ww (by have := HNW.out; omega)).mono ?_
 rintro e w2 ⟨rfl, hb⟩
 obtain ⟨m0, hm0⟩ : ∃ b, mayW c.ws = b := ⟨_, rfl⟩
 rw [hm0]
 have V := qH (V0.out.step hb)
 have HM0 := qH hm0
 clear hb hm0 V0 p1
 go_wp2_with fail
 go_loopw [4, 5] (fun s4 s5 wr => ∃ (k : Nat) (b : Bool), k ≤ v.nw ∧ s5 = .int .i64 (k : Int) ∧ s4 = .bool b ∧ b = (!m0 || anyN (wrW c) k) ∧ VSt w1 wr (.slice none 0 0) []) (fun _ s5 _ => v.nw - (intOf s5).toNat)
 case atStart => exact ⟨0, !m0, Nat.zero_le _, rfl, rfl, by simp [anyN], V.out⟩
 case round =>
  clear V
  obtain ⟨k, b, hk, rfl, rfl, hbb, hv⟩ := hrel
  have V := qH hv
  have HK := qH hk
  have HB := qH hbb
  clear hk hbb hv
  have p1 := (X.out.to V.out.bel).at (j := 0) rfl
  by_cases hlt : k < v.nw
  ·as_aux_lemma =>
   have hltI : (k : Int) < (v.nw : Int) := by omega
   have HLT := qH hlt
   have hwk : IntKind.i64.wrap ((k : Int) + 1) = (k : Int) + 1 := by have := HNW.out; rw [IntKind.wrap_i64]; omega
   obtain ⟨bb, o, hA, hbb, hcc⟩ := R.out.ww.2 (by omega)
   obtain ⟨pt, hpt⟩ : ∃ x, (rat c.ws k).2 = x := ⟨_, rfl⟩
   have HCK : Hid (w1.cell? ⟨bb, o + k * 2 + 1, none⟩ = some (.int .i64 pt)) := by (show _ = _); rw [← hpt]; exact (hcc k hlt).2
   have HWR : Hid (wrW c k = (decide (pt ≠ 0) && !hasP c pt)) := by (show _ = _); rw [← hpt]; rfl
   have HA := qH hA
   have HBB := qH hbb
   clear hA hbb hcc hpt hlt
   go_upto_region 6 with (fail)
   clear p1
   cases b
   ·by_cases hz : pt = 0
    ·have hz1 : (pt != 0) = false := by simp [hz]
     have HF : Hid (false = (false || wrW c k)) := by (show _ = _); rw [HWR.out, hz]; rfl
     clear hz
     obtain ⟨wd, hwd⟩ : ∃ wd, wr.drew = wd := ⟨_, rfl⟩
     have V1 := V.out.drew
     rw [hwd] at V1
     replace V1 := qH V1
     refine wp_region_held_drew (S := (fun w' => Below w1.heap.size w1 w')) (by kernel_rfl) (V.out.drew.bel) (fun hHeld => ?_)
     rw [hwd] at hHeld ⊢
     have hR0 : Below wr.heap.size wr wd := by rw [← hwd]; exact (Below.refl _ wr).drew
     have hRs := hR0.size
     clear hwd
     refine tk 0 ?_
     simp only [pR]
     refine tk 1 ?_
     simp only [pR]
     refine tk 2 ?_
     simp only [pR]
     refine tw 3 rfl (by intro w hSw; (try dsimp only at hSw); have t1 := (X.out.to hSw).at (j := 0) rfl; rw [HA.out] at t1; go_simp; (try with_reducible rfl)) ?_
     simp only [pR]
     refine tk 4 ?_
     simp only [pR]
     refine tk 5 ?_
     simp only [pR]
     refine tk 6 ?_
     simp only [pR]
     refine tw 7 rfl (by intro w hSw; (try dsimp only at hSw); have t1 := (hSw.cell (p := ⟨bb, o + k * 2 + 1, none⟩) HBB.out).trans HCK.out; go_simp; (try with_reducible rfl)) ?_
     simp only [pR]
     refine tk 8 ?_
     simp only [pR]
     refine tk 9 ?_
     simp only [pR]
     refine sk 10 ?_
     simp only [pR]
     refine sk 11 ?_
     simp only [pR]
     refine sk 12 ?_
     simp only [pR]
     refine sk 13 ?_
     simp only [pR]
     refine sk 14 ?_
     simp only [pR]
     refine sk 15 ?_
     simp only [pR]
     refine sk 16 ?_
     simp only [pR]
     refine sk 17 ?_
     simp only [pR]
     refine sk 18 ?_
     simp only [pR]
     refine tk 19 ?_
     simp only [pR]
     refine tk 20 ?_
     simp only [pR]
     refine tk 21 ?_
     simp only [pR]
     refine wpAnyH_done (by kernel_rfl) ?_ _
     clear hz1
     clear hHeld hR0 hRs
     go_wp2_with fail
     go_roundw
     case rel => exact ⟨k + 1, _, HLT.out, by go_num, rfl, any_step HB.out HF.out, V1.out⟩
     case measure => simp [intOf]; omega
    ·have hz1 : (pt != 0) = true := bne_iff_ne.2 hz
     obtain ⟨hs, hhs⟩ : ∃ b, hasP c pt = b := ⟨_, rfl⟩
     have HHS := qH hhs
     have HF : Hid ((!hs) = (false || wrW c k)) := by (show _ = _); rw [HWR.out, hhs, decide_eq_true hz]; simp
     clear hz hhs
     obtain ⟨wd, hwd⟩ : ∃ wd, wr.drew = wd := ⟨_, rfl⟩
     have V1 := V.out.drew
     rw [hwd] at V1
     replace V1 := qH V1
     refine wp_region_held_drew (S := (fun w' => Below w1.heap.size w1 w')) (by kernel_rfl) (V.out.drew.bel) (fun hHeld => ?_)
     rw [hwd] at hHeld ⊢
     have hR0 : Below wr.heap.size wr wd := by rw [← hwd]; exact (Below.refl _ wr).drew
     have hRs := hR0.size
     clear hwd
     refine tk 0 ?_
     simp only [pR]
     refine tk 1 ?_
     simp only [pR]
     refine tk 2 ?_
     simp only [pR]
     refine tw 3 rfl (by intro w hSw; (try dsimp only at hSw); have t1 := (X.out.to hSw).at (j := 0) rfl; rw [HA.out] at t1; go_simp; (try with_reducible rfl)) ?_
     simp only [pR]
     refine tk 4 ?_
     simp only [pR]
     refine tk 5 ?_
     simp only [pR]
     refine tk 6 ?_
     simp only [pR]
     refine tw 7 rfl (by intro w hSw; (try dsimp only at hSw); have t1 := (hSw.cell (p := ⟨bb, o + k * 2 + 1, none⟩) HBB.out).trans HCK.out; go_simp; (try with_reducible rfl)) ?_
     simp only [pR]
     refine tk 8 ?_
     simp only [pR]
     refine tk 9 ?_
     simp only [pR]
     refine tw 10 rfl (by intro w hSw; (try dsimp only at hSw); have t1 := (X.out.to hSw).at (j := 0) rfl; have t2 := (X.out.to hSw).at (j := 1) rfl; have t3 := (X.out.to hSw).at (j := 2) rfl; go_simp; (try with_reducible rfl)) ?_
     simp only [pR]
     refine tk 11 ?_
     simp only [pR]
     refine tw 12 rfl (by intro w hSw; (try dsimp only at hSw); have t1 := (X.out.to hSw).at (j := 0) rfl; rw [HA.out] at t1; go_simp; (try with_reducible rfl)) ?_
     simp only [pR]
     refine tk 13 ?_
     simp only [pR]
     refine tk 14 ?_
     simp only [pR]
     refine tk 15 ?_
     simp only [pR]
     refine tw 16 rfl (by intro w hSw; (try dsimp only at hSw); have t1 := (hSw.cell (p := ⟨bb, o + k * 2 + 1, none⟩) HBB.out).trans HCK.out; go_simp; (try with_reducible rfl)) ?_
     simp only [pR]
     refine rd1 17 (fun K hK => ?_)
     go_simp
     refine (rHasP v c pt wd (R.out.to hHeld) HNP.out).mono ?_
     rw [HHS.out]
     rintro e we ⟨rfl, hb⟩
     replace V1 := qH (V1.out.step hb)
     clear hb hHeld
     go_wp2_with fail
     refine hK.out _ _ (V1.out.bel) (fun hHeld => ?_)
     clear hK K
     refine tk 18 ?_
     simp only [pR]
     refine tk 19 ?_
     simp only [pR]
     refine tk 20 ?_
     simp only [pR]
     refine tk 21 ?_
     simp only [pR]
     refine wpAnyH_done (by kernel_rfl) ?_ _
     clear hz1
     clear hHeld hR0 hRs
     go_wp2_with fail
     go_roundw
     case rel => exact ⟨k + 1, _, HLT.out, by go_num, rfl, any_step HB.out HF.out, V1.out⟩
     case measure => simp [intOf]; omega
   ·have HF : Hid (true = (true || wrW c k)) := rfl
    obtain ⟨wd, hwd⟩ : ∃ wd, wr.drew = wd := ⟨_, rfl⟩
    have V1 := V.out.drew
    rw [hwd] at V1
    replace V1 := qH V1
    refine wp_region_held_drew (S := (fun w' => Below w1.heap.size w1 w')) (by kernel_rfl) (V.out.drew.bel) (fun hHeld => ?_)
    rw [hwd] at hHeld ⊢
    have hR0 : Below wr.heap.size wr wd := by rw [← hwd]; exact (Below.refl _ wr).drew
    have hRs := hR0.size
    clear hwd
    refine tk 0 ?_
    simp only [pR]
    refine tk 1 ?_
    simp only [pR]
    refine sk 2 ?_
    simp only [pR]
    refine sk 3 ?_
    simp only [pR]
    refine sk 4 ?_
    simp only [pR]
    refine sk 5 ?_
    simp only [pR]
    refine sk 6 ?_
    simp only [pR]
    refine sk 7 ?_
    simp only [pR]
    refine sk 8 ?_
    simp only [pR]
    refine sk 9 ?_
    simp only [pR]
    refine sk 10 ?_
    simp only [pR]
    refine sk 11 ?_
    simp only [pR]
    refine sk 12 ?_
    simp only [pR]
    refine sk 13 ?_
    simp only [pR]
    refine sk 14 ?_
    simp only [pR]
    refine sk 15 ?_
    simp only [pR]
    refine sk 16 ?_
    simp only [pR]
    refine sk 17 ?_
    simp only [pR]
    refine sk 18 ?_
    simp only [pR]
    refine sk 19 ?_
    simp only [pR]
    refine tk 20 ?_
    simp only [pR]
    refine tk 21 ?_
    simp only [pR]
    refine wpAnyH_done (by kernel_rfl) ?_ _
    clear hHeld hR0 hRs
    go_wp2_with fail
    go_roundw
    case rel => exact ⟨k + 1, _, HLT.out, by go_num, rfl, any_step HB.out HF.out, V1.out⟩
    case measure => simp [intOf]; omega
  ·obtain rfl : k = v.nw := by have := HK.out; omega
   have HB1 : Hid (b = fltW c) := by (show _ = _); rw [HB.out, ← HM0.out, ← R.out.ww.1]; rfl
   clear HB
   clear hlt
   go_upto_if 45 with (fail)
   go_cut [3] from 13 to 48 (fun s3 wx => VSt w1 wx s3 ([] ++ more b 90))
   case first =>
    cases b
    ·go_wp2_with fail
     go_meet
     rw [more_no, List.append_nil]
     exact V.out
    ·have hal := (Below.refl wr.heap.size wr).alloc (Nat.le_refl _) (.cells #[.int .i64 90] 3)
     have O7 := qH (own_bv V.out.row hal)
     have N7 := qH (cells_newV wr 3 [.int .i64 90])
     have B8 := qH (V.out.bel.trans (hal.mono V.out.bel.size))
     clear hal
     go_wp2_with (at_builtin; refine wpList_pushV vtI rfl (.tmp 46) (.tmp 47) rfl rfl rfl O7.out (m := 1) (news := [.int .i64 90]) rfl (fun _ => ⟨_, rfl, N7.out⟩) (one_int _) B8.out.size (by (show (0 + 1) * (8 + 1) ≤ 140737488355328); omega) ?_; intro v9 w9 hown9 hk9 hv9; obtain ⟨A9, c9, rfl⟩ := own_slV hown9; have B9 := qH (hk9.below B8.out B8.out.size (fun k hk => (O7.out.lt k hk).1)); have O9 := qH hown9; clear hown9 hk9 hv9)
     go_meet
     refine ⟨?_, B9.out⟩
     rw [more_yes, List.length_append, List.map_append]
     exact O9.out
   case rest =>
   rw [HB1.out] at hcut
   clear V HB1
   obtain ⟨A1, k1, hs1⟩ := own_slV hcut.row
   subst hs1
   obtain ⟨l1, hl1⟩ : ∃ l, [] ++ more (fltW c) 90 = l := ⟨_, rfl⟩
   rw [hl1] at hcut ⊢
   have HL1 := qH hl1
   have HLL1 : Hid (l1.length ≤ 1) := by (show _ ≤ _); rw [← hl1, List.length_append]; have := more_len (fltW c) 90; simp; omega
   obtain ⟨n1, hn1⟩ : ∃ n, n = l1.length := ⟨_, rfl⟩
   rw [← hn1]
   have V : Hid (VSt w1 wc (.slice A1 n1 k1) l1) := by (show VSt _ _ _ _); rw [hn1]; exact hcut
   clear hcut hl1 hn1
   obtain ⟨x1, hx1⟩ : ∃ x, x = wc := ⟨_, rfl⟩
   subst hx1
   -- the partitions' IDs
   obtain ⟨b0, hb0⟩ : ∃ b, (decide (c.ps.length = 0) || decide (6 < c.ps.length)) = b := ⟨_, rfl⟩
   have HB0 := qH hb0
   have HLP : Hid (c.ps.length = v.np) := R.out.pp.1
   rw [HLP.out] at hb0
   have p1 := (X.out.to V.out.bel).at (j := 1) rfl
   go_upto_region 9 with (fail)
   go_cut [4] from 49 to 58 (fun s4 wx => s4 = .bool b0 ∧ wx = x1)
   case first =>
    by_cases h0 : v.np = 0
    ·have h1 : ((v.np : Int) == 0) = true := by rw [h0]; rfl
     obtain rfl : b0 = true := by rw [← hb0, h0]; rfl
     clear hb0 h0
     go_wp2_with fail
     go_meet
     exact ⟨rfl, rfl⟩
    ·have h1 : ((v.np : Int) == 0) = false := by rw [beq_eq_false_iff_ne]; omega
     by_cases h6 : 6 < v.np
     ·have h2 : (6 : Int) < (v.np : Int) := by omega
      obtain rfl : b0 = true := by rw [← hb0, decide_eq_true h6]; simp
      clear hb0 h0 h6
      go_wp2_with fail
      go_meet
      exact ⟨rfl, rfl⟩
     ·have h2 : ¬ (6 : Int) < (v.np : Int) := by omega
      obtain rfl : b0 = false := by rw [← hb0, decide_eq_false h6, decide_eq_false h0]; rfl
      clear hb0 h0 h6
      go_wp2_with fail
      go_meet
      exact ⟨rfl, rfl⟩
   case rest =>
   obtain ⟨rfl, hx⟩ := hcut
   subst hx
   clear p1 hb0
   go_wp2_with fail
   go_loopw [4, 6] (fun s4 s6 wr => ∃ (k : Nat) (b : Bool), k ≤ v.np ∧ s6 = .int .i64 (k : Int) ∧ s4 = .bool b ∧ b = (b0 || anyN (wrP c) k) ∧ VSt w1 wr (.slice A1 n1 k1) l1) (fun _ s6 _ => v.np - (intOf s6).toNat)
   case atStart => exact ⟨0, b0, Nat.zero_le _, rfl, rfl, by simp [anyN], V.out⟩
   case round =>
    clear V
    obtain ⟨k, b, hk, rfl, rfl, hbb, hv⟩ := hrel
    have V := qH hv
    have HK := qH hk
    have HB := qH hbb
    clear hk hbb hv
    have p1 := (X.out.to V.out.bel).at (j := 1) rfl
    by_cases hlt : k < v.np
    ·as_aux_lemma =>
     obtain ⟨bb, o, A', m, c', hA, y0, y1, y2, y3, y4, hrd, hmc, hcc, hm7⟩ := R.out.pp.at_ hlt
     have HBB : Hid (bb < w1.heap.size) := cell_block y0
     have HA := qH hA
     have HLT := qH hlt
     have hltI : (k : Int) < (v.np : Int) := by omega
     have hwk : IntKind.i64.wrap ((k : Int) + 1) = (k : Int) + 1 := by have := HNP.out; rw [IntKind.wrap_i64]; omega
     obtain ⟨x, hx⟩ : ∃ x, (ptAt c.ps k).id = x := ⟨_, rfl⟩
     obtain ⟨y, hy⟩ : ∃ y, (ptAt c.ps (k - 1)).id = y := ⟨_, rfl⟩
     rw [hx] at y0
     have HCK := qH y0
     have HWR : Hid (wrP c k = (decide (x < 1) || (decide (6 < x) || (decide (0 < k) && decide (x ≤ y))))) := by (show _ = _); rw [← hx, ← hy]; rfl
     have HC0 : Hid (0 < k → w1.cell? ⟨bb, o + (k - 1) * 5, none⟩ = some (.int .i64 y)) := fun h0 => by
      obtain ⟨b2, o2, _, _, _, hA2, z0, _⟩ := R.out.pp.at_ (j := k - 1) (by omega)
      rw [hA] at hA2
      cases hA2
      rw [← hy]
      exact z0
     clear hA y0 y1 y2 y3 y4 hrd hmc hcc hm7 hlt hx hy
     go_upto_region 13 with (fail)
     clear p1
     cases b
     ·by_cases h1 : x < 1
      ·have HF : Hid (true = (false || wrP c k)) := by (show _ = _); rw [HWR.out, decide_eq_true h1]; rfl
       have hd1 : decide (x < 1) = true := decide_eq_true h1
       clear h1
       obtain ⟨wd, hwd⟩ : ∃ wd, wr.drew = wd := ⟨_, rfl⟩
       have V1 := V.out.drew
       rw [hwd] at V1
       replace V1 := qH V1
       refine wp_region_held_drew (S := (fun w' => Below w1.heap.size w1 w')) (by kernel_rfl) (V.out.drew.bel) (fun hHeld => ?_)
       rw [hwd] at hHeld ⊢
       have hR0 : Below wr.heap.size wr wd := by rw [← hwd]; exact (Below.refl _ wr).drew
       have hRs := hR0.size
       clear hwd
       refine tk 0 ?_
       simp only [pR]
       refine tk 1 ?_
       simp only [pR]
       refine tk 2 ?_
       simp only [pR]
       refine tw 3 rfl (by intro w hSw; (try dsimp only at hSw); have t1 := (X.out.to hSw).at (j := 1) rfl; rw [HA.out] at t1; go_simp; (try with_reducible rfl)) ?_
       simp only [pR]
       refine tk 4 ?_
       simp only [pR]
       refine tk 5 ?_
       simp only [pR]
       refine tk 6 ?_
       simp only [pR]
       refine tw 7 rfl (by intro w hSw; (try dsimp only at hSw); have t1 := (hSw.cell (p := ⟨bb, o + k * 5, none⟩) HBB.out).trans HCK.out; go_simp; (try with_reducible rfl)) ?_
       simp only [pR]
       refine tk 8 ?_
       simp only [pR]
       refine tk 9 ?_
       simp only [pR]
       refine tk 10 ?_
       simp only [pR]
       refine sk 11 ?_
       simp only [pR]
       refine sk 12 ?_
       simp only [pR]
       refine sk 13 ?_
       simp only [pR]
       refine sk 14 ?_
       simp only [pR]
       refine sk 15 ?_
       simp only [pR]
       refine sk 16 ?_
       simp only [pR]
       refine sk 17 ?_
       simp only [pR]
       refine tk 18 ?_
       simp only [pR]
       refine tk 19 ?_
       simp only [pR]
       refine sk 20 ?_
       simp only [pR]
       refine sk 21 ?_
       simp only [pR]
       refine sk 22 ?_
       simp only [pR]
       refine sk 23 ?_
       simp only [pR]
       refine sk 24 ?_
       simp only [pR]
       refine sk 25 ?_
       simp only [pR]
       refine sk 26 ?_
       simp only [pR]
       refine sk 27 ?_
       simp only [pR]
       refine sk 28 ?_
       simp only [pR]
       refine sk 29 ?_
       simp only [pR]
       refine sk 30 ?_
       simp only [pR]
       refine sk 31 ?_
       simp only [pR]
       refine sk 32 ?_
       simp only [pR]
       refine sk 33 ?_
       simp only [pR]
       refine sk 34 ?_
       simp only [pR]
       refine sk 35 ?_
       simp only [pR]
       refine sk 36 ?_
       simp only [pR]
       refine sk 37 ?_
       simp only [pR]
       refine tk 38 ?_
       simp only [pR]
       refine tk 39 ?_
       simp only [pR]
       refine wpAnyH_done (by kernel_rfl) ?_ _
       clear hd1
       clear hHeld hR0 hRs
       go_wp2_with fail
       go_roundw
       case rel => exact ⟨k + 1, _, HLT.out, by go_num, rfl, any_step HB.out HF.out, V1.out⟩
       case measure => simp [intOf]; omega
      have hd1 : decide (x < 1) = false := decide_eq_false h1
      by_cases h2 : 6 < x
      ·have HF : Hid (true = (false || wrP c k)) := by (show _ = _); rw [HWR.out, decide_eq_true h2]; simp
       have hd2 : decide (6 < x) = true := decide_eq_true h2
       clear h1 h2
       obtain ⟨wd, hwd⟩ : ∃ wd, wr.drew = wd := ⟨_, rfl⟩
       have V1 := V.out.drew
       rw [hwd] at V1
       replace V1 := qH V1
       refine wp_region_held_drew (S := (fun w' => Below w1.heap.size w1 w')) (by kernel_rfl) (V.out.drew.bel) (fun hHeld => ?_)
       rw [hwd] at hHeld ⊢
       have hR0 : Below wr.heap.size wr wd := by rw [← hwd]; exact (Below.refl _ wr).drew
       have hRs := hR0.size
       clear hwd
       refine tk 0 ?_
       simp only [pR]
       refine tk 1 ?_
       simp only [pR]
       refine tk 2 ?_
       simp only [pR]
       refine tw 3 rfl (by intro w hSw; (try dsimp only at hSw); have t1 := (X.out.to hSw).at (j := 1) rfl; rw [HA.out] at t1; go_simp; (try with_reducible rfl)) ?_
       simp only [pR]
       refine tk 4 ?_
       simp only [pR]
       refine tk 5 ?_
       simp only [pR]
       refine tk 6 ?_
       simp only [pR]
       refine tw 7 rfl (by intro w hSw; (try dsimp only at hSw); have t1 := (hSw.cell (p := ⟨bb, o + k * 5, none⟩) HBB.out).trans HCK.out; go_simp; (try with_reducible rfl)) ?_
       simp only [pR]
       refine tk 8 ?_
       simp only [pR]
       refine tk 9 ?_
       simp only [pR]
       refine tk 10 ?_
       simp only [pR]
       refine tk 11 ?_
       simp only [pR]
       refine tw 12 rfl (by intro w hSw; (try dsimp only at hSw); have t1 := (X.out.to hSw).at (j := 1) rfl; rw [HA.out] at t1; go_simp; (try with_reducible rfl)) ?_
       simp only [pR]
       refine tk 13 ?_
       simp only [pR]
       refine tk 14 ?_
       simp only [pR]
       refine tk 15 ?_
       simp only [pR]
       refine tw 16 rfl (by intro w hSw; (try dsimp only at hSw); have t1 := (hSw.cell (p := ⟨bb, o + k * 5, none⟩) HBB.out).trans HCK.out; go_simp; (try with_reducible rfl)) ?_
       simp only [pR]
       refine tk 17 ?_
       simp only [pR]
       refine tk 18 ?_
       simp only [pR]
       refine tk 19 ?_
       simp only [pR]
       refine sk 20 ?_
       simp only [pR]
       refine sk 21 ?_
       simp only [pR]
       refine sk 22 ?_
       simp only [pR]
       refine sk 23 ?_
       simp only [pR]
       refine sk 24 ?_
       simp only [pR]
       refine sk 25 ?_
       simp only [pR]
       refine sk 26 ?_
       simp only [pR]
       refine sk 27 ?_
       simp only [pR]
       refine sk 28 ?_
       simp only [pR]
       refine sk 29 ?_
       simp only [pR]
       refine sk 30 ?_
       simp only [pR]
       refine sk 31 ?_
       simp only [pR]
       refine sk 32 ?_
       simp only [pR]
       refine sk 33 ?_
       simp only [pR]
       refine sk 34 ?_
       simp only [pR]
       refine sk 35 ?_
       simp only [pR]
       refine sk 36 ?_
       simp only [pR]
       refine sk 37 ?_
       simp only [pR]
       refine tk 38 ?_
       simp only [pR]
       refine tk 39 ?_
       simp only [pR]
       refine wpAnyH_done (by kernel_rfl) ?_ _
       clear hd1 hd2
       clear hHeld hR0 hRs
       go_wp2_with fail
       go_roundw
       case rel => exact ⟨k + 1, _, HLT.out, by go_num, rfl, any_step HB.out HF.out, V1.out⟩
       case measure => simp [intOf]; omega
      have hd2 : decide (6 < x) = false := decide_eq_false h2
      by_cases h3 : 0 < k
      ·obtain ⟨z, hz⟩ : ∃ z, decide (x ≤ y) = z := ⟨_, rfl⟩
       have HF : Hid (z = (false || wrP c k)) := by (show _ = _); rw [HWR.out, hd1, hd2, hz, decide_eq_true h3]; rfl
       obtain ⟨j, hj⟩ : ∃ j : Nat, k - 1 = j := ⟨_, rfl⟩
       have hkj : (k : Int) - 1 = (j : Int) := by omega
       have hjI : (j : Int) < (v.np : Int) := by omega
       have hwj : IntKind.i64.wrap (j : Int) = (j : Int) := by have := HNP.out; rw [IntKind.wrap_i64]; omega
       have HC1 := qH (HC0.out h3)
       rw [hj] at HC1
       have h3a : decide (0 < k) = true := decide_eq_true h3
       have h3b : decide ((0 : Int) < (k : Int)) = true := decide_eq_true (by omega)
       clear h1 h2 h3 hj
       obtain ⟨wd, hwd⟩ : ∃ wd, wr.drew = wd := ⟨_, rfl⟩
       have V1 := V.out.drew
       rw [hwd] at V1
       replace V1 := qH V1
       refine wp_region_held_drew (S := (fun w' => Below w1.heap.size w1 w')) (by kernel_rfl) (V.out.drew.bel) (fun hHeld => ?_)
       rw [hwd] at hHeld ⊢
       have hR0 : Below wr.heap.size wr wd := by rw [← hwd]; exact (Below.refl _ wr).drew
       have hRs := hR0.size
       clear hwd
       refine tk 0 ?_
       simp only [pR]
       refine tk 1 ?_
       simp only [pR]
       refine tk 2 ?_
       simp only [pR]
       refine tw 3 rfl (by intro w hSw; (try dsimp only at hSw); have t1 := (X.out.to hSw).at (j := 1) rfl; rw [HA.out] at t1; go_simp; (try with_reducible rfl)) ?_
       simp only [pR]
       refine tk 4 ?_
       simp only [pR]
       refine tk 5 ?_
       simp only [pR]
       refine tk 6 ?_
       simp only [pR]
       refine tw 7 rfl (by intro w hSw; (try dsimp only at hSw); have t1 := (hSw.cell (p := ⟨bb, o + k * 5, none⟩) HBB.out).trans HCK.out; go_simp; (try with_reducible rfl)) ?_
       simp only [pR]
       refine tk 8 ?_
       simp only [pR]
       refine tk 9 ?_
       simp only [pR]
       refine tk 10 ?_
       simp only [pR]
       refine tk 11 ?_
       simp only [pR]
       refine tw 12 rfl (by intro w hSw; (try dsimp only at hSw); have t1 := (X.out.to hSw).at (j := 1) rfl; rw [HA.out] at t1; go_simp; (try with_reducible rfl)) ?_
       simp only [pR]
       refine tk 13 ?_
       simp only [pR]
       refine tk 14 ?_
       simp only [pR]
       refine tk 15 ?_
       simp only [pR]
       refine tw 16 rfl (by intro w hSw; (try dsimp only at hSw); have t1 := (hSw.cell (p := ⟨bb, o + k * 5, none⟩) HBB.out).trans HCK.out; go_simp; (try with_reducible rfl)) ?_
       simp only [pR]
       refine tk 17 ?_
       simp only [pR]
       refine tk 18 ?_
       simp only [pR]
       refine tk 19 ?_
       simp only [pR]
       refine tk 20 ?_
       simp only [pR]
       refine tk 21 ?_
       simp only [pR]
       refine tk 22 ?_
       simp only [pR]
       refine tk 23 ?_
       simp only [pR]
       refine tw 24 rfl (by intro w hSw; (try dsimp only at hSw); have t1 := (X.out.to hSw).at (j := 1) rfl; rw [HA.out] at t1; go_simp; (try with_reducible rfl)) ?_
       simp only [pR]
       refine tk 25 ?_
       simp only [pR]
       refine tk 26 ?_
       simp only [pR]
       refine tk 27 ?_
       simp only [pR]
       refine tw 28 rfl (by intro w hSw; (try dsimp only at hSw); have t1 := (hSw.cell (p := ⟨bb, o + k * 5, none⟩) HBB.out).trans HCK.out; go_simp; (try with_reducible rfl)) ?_
       simp only [pR]
       refine tk 29 ?_
       simp only [pR]
       refine tw 30 rfl (by intro w hSw; (try dsimp only at hSw); have t1 := (X.out.to hSw).at (j := 1) rfl; rw [HA.out] at t1; go_simp; (try with_reducible rfl)) ?_
       simp only [pR]
       refine tk 31 ?_
       simp only [pR]
       refine tk 32 ?_
       simp only [pR]
       refine tk 33 ?_
       simp only [pR]
       refine tk 34 ?_
       simp only [pR]
       refine tw 35 rfl (by intro w hSw; (try dsimp only at hSw); have t1 := (hSw.cell (p := ⟨bb, o + j * 5, none⟩) HBB.out).trans HC1.out; go_simp; (try with_reducible rfl)) ?_
       simp only [pR]
       refine tk 36 ?_
       simp only [pR]
       refine tk 37 ?_
       simp only [pR]
       refine tk 38 ?_
       simp only [pR]
       refine tk 39 ?_
       simp only [pR]
       refine wpAnyH_done (by kernel_rfl) ?_ _
       clear hd1 hd2 h3a h3b hkj hjI hwj hz
       clear hHeld hR0 hRs
       go_wp2_with fail
       go_roundw
       case rel => exact ⟨k + 1, _, HLT.out, by go_num, rfl, any_step HB.out HF.out, V1.out⟩
       case measure => simp [intOf]; omega
      ·have HF : Hid (false = (false || wrP c k)) := by (show _ = _); rw [HWR.out, hd1, hd2, decide_eq_false h3]; rfl
       have h3a : decide (0 < k) = false := decide_eq_false h3
       have h3b : decide ((0 : Int) < (k : Int)) = false := decide_eq_false (by omega)
       clear h1 h2 h3
       obtain ⟨wd, hwd⟩ : ∃ wd, wr.drew = wd := ⟨_, rfl⟩
       have V1 := V.out.drew
       rw [hwd] at V1
       replace V1 := qH V1
       refine wp_region_held_drew (S := (fun w' => Below w1.heap.size w1 w')) (by kernel_rfl) (V.out.drew.bel) (fun hHeld => ?_)
       rw [hwd] at hHeld ⊢
       have hR0 : Below wr.heap.size wr wd := by rw [← hwd]; exact (Below.refl _ wr).drew
       have hRs := hR0.size
       clear hwd
       refine tk 0 ?_
       simp only [pR]
       refine tk 1 ?_
       simp only [pR]
       refine tk 2 ?_
       simp only [pR]
       refine tw 3 rfl (by intro w hSw; (try dsimp only at hSw); have t1 := (X.out.to hSw).at (j := 1) rfl; rw [HA.out] at t1; go_simp; (try with_reducible rfl)) ?_
       simp only [pR]
       refine tk 4 ?_
       simp only [pR]
       refine tk 5 ?_
       simp only [pR]
       refine tk 6 ?_
       simp only [pR]
       refine tw 7 rfl (by intro w hSw; (try dsimp only at hSw); have t1 := (hSw.cell (p := ⟨bb, o + k * 5, none⟩) HBB.out).trans HCK.out; go_simp; (try with_reducible rfl)) ?_
       simp only [pR]
       refine tk 8 ?_
       simp only [pR]
       refine tk 9 ?_
       simp only [pR]
       refine tk 10 ?_
       simp only [pR]
       refine tk 11 ?_
       simp only [pR]
       refine tw 12 rfl (by intro w hSw; (try dsimp only at hSw); have t1 := (X.out.to hSw).at (j := 1) rfl; rw [HA.out] at t1; go_simp; (try with_reducible rfl)) ?_
       simp only [pR]
       refine tk 13 ?_
       simp only [pR]
       refine tk 14 ?_
       simp only [pR]
       refine tk 15 ?_
       simp only [pR]
       refine tw 16 rfl (by intro w hSw; (try dsimp only at hSw); have t1 := (hSw.cell (p := ⟨bb, o + k * 5, none⟩) HBB.out).trans HCK.out; go_simp; (try with_reducible rfl)) ?_
       simp only [pR]
       refine tk 17 ?_
       simp only [pR]
       refine tk 18 ?_
       simp only [pR]
       refine tk 19 ?_
       simp only [pR]
       refine tk 20 ?_
       simp only [pR]
       refine tk 21 ?_
       simp only [pR]
       refine tk 22 ?_
       simp only [pR]
       refine sk 23 ?_
       simp only [pR]
       refine sk 24 ?_
       simp only [pR]
       refine sk 25 ?_
       simp only [pR]
       refine sk 26 ?_
       simp only [pR]
       refine sk 27 ?_
       simp only [pR]
       refine sk 28 ?_
       simp only [pR]
       refine sk 29 ?_
       simp only [pR]
       refine sk 30 ?_
       simp only [pR]
       refine sk 31 ?_
       simp only [pR]
       refine sk 32 ?_
       simp only [pR]
       refine sk 33 ?_
       simp only [pR]
       refine sk 34 ?_
       simp only [pR]
       refine sk 35 ?_
       simp only [pR]
       refine sk 36 ?_
       simp only [pR]
       refine tk 37 ?_
       simp only [pR]
       refine tk 38 ?_
       simp only [pR]
       refine tk 39 ?_
       simp only [pR]
       refine wpAnyH_done (by kernel_rfl) ?_ _
       clear hd1 hd2 h3a h3b
       clear hHeld hR0 hRs
       go_wp2_with fail
       go_roundw
       case rel => exact ⟨k + 1, _, HLT.out, by go_num, rfl, any_step HB.out HF.out, V1.out⟩
       case measure => simp [intOf]; omega
     ·have HF : Hid (true = (true || wrP c k)) := rfl
      obtain ⟨wd, hwd⟩ : ∃ wd, wr.drew = wd := ⟨_, rfl⟩
      have V1 := V.out.drew
      rw [hwd] at V1
      replace V1 := qH V1
      refine wp_region_held_drew (S := (fun w' => Below w1.heap.size w1 w')) (by kernel_rfl) (V.out.drew.bel) (fun hHeld => ?_)
      rw [hwd] at hHeld ⊢
      have hR0 : Below wr.heap.size wr wd := by rw [← hwd]; exact (Below.refl _ wr).drew
      have hRs := hR0.size
      clear hwd
      refine tk 0 ?_
      simp only [pR]
      refine tk 1 ?_
      simp only [pR]
      refine sk 2 ?_
      simp only [pR]
      refine sk 3 ?_
      simp only [pR]
      refine sk 4 ?_
      simp only [pR]
      refine sk 5 ?_
      simp only [pR]
      refine sk 6 ?_
      simp only [pR]
      refine sk 7 ?_
      simp only [pR]
      refine sk 8 ?_
      simp only [pR]
      refine tk 9 ?_
      simp only [pR]
      refine tk 10 ?_
      simp only [pR]
      refine sk 11 ?_
      simp only [pR]
      refine sk 12 ?_
      simp only [pR]
      refine sk 13 ?_
      simp only [pR]
      refine sk 14 ?_
      simp only [pR]
      refine sk 15 ?_
      simp only [pR]
      refine sk 16 ?_
      simp only [pR]
      refine sk 17 ?_
      simp only [pR]
      refine tk 18 ?_
      simp only [pR]
      refine tk 19 ?_
      simp only [pR]
      refine sk 20 ?_
      simp only [pR]
      refine sk 21 ?_
      simp only [pR]
      refine sk 22 ?_
      simp only [pR]
      refine sk 23 ?_
      simp only [pR]
      refine sk 24 ?_
      simp only [pR]
      refine sk 25 ?_
      simp only [pR]
      refine sk 26 ?_
      simp only [pR]
      refine sk 27 ?_
      simp only [pR]
      refine sk 28 ?_
      simp only [pR]
      refine sk 29 ?_
      simp only [pR]
      refine sk 30 ?_
      simp only [pR]
      refine sk 31 ?_
      simp only [pR]
      refine sk 32 ?_
      simp only [pR]
      refine sk 33 ?_
      simp only [pR]
      refine sk 34 ?_
      simp only [pR]
      refine sk 35 ?_
      simp only [pR]
      refine sk 36 ?_
      simp only [pR]
      refine sk 37 ?_
      simp only [pR]
      refine tk 38 ?_
      simp only [pR]
      refine tk 39 ?_
      simp only [pR]
      refine wpAnyH_done (by kernel_rfl) ?_ _
      clear hHeld hR0 hRs
      go_wp2_with fail
      go_roundw
      case rel => exact ⟨k + 1, _, HLT.out, by go_num, rfl, any_step HB.out HF.out, V1.out⟩
      case measure => simp [intOf]; omega
    ·obtain rfl : k = v.np := by have := HK.out; omega
     have HB1 : Hid (b = fltP c) := by (show _ = _); rw [HB.out, ← HB0.out, ← HLP.out]; rfl
     clear HB
     clear hlt
     go_upto_if 105 with (fail)
     go_cut [3] from 59 to 108 (fun s3 wx => VSt w1 wx s3 (l1 ++ more b 120))
     case first =>
      cases b
      ·go_wp2_with fail
       go_meet
       rw [more_no, List.append_nil]
       exact V.out
      ·have hal := (Below.refl wr.heap.size wr).alloc (Nat.le_refl _) (.cells #[.int .i64 120] 3)
       have O7 := qH (own_bv V.out.row hal)
       have N7 := qH (cells_newV wr 3 [.int .i64 120])
       have B8 := qH (V.out.bel.trans (hal.mono V.out.bel.size))
       clear hal
       go_wp2_with (at_builtin; refine wpList_pushV vtI rfl (.tmp 106) (.tmp 107) rfl rfl rfl O7.out (m := 1) (news := [.int .i64 120]) rfl (fun _ => ⟨_, rfl, N7.out⟩) (one_int _) B8.out.size (by have := HLL1.out; omega) ?_; intro v9 w9 hown9 hk9 hv9; obtain ⟨A9, c9, rfl⟩ := own_slV hown9; have B9 := qH (hk9.below B8.out B8.out.size (fun k hk => (O7.out.lt k hk).1)); have O9 := qH hown9; clear hown9 hk9 hv9)
       go_meet
       refine ⟨?_, B9.out⟩
       rw [more_yes, List.length_append, List.map_append]
       exact O9.out
     case rest =>
     rw [HB1.out] at hcut
     clear V HB1
     obtain ⟨A2, k2, hs2⟩ := own_slV hcut.row
     subst hs2
     obtain ⟨l2, hl2⟩ : ∃ l, l1 ++ more (fltP c) 120 = l := ⟨_, rfl⟩
     rw [hl2] at hcut ⊢
     have HL2 := qH hl2
     have HLL2 : Hid (l2.length ≤ 2) := by (show _ ≤ _); rw [← hl2, List.length_append]; have := more_len (fltP c) 120; have := HLL1.out; omega
     obtain ⟨n2, hn2⟩ : ∃ n, n = l2.length := ⟨_, rfl⟩
     rw [← hn2]
     have V : Hid (VSt w1 wc (.slice A2 n2 k2) l2) := by (show VSt _ _ _ _); rw [hn2]; exact hcut
     clear hcut hl2 hn2
     obtain ⟨x2, hx2⟩ : ∃ x, x = wc := ⟨_, rfl⟩
     subst hx2
     -- the regions
     go_upto_region 18 with (fail)
     go_loopw [4, 7] (fun s4 s7 wr => ∃ (k : Nat) (b : Bool), k ≤ v.np ∧ s7 = .int .i64 (k : Int) ∧ s4 = .bool b ∧ b = (false || anyN (wrR c) k) ∧ VSt w1 wr (.slice A2 n2 k2) l2) (fun _ s7 _ => v.np - (intOf s7).toNat)
     case atStart => exact ⟨0, false, Nat.zero_le _, rfl, rfl, by simp [anyN], V.out⟩
     case round =>
      clear V
      obtain ⟨k, b, hk, rfl, rfl, hbb, hv⟩ := hrel
      have V := qH hv
      have HK := qH hk
      have HB := qH hbb
      clear hk hbb hv
      have p1 := (X.out.to V.out.bel).at (j := 1) rfl
      by_cases hlt : k < v.np
      ·as_aux_lemma =>
       obtain ⟨bb, o, A', m, c', hA, y0, y1, y2, y3, y4, hrd, hmc, hcc, hm7⟩ := R.out.pp.at_ hlt
       have HBB : Hid (bb < w1.heap.size) := cell_block y0
       have HA := qH hA
       have HLT := qH hlt
       have hltI : (k : Int) < (v.np : Int) := by omega
       have hwk : IntKind.i64.wrap ((k : Int) + 1) = (k : Int) + 1 := by have := HNP.out; rw [IntKind.wrap_i64]; omega
       obtain ⟨bs, hbs⟩ : ∃ x, (ptAt c.ps k).base = x := ⟨_, rfl⟩
       obtain ⟨sz, hsz⟩ : ∃ y, (ptAt c.ps k).size = y := ⟨_, rfl⟩
       rw [hbs] at y1
       rw [hsz] at y2
       have HC1 := qH y1
       have HC2 := qH y2
       have HC4 := qH y4
       have HWR : Hid (wrR c k = (!mayR (bs, sz) || decide (sz < (m : Int)))) := by (show _ = _); rw [← hbs, ← hsz, ← hrd.1]; rfl
       clear hA y0 y1 y2 y3 y4 hrd hmc hcc hm7 hlt hbs hsz
       go_upto_region 20 with (fail)
       clear p1
       cases b
       ·cases hm : mayR (bs, sz)
        ·have HF : Hid (true = (false || wrR c k)) := by (show _ = _); rw [HWR.out, hm]; rfl
         have HM := qH hm
         clear hm
         obtain ⟨wd, hwd⟩ : ∃ wd, wr.drew = wd := ⟨_, rfl⟩
         have V1 := V.out.drew
         rw [hwd] at V1
         replace V1 := qH V1
         refine wp_region_held_drew (S := (fun w' => Below w1.heap.size w1 w')) (by kernel_rfl) (V.out.drew.bel) (fun hHeld => ?_)
         rw [hwd] at hHeld ⊢
         have hR0 : Below wr.heap.size wr wd := by rw [← hwd]; exact (Below.refl _ wr).drew
         have hRs := hR0.size
         clear hwd
         refine tk 0 ?_
         simp only [pR]
         refine tk 1 ?_
         simp only [pR]
         refine tk 2 ?_
         simp only [pR]
         refine tw 3 rfl (by intro w hSw; (try dsimp only at hSw); have t1 := (X.out.to hSw).at (j := 1) rfl; rw [HA.out] at t1; go_simp; (try with_reducible rfl)) ?_
         simp only [pR]
         refine tk 4 ?_
         simp only [pR]
         refine tk 5 ?_
         simp only [pR]
         refine tk 6 ?_
         simp only [pR]
         refine tw 7 rfl (by intro w hSw; (try dsimp only at hSw); have t1 := (hSw.cell (p := ⟨bb, o + k * 5 + 1, none⟩) HBB.out).trans HC1.out; have t2 := (hSw.cell (p := ⟨bb, o + k * 5 + 2, none⟩) HBB.out).trans HC2.out; go_simp; (try with_reducible rfl)) ?_
         simp only [pR]
         refine rd1 8 (fun K hK => ?_)
         go_simp
         refine (rMayR bs sz wd).mono ?_
         rw [HM.out]
         rintro e we ⟨rfl, hb⟩
         replace V1 := qH (V1.out.step hb)
         clear hb hHeld
         go_wp2_with fail
         refine hK.out _ _ (V1.out.bel) (fun hHeld => ?_)
         clear hK K
         refine tk 9 ?_
         simp only [pR]
         refine tk 10 ?_
         simp only [pR]
         refine tk 11 ?_
         simp only [pR]
         refine sk 12 ?_
         simp only [pR]
         refine sk 13 ?_
         simp only [pR]
         refine sk 14 ?_
         simp only [pR]
         refine sk 15 ?_
         simp only [pR]
         refine sk 16 ?_
         simp only [pR]
         refine sk 17 ?_
         simp only [pR]
         refine sk 18 ?_
         simp only [pR]
         refine sk 19 ?_
         simp only [pR]
         refine sk 20 ?_
         simp only [pR]
         refine sk 21 ?_
         simp only [pR]
         refine sk 22 ?_
         simp only [pR]
         refine sk 23 ?_
         simp only [pR]
         refine sk 24 ?_
         simp only [pR]
         refine sk 25 ?_
         simp only [pR]
         refine sk 26 ?_
         simp only [pR]
         refine tk 27 ?_
         simp only [pR]
         refine tk 28 ?_
         simp only [pR]
         refine wpAnyH_done (by kernel_rfl) ?_ _
         clear hHeld hR0 hRs
         go_wp2_with fail
         go_roundw
         case rel => exact ⟨k + 1, _, HLT.out, by go_num, rfl, any_step HB.out HF.out, V1.out⟩
         case measure => simp [intOf]; omega
        ·obtain ⟨z, hz⟩ : ∃ z, decide (sz < (m : Int)) = z := ⟨_, rfl⟩
         have HF : Hid (z = (false || wrR c k)) := by (show _ = _); rw [HWR.out, hm, hz]; rfl
         have HM := qH hm
         clear hm
         obtain ⟨wd, hwd⟩ : ∃ wd, wr.drew = wd := ⟨_, rfl⟩
         have V1 := V.out.drew
         rw [hwd] at V1
         replace V1 := qH V1
         refine wp_region_held_drew (S := (fun w' => Below w1.heap.size w1 w')) (by kernel_rfl) (V.out.drew.bel) (fun hHeld => ?_)
         rw [hwd] at hHeld ⊢
         have hR0 : Below wr.heap.size wr wd := by rw [← hwd]; exact (Below.refl _ wr).drew
         have hRs := hR0.size
         clear hwd
         refine tk 0 ?_
         simp only [pR]
         refine tk 1 ?_
         simp only [pR]
         refine tk 2 ?_
         simp only [pR]
         refine tw 3 rfl (by intro w hSw; (try dsimp only at hSw); have t1 := (X.out.to hSw).at (j := 1) rfl; rw [HA.out] at t1; go_simp; (try with_reducible rfl)) ?_
         simp only [pR]
         refine tk 4 ?_
         simp only [pR]
         refine tk 5 ?_
         simp only [pR]
         refine tk 6 ?_
         simp only [pR]
         refine tw 7 rfl (by intro w hSw; (try dsimp only at hSw); have t1 := (hSw.cell (p := ⟨bb, o + k * 5 + 1, none⟩) HBB.out).trans HC1.out; have t2 := (hSw.cell (p := ⟨bb, o + k * 5 + 2, none⟩) HBB.out).trans HC2.out; go_simp; (try with_reducible rfl)) ?_
         simp only [pR]
         refine rd1 8 (fun K hK => ?_)
         go_simp
         refine (rMayR bs sz wd).mono ?_
         rw [HM.out]
         rintro e we ⟨rfl, hb⟩
         replace V1 := qH (V1.out.step hb)
         clear hb hHeld
         go_wp2_with fail
         refine hK.out _ _ (V1.out.bel) (fun hHeld => ?_)
         clear hK K
         refine tk 9 ?_
         simp only [pR]
         refine tk 10 ?_
         simp only [pR]
         refine tk 11 ?_
         simp only [pR]
         refine tk 12 ?_
         simp only [pR]
         refine tw 13 rfl (by intro w hSw; (try dsimp only at hSw); have t1 := (X.out.to hSw).at (j := 1) rfl; rw [HA.out] at t1; go_simp; (try with_reducible rfl)) ?_
         simp only [pR]
         refine tk 14 ?_
         simp only [pR]
         refine tk 15 ?_
         simp only [pR]
         refine tk 16 ?_
         simp only [pR]
         refine tw 17 rfl (by intro w hSw; (try dsimp only at hSw); have t1 := (hSw.cell (p := ⟨bb, o + k * 5 + 4, none⟩) HBB.out).trans HC4.out; go_simp; (try with_reducible rfl)) ?_
         simp only [pR]
         refine tk 18 ?_
         simp only [pR]
         refine tk 19 ?_
         simp only [pR]
         refine tw 20 rfl (by intro w hSw; (try dsimp only at hSw); have t1 := (X.out.to hSw).at (j := 1) rfl; rw [HA.out] at t1; go_simp; (try with_reducible rfl)) ?_
         simp only [pR]
         refine tk 21 ?_
         simp only [pR]
         refine tk 22 ?_
         simp only [pR]
         refine tk 23 ?_
         simp only [pR]
         refine tk 24 ?_
         simp only [pR]
         refine tw 25 rfl (by intro w hSw; (try dsimp only at hSw); have t2 := (hSw.cell (p := ⟨bb, o + k * 5 + 2, none⟩) HBB.out).trans HC2.out; go_simp; (try with_reducible rfl)) ?_
         simp only [pR]
         refine tk 26 ?_
         simp only [pR]
         refine tk 27 ?_
         simp only [pR]
         refine tk 28 ?_
         simp only [pR]
         refine wpAnyH_done (by kernel_rfl) ?_ _
         clear hz
         clear hHeld hR0 hRs
         go_wp2_with fail
         go_roundw
         case rel => exact ⟨k + 1, _, HLT.out, by go_num, rfl, any_step HB.out HF.out, V1.out⟩
         case measure => simp [intOf]; omega
       ·have HF : Hid (true = (true || wrR c k)) := rfl
        obtain ⟨wd, hwd⟩ : ∃ wd, wr.drew = wd := ⟨_, rfl⟩
        have V1 := V.out.drew
        rw [hwd] at V1
        replace V1 := qH V1
        refine wp_region_held_drew (S := (fun w' => Below w1.heap.size w1 w')) (by kernel_rfl) (V.out.drew.bel) (fun hHeld => ?_)
        rw [hwd] at hHeld ⊢
        have hR0 : Below wr.heap.size wr wd := by rw [← hwd]; exact (Below.refl _ wr).drew
        have hRs := hR0.size
        clear hwd
        refine tk 0 ?_
        simp only [pR]
        refine tk 1 ?_
        simp only [pR]
        refine sk 2 ?_
        simp only [pR]
        refine sk 3 ?_
        simp only [pR]
        refine sk 4 ?_
        simp only [pR]
        refine sk 5 ?_
        simp only [pR]
        refine sk 6 ?_
        simp only [pR]
        refine sk 7 ?_
        simp only [pR]
        refine sk 8 ?_
        simp only [pR]
        refine sk 9 ?_
        simp only [pR]
        refine tk 10 ?_
        simp only [pR]
        refine tk 11 ?_
        simp only [pR]
        refine sk 12 ?_
        simp only [pR]
        refine sk 13 ?_
        simp only [pR]
        refine sk 14 ?_
        simp only [pR]
        refine sk 15 ?_
        simp only [pR]
        refine sk 16 ?_
        simp only [pR]
        refine sk 17 ?_
        simp only [pR]
        refine sk 18 ?_
        simp only [pR]
        refine sk 19 ?_
        simp only [pR]
        refine sk 20 ?_
        simp only [pR]
        refine sk 21 ?_
        simp only [pR]
        refine sk 22 ?_
        simp only [pR]
        refine sk 23 ?_
        simp only [pR]
        refine sk 24 ?_
        simp only [pR]
        refine sk 25 ?_
        simp only [pR]
        refine sk 26 ?_
        simp only [pR]
        refine tk 27 ?_
        simp only [pR]
        refine tk 28 ?_
        simp only [pR]
        refine wpAnyH_done (by kernel_rfl) ?_ _
        clear hHeld hR0 hRs
        go_wp2_with fail
        go_roundw
        case rel => exact ⟨k + 1, _, HLT.out, by go_num, rfl, any_step HB.out HF.out, V1.out⟩
        case measure => simp [intOf]; omega
      ·obtain rfl : k = v.np := by have := HK.out; omega
       have HB1 : Hid (b = fltR c) := by (show _ = _); rw [HB.out, ← HLP.out]; simp [fltR]
       clear HB
       clear hlt
       go_upto_if 144 with (fail)
       go_cut [3] from 109 to 147 (fun s3 wx => VSt w1 wx s3 (l2 ++ more b 80))
       case first =>
        cases b
        ·go_wp2_with fail
         go_meet
         rw [more_no, List.append_nil]
         exact V.out
        ·have hal := (Below.refl wr.heap.size wr).alloc (Nat.le_refl _) (.cells #[.int .i64 80] 3)
         have O7 := qH (own_bv V.out.row hal)
         have N7 := qH (cells_newV wr 3 [.int .i64 80])
         have B8 := qH (V.out.bel.trans (hal.mono V.out.bel.size))
         clear hal
         go_wp2_with (at_builtin; refine wpList_pushV vtI rfl (.tmp 145) (.tmp 146) rfl rfl rfl O7.out (m := 1) (news := [.int .i64 80]) rfl (fun _ => ⟨_, rfl, N7.out⟩) (one_int _) B8.out.size (by have := HLL2.out; omega) ?_; intro v9 w9 hown9 hk9 hv9; obtain ⟨A9, c9, rfl⟩ := own_slV hown9; have B9 := qH (hk9.below B8.out B8.out.size (fun k hk => (O7.out.lt k hk).1)); have O9 := qH hown9; clear hown9 hk9 hv9)
         go_meet
         refine ⟨?_, B9.out⟩
         rw [more_yes, List.length_append, List.map_append]
         exact O9.out
       case rest =>
       rw [HB1.out] at hcut
       clear V HB1
       obtain ⟨A3, k3, hs3⟩ := own_slV hcut.row
       subst hs3
       obtain ⟨l3, hl3⟩ : ∃ l, l2 ++ more (fltR c) 80 = l := ⟨_, rfl⟩
       rw [hl3] at hcut ⊢
       have HL3 := qH hl3
       have HLL3 : Hid (l3.length ≤ 3) := by (show _ ≤ _); rw [← hl3, List.length_append]; have := more_len (fltR c) 80; have := HLL2.out; omega
       obtain ⟨n3, hn3⟩ : ∃ n, n = l3.length := ⟨_, rfl⟩
       rw [← hn3]
       have V : Hid (VSt w1 wc (.slice A3 n3 k3) l3) := by (show VSt _ _ _ _); rw [hn3]; exact hcut
       clear hcut hl3 hn3
       obtain ⟨x3, hx3⟩ : ∃ x, x = wc := ⟨_, rfl⟩
       subst hx3
       -- regions that overlap
       go_upto_region 25 with (fail)
       go_loopw [4, 8, 9, 10, 11] (fun s4 s8 s9 s10 s11 wr => ∃ (k : Nat) (b : Bool), k ≤ v.np ∧ s8 = .int .i64 (k : Int) ∧ s4 = .bool b ∧ b = (false || anyN (fun i => anyN (wrO c i) i) k) ∧ VSt w1 wr (.slice A3 n3 k3) l3) (fun _ s8 _ _ _ _ => v.np - (intOf s8).toNat)
       case atStart => exact ⟨0, false, Nat.zero_le _, rfl, rfl, by simp [anyN], V.out⟩
       case round =>
        clear V
        obtain ⟨k, b, hk, rfl, rfl, hbb, hv⟩ := hrel
        have V := qH hv
        have HK := qH hk
        have HB := qH hbb
        clear hk hbb hv
        have p1 := (X.out.to V.out.bel).at (j := 1) rfl
        by_cases hlt : k < v.np
        ·as_aux_lemma =>
         obtain ⟨bb, o, A', m, c', hA, y0, y1, y2, y3, y4, hrd, hmc, hcc, hm7⟩ := R.out.pp.at_ hlt
         have HBB : Hid (bb < w1.heap.size) := cell_block y0
         have HA := qH hA
         have HLT := qH hlt
         have hltI : (k : Int) < (v.np : Int) := by omega
         have hwk : IntKind.i64.wrap ((k : Int) + 1) = (k : Int) + 1 := by have := HNP.out; rw [IntKind.wrap_i64]; omega
         obtain ⟨bs, hbs⟩ : ∃ x, (ptAt c.ps k).base = x := ⟨_, rfl⟩
         obtain ⟨sz, hsz⟩ : ∃ y, (ptAt c.ps k).size = y := ⟨_, rfl⟩
         rw [hbs] at y1
         rw [hsz] at y2
         have HC1 := qH y1
         have HC2 := qH y2
         have HRK : Hid (regP (ptAt c.ps k) = (bs, sz)) := by (show _ = _); rw [← hbs, ← hsz]; rfl
         have HPP : Hid (∀ j, j < v.np → w1.cell? ⟨bb, o + j * 5 + 1, none⟩ = some (.int .i64 (ptAt c.ps j).base) ∧ w1.cell? ⟨bb, o + j * 5 + 2, none⟩ = some (.int .i64 (ptAt c.ps j).size)) := fun j hj => by
          obtain ⟨b2, o2, _, _, _, hA2, _, z1, z2, _⟩ := R.out.pp.at_ hj
          rw [hA] at hA2
          cases hA2
          exact ⟨z1, z2⟩
         clear hA y0 y1 y2 y3 y4 hrd hmc hcc hm7 hlt hbs hsz
         obtain ⟨wo, hwo⟩ : ∃ x, x = wr := ⟨_, rfl⟩
         subst hwo
         go_wp2_with fail
         clear p1
         go_loopw [4, 9, 10, 11] (fun s4 s9 s10 s11 wr => ∃ (j : Nat) (b' : Bool), j ≤ k ∧ s9 = .int .i64 (j : Int) ∧ s4 = .bool b' ∧ b' = (b || anyN (wrO c k) j) ∧ VSt w1 wr (.slice A3 n3 k3) l3) (fun _ s9 _ _ _ => k - (intOf s9).toNat)
         case atStart => exact ⟨0, b, Nat.zero_le _, rfl, rfl, by simp [anyN], V.out⟩
         case round =>
          clear V
          obtain ⟨j, b', hj, rfl, rfl, hbb, hv⟩ := hrel
          have V := qH hv
          have HJ := qH hj
          have HB2 := qH hbb
          clear hj hbb hv
          by_cases hjt : j < k
          ·have hjI : (j : Int) < (k : Int) := by omega
           have hjn : (j : Int) < (v.np : Int) := by have := HLT.out; omega
           have HJT := qH hjt
           have hwj : IntKind.i64.wrap ((j : Int) + 1) = (j : Int) + 1 := by have := HNP.out; rw [IntKind.wrap_i64]; omega
           obtain ⟨bt, hbt⟩ : ∃ x, (ptAt c.ps j).base = x := ⟨_, rfl⟩
           obtain ⟨st, hst⟩ : ∃ x, (ptAt c.ps j).size = x := ⟨_, rfl⟩
           have hpj := HPP.out j (by have := HLT.out; omega)
           rw [hbt, hst] at hpj
           have HD1 := qH hpj.1
           have HD2 := qH hpj.2
           have HWO : Hid (wrO c k j = (mayR (bs, sz) && (mayR (bt, st) && !apartR (bs, sz) (bt, st)))) := by (show _ = _); unfold wrO; rw [HRK.out, show regP (ptAt c.ps j) = (bt, st) from by rw [← hbt, ← hst]; rfl]
           clear hpj hbt hst hjt
           go_upto_region 30 with (fail)
           obtain ⟨wd, hwd⟩ : ∃ wd, wr.drew = wd := ⟨_, rfl⟩
           have V1 := V.out.drew
           rw [hwd] at V1
           replace V1 := qH V1
           refine wp_region_held_drew (S := (fun w' => Below w1.heap.size w1 w')) (by kernel_rfl) (V.out.drew.bel) (fun hHeld => ?_)
           rw [hwd] at hHeld ⊢
           have hR0 : Below wr.heap.size wr wd := by rw [← hwd]; exact (Below.refl _ wr).drew
           have hRs := hR0.size
           clear hwd
           have BR : Hid (Below wr.heap.size wr wd) := by (show Below _ _ _); exact hR0
           clear hR0
           refine tk 0 ?_
           simp only [pR]
           refine tw 1 rfl (by intro w hSw; (try dsimp only at hSw); have t1 := (X.out.to hSw).at (j := 1) rfl; rw [HA.out] at t1; go_simp; (try with_reducible rfl)) ?_
           simp only [pR]
           refine tk 2 ?_
           simp only [pR]
           refine tk 3 ?_
           simp only [pR]
           refine tk 4 ?_
           simp only [pR]
           refine tw 5 rfl (by intro w hSw; (try dsimp only at hSw); have t1 := (hSw.cell (p := ⟨bb, o + k * 5 + 1, none⟩) HBB.out).trans HC1.out; have t2 := (hSw.cell (p := ⟨bb, o + k * 5 + 2, none⟩) HBB.out).trans HC2.out; go_simp; (try with_reducible rfl)) ?_
           simp only [pR]
           refine tk 6 ?_
           simp only [pR]
           refine tw 7 rfl (by intro w hSw; (try dsimp only at hSw); have t1 := (X.out.to hSw).at (j := 1) rfl; rw [HA.out] at t1; go_simp; (try with_reducible rfl)) ?_
           simp only [pR]
           refine tk 8 ?_
           simp only [pR]
           refine tk 9 ?_
           simp only [pR]
           refine tk 10 ?_
           simp only [pR]
           refine tw 11 rfl (by intro w hSw; (try dsimp only at hSw); have t1 := (hSw.cell (p := ⟨bb, o + j * 5 + 1, none⟩) HBB.out).trans HD1.out; have t2 := (hSw.cell (p := ⟨bb, o + j * 5 + 2, none⟩) HBB.out).trans HD2.out; go_simp; (try with_reducible rfl)) ?_
           simp only [pR]
           refine wpAnyH_ready (rs := [12, 13]) (by kernel_rfl) (by simp) ?_
           refine AllReadyH.cons rfl (fun K hK => ?_) (AllReadyH.cons rfl (fun K hK => ?_) AllReadyH.nil)
           ·skip
            go_simp
            refine hK.out _ _ ((hHeld.alloc hHeld.size (.cells #[.int .i64 0, .int .i64 0] 56))) (fun hHeld => ?_)
            clear hK K
            have hal := (Below.refl wd.heap.size wd).alloc (Nat.le_refl _) (.cells #[.int .i64 0, .int .i64 0] 56)
            have hz := Bx.new wd 56 [.int .i64 0, .int .i64 0]
            have hm : Below w1.heap.size w1 (wd.alloc (.cells #[.int .i64 0, .int .i64 0] 56)) := hHeld
            replace BR := qH (BR.out.trans (hal.mono BR.out.size))
            clear hm
            have hlt1 := hz.lt
            generalize hgA : wd.heap.size = gA at *
            have HGA : Hid (w1.heap.size ≤ gA) := by (show _ ≤ _); rw [← hgA]; exact V1.out.bel.size
            have HRA : Hid (wr.heap.size ≤ gA) := by (show _ ≤ _); exact hRs
            replace hgA := qH hgA
            generalize wd.alloc (.cells #[.int .i64 0, .int .i64 0] 56) = wn1 at *
            have ZA := qH hz
            clear hz hal
            refine rd1 13 (fun K hK => ?_)
            go_simp
            refine hK.out _ _ ((hHeld.alloc hHeld.size (.cells #[.int .i64 0, .int .i64 0] 56))) (fun hHeld => ?_)
            clear hK K
            have hal := (Below.refl wn1.heap.size wn1).alloc (Nat.le_refl _) (.cells #[.int .i64 0, .int .i64 0] 56)
            have hz := Bx.new wn1 56 [.int .i64 0, .int .i64 0]
            replace BR := qH (BR.out.trans (hal.mono BR.out.size))
            replace ZA := qH (ZA.out.to hal)
            generalize hgB : wn1.heap.size = gB at *
            have HNE : Hid (gB ≠ gA) := by (show _ ≠ _); omega
            have HGB : Hid (w1.heap.size ≤ gB) := by (show _ ≤ _); have := HGA.out; omega
            have HRB : Hid (wr.heap.size ≤ gB) := by (show _ ≤ _); have := HRA.out; omega
            replace hgB := qH hgB
            generalize wn1.alloc (.cells #[.int .i64 0, .int .i64 0] 56) = wn2 at *
            have ZB := qH hz
            clear hz hal hlt1 hRs
            have a0 := ZA.out.at (j := 0) rfl
            have a1 := ZA.out.at (j := 1) rfl
            have f0 := ZA.out.fz 0
            have f1 := ZA.out.fz 1
            refine rd1 14 (fun K hK => ?_)
            go_simp
            refine hK.out _ _ ((hHeld.setCell (p := ⟨gA, 0, none⟩) HGA.out (.int .i64 bs)).setCell (p := ⟨gA, 1, none⟩) HGA.out (.int .i64 sz)) (fun hHeld => ?_)
            clear hK K
            have ZA3 : Hid (Bx ((wn2.setCell ⟨gA, 0, none⟩ (.int .i64 bs)).setCell ⟨gA, 1, none⟩ (.int .i64 sz)) gA 56 [.int .i64 bs, .int .i64 sz]) := (ZA.out.set 0 (.int .i64 bs)).set 1 (.int .i64 sz)
            have ZB3 := qH ((ZB.out.other ⟨gA, 0, none⟩ (.int .i64 bs) HNE.out).other ⟨gA, 1, none⟩ (.int .i64 sz) HNE.out)
            have BR3 := qH ((BR.out.setCell (p := ⟨gA, 0, none⟩) HRA.out (.int .i64 bs)).setCell (p := ⟨gA, 1, none⟩) HRA.out (.int .i64 sz))
            clear a0 a1 f0 f1 ZA ZB BR
            generalize (wn2.setCell ⟨gA, 0, none⟩ (.int .i64 bs)).setCell ⟨gA, 1, none⟩ (.int .i64 sz) = wn3 at *
            have a0 := ZB3.out.at (j := 0) rfl
            have a1 := ZB3.out.at (j := 1) rfl
            have f0 := ZB3.out.fz 0
            have f1 := ZB3.out.fz 1
            refine rd1 15 (fun K hK => ?_)
            go_simp
            refine hK.out _ _ ((hHeld.setCell (p := ⟨gB, 0, none⟩) HGB.out (.int .i64 bt)).setCell (p := ⟨gB, 1, none⟩) HGB.out (.int .i64 st)) (fun hHeld => ?_)
            clear hK K
            have ZB4 : Hid (Bx ((wn3.setCell ⟨gB, 0, none⟩ (.int .i64 bt)).setCell ⟨gB, 1, none⟩ (.int .i64 st)) gB 56 [.int .i64 bt, .int .i64 st]) := (ZB3.out.set 0 (.int .i64 bt)).set 1 (.int .i64 st)
            have ZA4 := qH ((ZA3.out.other ⟨gB, 0, none⟩ (.int .i64 bt) (Ne.symm HNE.out)).other ⟨gB, 1, none⟩ (.int .i64 st) (Ne.symm HNE.out))
            have BR4 := qH ((BR3.out.setCell (p := ⟨gB, 0, none⟩) HRB.out (.int .i64 bt)).setCell (p := ⟨gB, 1, none⟩) HRB.out (.int .i64 st))
            clear a0 a1 f0 f1 ZA3 ZB3 BR3
            generalize (wn3.setCell ⟨gB, 0, none⟩ (.int .i64 bt)).setCell ⟨gB, 1, none⟩ (.int .i64 st) = wn4 at *
            refine wpAnyH_done (by kernel_rfl) ?_ _
            clear hHeld V1
            have V4 := qH (V.out.step BR4.out)
            cases b'
            ·have a0 := ZA4.out.at (j := 0) rfl
             have a1 := ZA4.out.at (j := 1) rfl
             go_wp2_with fail
             refine (rMayR bs sz wn4).mono ?_
             rintro e wn5 ⟨rfl, hb⟩
             replace BR4 := qH (BR4.out.trans (hb.mono BR4.out.size))
             replace ZA4 := qH (ZA4.out.to hb)
             replace ZB4 := qH (ZB4.out.to hb)
             clear hb a0 a1
             cases hm1 : mayR (bs, sz)
             ·have HF : Hid (false = (false || wrO c k j)) := by (show _ = _); rw [HWO.out, hm1]; rfl
              clear hm1
              go_wp2_with fail
              have V5 := qH (V.out.step BR4.out)
              go_roundw
              case rel => exact ⟨j + 1, _, HJT.out, by go_num, rfl, any_step HB2.out HF.out, V5.out⟩
              case measure => simp [intOf]; omega
             have b0 := ZB4.out.at (j := 0) rfl
             have b1 := ZB4.out.at (j := 1) rfl
             have HM1 := qH hm1
             clear hm1
             go_wp2_with fail
             refine (rMayR bt st wn5).mono ?_
             rintro e wn6 ⟨rfl, hb⟩
             replace BR4 := qH (BR4.out.trans (hb.mono BR4.out.size))
             replace ZA4 := qH (ZA4.out.to hb)
             replace ZB4 := qH (ZB4.out.to hb)
             clear hb b0 b1
             cases hm2 : mayR (bt, st)
             ·have HF : Hid (false = (false || wrO c k j)) := by (show _ = _); rw [HWO.out, HM1.out, hm2]; rfl
              clear hm2
              go_wp2_with fail
              have V5 := qH (V.out.step BR4.out)
              go_roundw
              case rel => exact ⟨j + 1, _, HJT.out, by go_num, rfl, any_step HB2.out HF.out, V5.out⟩
              case measure => simp [intOf]; omega
             have HM2 := qH hm2
             clear hm2
             have a0 := ZA4.out.at (j := 0) rfl
             have a1 := ZA4.out.at (j := 1) rfl
             have b0 := ZB4.out.at (j := 0) rfl
             have b1 := ZB4.out.at (j := 1) rfl
             go_wp2_with fail
             refine (rApart bs sz bt st wn6).mono ?_
             rintro e wn7 ⟨rfl, hb⟩
             replace BR4 := qH (BR4.out.trans (hb.mono BR4.out.size))
             obtain ⟨ap, hap⟩ : ∃ x, apartR (bs, sz) (bt, st) = x := ⟨_, rfl⟩
             have HF : Hid ((!ap) = (false || wrO c k j)) := by (show _ = _); rw [HWO.out, HM1.out, HM2.out, hap]; rfl
             rw [hap]
             clear hb a0 a1 b0 b1 hap
             go_wp2_with fail
             have V5 := qH (V.out.step BR4.out)
             go_roundw
             case rel => exact ⟨j + 1, _, HJT.out, by go_num, rfl, any_step HB2.out HF.out, V5.out⟩
             case measure => simp [intOf]; omega
            ·have HF : Hid (true = (true || wrO c k j)) := rfl
             go_wp2_with fail
             have V5 := qH (V.out.step BR4.out)
             go_roundw
             case rel => exact ⟨j + 1, _, HJT.out, by go_num, rfl, any_step HB2.out HF.out, V5.out⟩
             case measure => simp [intOf]; omega
           ·skip
            go_simp
            refine hK.out _ _ ((hHeld.alloc hHeld.size (.cells #[.int .i64 0, .int .i64 0] 56))) (fun hHeld => ?_)
            clear hK K
            have hal := (Below.refl wd.heap.size wd).alloc (Nat.le_refl _) (.cells #[.int .i64 0, .int .i64 0] 56)
            have hz := Bx.new wd 56 [.int .i64 0, .int .i64 0]
            have hm : Below w1.heap.size w1 (wd.alloc (.cells #[.int .i64 0, .int .i64 0] 56)) := hHeld
            replace BR := qH (BR.out.trans (hal.mono BR.out.size))
            clear hm
            have hlt1 := hz.lt
            generalize hgB : wd.heap.size = gB at *
            have HGB : Hid (w1.heap.size ≤ gB) := by (show _ ≤ _); rw [← hgB]; exact V1.out.bel.size
            have HRB : Hid (wr.heap.size ≤ gB) := by (show _ ≤ _); exact hRs
            replace hgB := qH hgB
            generalize wd.alloc (.cells #[.int .i64 0, .int .i64 0] 56) = wn1 at *
            have ZB := qH hz
            clear hz hal
            refine rd1 12 (fun K hK => ?_)
            go_simp
            refine hK.out _ _ ((hHeld.alloc hHeld.size (.cells #[.int .i64 0, .int .i64 0] 56))) (fun hHeld => ?_)
            clear hK K
            have hal := (Below.refl wn1.heap.size wn1).alloc (Nat.le_refl _) (.cells #[.int .i64 0, .int .i64 0] 56)
            have hz := Bx.new wn1 56 [.int .i64 0, .int .i64 0]
            replace BR := qH (BR.out.trans (hal.mono BR.out.size))
            replace ZB := qH (ZB.out.to hal)
            generalize hgA : wn1.heap.size = gA at *
            have HNE : Hid (gB ≠ gA) := by (show _ ≠ _); omega
            have HGA : Hid (w1.heap.size ≤ gA) := by (show _ ≤ _); have := HGB.out; omega
            have HRA : Hid (wr.heap.size ≤ gA) := by (show _ ≤ _); have := HRB.out; omega
            replace hgA := qH hgA
            generalize wn1.alloc (.cells #[.int .i64 0, .int .i64 0] 56) = wn2 at *
            have ZA := qH hz
            clear hz hal hlt1 hRs
            have a0 := ZA.out.at (j := 0) rfl
            have a1 := ZA.out.at (j := 1) rfl
            have f0 := ZA.out.fz 0
            have f1 := ZA.out.fz 1
            refine rd1 14 (fun K hK => ?_)
            go_simp
            refine hK.out _ _ ((hHeld.setCell (p := ⟨gA, 0, none⟩) HGA.out (.int .i64 bs)).setCell (p := ⟨gA, 1, none⟩) HGA.out (.int .i64 sz)) (fun hHeld => ?_)
            clear hK K
            have ZA3 : Hid (Bx ((wn2.setCell ⟨gA, 0, none⟩ (.int .i64 bs)).setCell ⟨gA, 1, none⟩ (.int .i64 sz)) gA 56 [.int .i64 bs, .int .i64 sz]) := (ZA.out.set 0 (.int .i64 bs)).set 1 (.int .i64 sz)
            have ZB3 := qH ((ZB.out.other ⟨gA, 0, none⟩ (.int .i64 bs) HNE.out).other ⟨gA, 1, none⟩ (.int .i64 sz) HNE.out)
            have BR3 := qH ((BR.out.setCell (p := ⟨gA, 0, none⟩) HRA.out (.int .i64 bs)).setCell (p := ⟨gA, 1, none⟩) HRA.out (.int .i64 sz))
            clear a0 a1 f0 f1 ZA ZB BR
            generalize (wn2.setCell ⟨gA, 0, none⟩ (.int .i64 bs)).setCell ⟨gA, 1, none⟩ (.int .i64 sz) = wn3 at *
            have a0 := ZB3.out.at (j := 0) rfl
            have a1 := ZB3.out.at (j := 1) rfl
            have f0 := ZB3.out.fz 0
            have f1 := ZB3.out.fz 1
            refine rd1 15 (fun K hK => ?_)
            go_simp
            refine hK.out _ _ ((hHeld.setCell (p := ⟨gB, 0, none⟩) HGB.out (.int .i64 bt)).setCell (p := ⟨gB, 1, none⟩) HGB.out (.int .i64 st)) (fun hHeld => ?_)
            clear hK K
            have ZB4 : Hid (Bx ((wn3.setCell ⟨gB, 0, none⟩ (.int .i64 bt)).setCell ⟨gB, 1, none⟩ (.int .i64 st)) gB 56 [.int .i64 bt, .int .i64 st]) := (ZB3.out.set 0 (.int .i64 bt)).set 1 (.int .i64 st)
            have ZA4 := qH ((ZA3.out.other ⟨gB, 0, none⟩ (.int .i64 bt) (Ne.symm HNE.out)).other ⟨gB, 1, none⟩ (.int .i64 st) (Ne.symm HNE.out))
            have BR4 := qH ((BR3.out.setCell (p := ⟨gB, 0, none⟩) HRB.out (.int .i64 bt)).setCell (p := ⟨gB, 1, none⟩) HRB.out (.int .i64 st))
            clear a0 a1 f0 f1 ZA3 ZB3 BR3
            generalize (wn3.setCell ⟨gB, 0, none⟩ (.int .i64 bt)).setCell ⟨gB, 1, none⟩ (.int .i64 st) = wn4 at *
            refine wpAnyH_done (by kernel_rfl) ?_ _
            clear hHeld V1
            have V4 := qH (V.out.step BR4.out)
            cases b'
            ·have a0 := ZA4.out.at (j := 0) rfl
             have a1 := ZA4.out.at (j := 1) rfl
             go_wp2_with fail
             refine (rMayR bs sz wn4).mono ?_
             rintro e wn5 ⟨rfl, hb⟩
             replace BR4 := qH (BR4.out.trans (hb.mono BR4.out.size))
             replace ZA4 := qH (ZA4.out.to hb)
             replace ZB4 := qH (ZB4.out.to hb)
             clear hb a0 a1
             cases hm1 : mayR (bs, sz)
             ·have HF : Hid (false = (false || wrO c k j)) := by (show _ = _); rw [HWO.out, hm1]; rfl
              clear hm1
              go_wp2_with fail
              have V5 := qH (V.out.step BR4.out)
              go_roundw
              case rel => exact ⟨j + 1, _, HJT.out, by go_num, rfl, any_step HB2.out HF.out, V5.out⟩
              case measure => simp [intOf]; omega
             have b0 := ZB4.out.at (j := 0) rfl
             have b1 := ZB4.out.at (j := 1) rfl
             have HM1 := qH hm1
             clear hm1
             go_wp2_with fail
             refine (rMayR bt st wn5).mono ?_
             rintro e wn6 ⟨rfl, hb⟩
             replace BR4 := qH (BR4.out.trans (hb.mono BR4.out.size))
             replace ZA4 := qH (ZA4.out.to hb)
             replace ZB4 := qH (ZB4.out.to hb)
             clear hb b0 b1
             cases hm2 : mayR (bt, st)
             ·have HF : Hid (false = (false || wrO c k j)) := by (show _ = _); rw [HWO.out, HM1.out, hm2]; rfl
              clear hm2
              go_wp2_with fail
              have V5 := qH (V.out.step BR4.out)
              go_roundw
              case rel => exact ⟨j + 1, _, HJT.out, by go_num, rfl, any_step HB2.out HF.out, V5.out⟩
              case measure => simp [intOf]; omega
             have HM2 := qH hm2
             clear hm2
             have a0 := ZA4.out.at (j := 0) rfl
             have a1 := ZA4.out.at (j := 1) rfl
             have b0 := ZB4.out.at (j := 0) rfl
             have b1 := ZB4.out.at (j := 1) rfl
             go_wp2_with fail
             refine (rApart bs sz bt st wn6).mono ?_
             rintro e wn7 ⟨rfl, hb⟩
             replace BR4 := qH (BR4.out.trans (hb.mono BR4.out.size))
             obtain ⟨ap, hap⟩ : ∃ x, apartR (bs, sz) (bt, st) = x := ⟨_, rfl⟩
             have HF : Hid ((!ap) = (false || wrO c k j)) := by (show _ = _); rw [HWO.out, HM1.out, HM2.out, hap]; rfl
             rw [hap]
             clear hb a0 a1 b0 b1 hap
             go_wp2_with fail
             have V5 := qH (V.out.step BR4.out)
             go_roundw
             case rel => exact ⟨j + 1, _, HJT.out, by go_num, rfl, any_step HB2.out HF.out, V5.out⟩
             case measure => simp [intOf]; omega
            ·have HF : Hid (true = (true || wrO c k j)) := rfl
             go_wp2_with fail
             have V5 := qH (V.out.step BR4.out)
             go_roundw
             case rel => exact ⟨j + 1, _, HJT.out, by go_num, rfl, any_step HB2.out HF.out, V5.out⟩
             case measure => simp [intOf]; omega
          ·obtain rfl : j = k := by have := HJ.out; omega
           clear hjt
           have HF : Hid (b' = (b || anyN (wrO c j) j)) := HB2.out
           go_wp2_with fail
           go_roundw
           case rel => exact ⟨j + 1, _, HLT.out, by go_num, rfl, any_step HB.out HF.out, V.out⟩
           case measure => simp [intOf]; omega
        ·obtain rfl : k = v.np := by have := HK.out; omega
         have HB1 : Hid (b = fltO c) := by (show _ = _); rw [HB.out, ← HLP.out]; simp [fltO]
         clear HB
         clear hlt
         go_upto_if 187 with (fail)
         go_cut [3] from 148 to 190 (fun s3 wx => VSt w1 wx s3 (l3 ++ more b 121))
         case first =>
          cases b
          ·go_wp2_with fail
           go_meet
           rw [more_no, List.append_nil]
           exact V.out
          ·have hal := (Below.refl wr.heap.size wr).alloc (Nat.le_refl _) (.cells #[.int .i64 121] 3)
           have O7 := qH (own_bv V.out.row hal)
           have N7 := qH (cells_newV wr 3 [.int .i64 121])
           have B8 := qH (V.out.bel.trans (hal.mono V.out.bel.size))
           clear hal
           go_wp2_with (at_builtin; refine wpList_pushV vtI rfl (.tmp 188) (.tmp 189) rfl rfl rfl O7.out (m := 1) (news := [.int .i64 121]) rfl (fun _ => ⟨_, rfl, N7.out⟩) (one_int _) B8.out.size (by have := HLL3.out; omega) ?_; intro v9 w9 hown9 hk9 hv9; obtain ⟨A9, c9, rfl⟩ := own_slV hown9; have B9 := qH (hk9.below B8.out B8.out.size (fun k hk => (O7.out.lt k hk).1)); have O9 := qH hown9; clear hown9 hk9 hv9)
           go_meet
           refine ⟨?_, B9.out⟩
           rw [more_yes, List.length_append, List.map_append]
           exact O9.out
         case rest =>
         rw [HB1.out] at hcut
         clear V HB1
         obtain ⟨A4, k4, hs4⟩ := own_slV hcut.row
         subst hs4
         obtain ⟨l4, hl4⟩ : ∃ l, l3 ++ more (fltO c) 121 = l := ⟨_, rfl⟩
         rw [hl4] at hcut ⊢
         have HL4 := qH hl4
         have HLL4 : Hid (l4.length ≤ 4) := by (show _ ≤ _); rw [← hl4, List.length_append]; have := more_len (fltO c) 121; have := HLL3.out; omega
         obtain ⟨n4, hn4⟩ : ∃ n, n = l4.length := ⟨_, rfl⟩
         rw [← hn4]
         have V : Hid (VSt w1 wc (.slice A4 n4 k4) l4) := by (show VSt _ _ _ _); rw [hn4]; exact hcut
         clear hcut hl4 hn4
         obtain ⟨x4, hx4⟩ : ∃ x, x = wc := ⟨_, rfl⟩
         subst hx4
         -- the channels
         obtain ⟨b0, hb0⟩ : ∃ b, (decide (8 < c.cs.length) || decide (allE c.cs ≠ 0)) = b := ⟨_, rfl⟩
         have HE0 := qH hb0
         have HLC : Hid (c.cs.length = v.nc) := R.out.cc.1
         rw [HLC.out] at hb0
         have p1 := (X.out.to V.out.bel).at (j := 2) rfl
         go_upto_region 34 with (fail)
         go_cut [4] from 191 to 200 (fun s4 wx => s4 = .bool b0 ∧ Below x4.heap.size x4 wx)
         case first =>
          by_cases h8 : 8 < v.nc
          ·have h2 : (8 : Int) < (v.nc : Int) := by omega
           obtain rfl : b0 = true := by rw [← hb0, decide_eq_true h8]; rfl
           clear hb0 h8
           go_wp2_with fail
           go_meet
           exact ⟨rfl, Below.refl _ _⟩
          ·have h2 : ¬ (8 : Int) < (v.nc : Int) := by omega
           rw [decide_eq_false h8, Bool.false_or] at hb0
           obtain ⟨ae, hae⟩ : ∃ x, allE c.cs = x := ⟨_, rfl⟩
           rw [hae] at hb0
           have HF : Hid ((ae != 0) = b0) := by (show _ = _); rw [← hb0]; by_cases h : ae = 0 <;> simp [h]
           have HAE := qH hae
           clear hb0 hae h8
           go_wp2_with fail
           refine (rAll v.ac v.nc v.kc c.cs x4 (R.out.cc.to V.out.bel) HNC.out).mono ?_
           rw [HAE.out]
           rintro e we ⟨rfl, hb⟩
           have HB := qH hb
           clear hb
           go_wp2_with fail
           go_meet
           exact ⟨by rw [HF.out], HB.out⟩
         case rest =>
         obtain ⟨rfl, hb⟩ := hcut
         replace V := qH (V.out.step hb)
         obtain ⟨xc, hxc⟩ : ∃ x, x = wc := ⟨_, rfl⟩
         subst hxc
         clear p1 hb0 hb
         go_wp2_with fail
         go_loopw [4, 12] (fun s4 s12 wr => ∃ (k : Nat) (b : Bool), k ≤ v.nc ∧ s12 = .int .i64 (k : Int) ∧ s4 = .bool b ∧ b = (b0 || anyN (wrC c) k) ∧ VSt w1 wr (.slice A4 n4 k4) l4) (fun _ s12 _ => v.nc - (intOf s12).toNat)
         case atStart => exact ⟨0, b0, Nat.zero_le _, rfl, rfl, by simp [anyN], V.out⟩
         case round =>
          clear V
          obtain ⟨k, b, hk, rfl, rfl, hbb, hv⟩ := hrel
          have V := qH hv
          have HK := qH hk
          have HB := qH hbb
          clear hk hbb hv
          have p1 := (X.out.to V.out.bel).at (j := 2) rfl
          by_cases hlt : k < v.nc
          ·as_aux_lemma =>
           obtain ⟨bb, o, hA, y0, y1, y2, y3, y4⟩ := R.out.cc.at_ hlt
           have HBB : Hid (bb < w1.heap.size) := cell_block y0
           have HA := qH hA
           have HLT := qH hlt
           have hltI : (k : Int) < (v.nc : Int) := by omega
           have hwk : IntKind.i64.wrap ((k : Int) + 1) = (k : Int) + 1 := by have := HNC.out; rw [IntKind.wrap_i64]; omega
           obtain ⟨fr, hfr⟩ : ∃ x, (chAt c.cs k).fr = x := ⟨_, rfl⟩
           obtain ⟨ds, hds⟩ : ∃ x, (chAt c.cs k).dst = x := ⟨_, rfl⟩
           rw [hfr] at y1
           rw [hds] at y2
           have HC1 := qH y1
           have HC2 := qH y2
           have HWR : Hid (wrC c k = (!hasP c fr || !hasP c ds)) := by (show _ = _); rw [← hfr, ← hds]; rfl
           clear hA y0 y1 y2 y3 y4 hlt hfr hds
           go_upto_region 38 with (fail)
           clear p1
           cases b
           ·obtain ⟨h1, hh1⟩ : ∃ x, hasP c fr = x := ⟨_, rfl⟩
            have HH1 := qH hh1
            clear hh1
            obtain ⟨wd, hwd⟩ : ∃ wd, wr.drew = wd := ⟨_, rfl⟩
            have V1 := V.out.drew
            rw [hwd] at V1
            replace V1 := qH V1
            refine wp_region_held_drew (S := (fun w' => Below w1.heap.size w1 w')) (by kernel_rfl) (V.out.drew.bel) (fun hHeld => ?_)
            rw [hwd] at hHeld ⊢
            have hR0 : Below wr.heap.size wr wd := by rw [← hwd]; exact (Below.refl _ wr).drew
            have hRs := hR0.size
            clear hwd
            refine tk 0 ?_
            simp only [pR]
            refine tk 1 ?_
            simp only [pR]
            refine tw 2 rfl (by intro w hSw; (try dsimp only at hSw); have t1 := (X.out.to hSw).at (j := 0) rfl; have t2 := (X.out.to hSw).at (j := 1) rfl; have t3 := (X.out.to hSw).at (j := 2) rfl; go_simp; (try with_reducible rfl)) ?_
            simp only [pR]
            refine tk 3 ?_
            simp only [pR]
            refine tw 4 rfl (by intro w hSw; (try dsimp only at hSw); have t1 := (X.out.to hSw).at (j := 2) rfl; rw [HA.out] at t1; go_simp; (try with_reducible rfl)) ?_
            simp only [pR]
            refine tk 5 ?_
            simp only [pR]
            refine tk 6 ?_
            simp only [pR]
            refine tk 7 ?_
            simp only [pR]
            refine tw 8 rfl (by intro w hSw; (try dsimp only at hSw); have t1 := (hSw.cell (p := ⟨bb, o + k * 5 + 1, none⟩) HBB.out).trans HC1.out; go_simp; (try with_reducible rfl)) ?_
            simp only [pR]
            refine rd1 9 (fun K hK => ?_)
            go_simp
            refine (rHasP v c fr wd (R.out.to hHeld) HNP.out).mono ?_
            rw [HH1.out]
            rintro e we ⟨rfl, hb⟩
            replace V1 := qH (V1.out.step hb)
            clear hb hHeld
            go_wp2_with fail
            refine hK.out _ _ (V1.out.bel) (fun hHeld => ?_)
            clear hK K
            cases h1
            ·have HF : Hid (true = (false || wrC c k)) := by (show _ = _); rw [HWR.out, HH1.out]; rfl
             refine tk 10 ?_
             simp only [pR]
             refine tk 11 ?_
             simp only [pR]
             refine tk 12 ?_
             simp only [pR]
             refine sk 13 ?_
             simp only [pR]
             refine sk 14 ?_
             simp only [pR]
             refine sk 15 ?_
             simp only [pR]
             refine sk 16 ?_
             simp only [pR]
             refine sk 17 ?_
             simp only [pR]
             refine sk 18 ?_
             simp only [pR]
             refine sk 19 ?_
             simp only [pR]
             refine sk 20 ?_
             simp only [pR]
             refine sk 21 ?_
             simp only [pR]
             refine tk 22 ?_
             simp only [pR]
             refine tk 23 ?_
             simp only [pR]
             refine wpAnyH_done (by kernel_rfl) ?_ _
             clear hHeld hR0 hRs
             go_wp2_with fail
             go_roundw
             case rel => exact ⟨k + 1, _, HLT.out, by go_num, rfl, any_step HB.out HF.out, V1.out⟩
             case measure => simp [intOf]; omega
            ·obtain ⟨h2, hh2⟩ : ∃ x, hasP c ds = x := ⟨_, rfl⟩
             have HH2 := qH hh2
             have HF : Hid ((!h2) = (false || wrC c k)) := by (show _ = _); rw [HWR.out, HH1.out, hh2]; rfl
             clear hh2
             refine tk 10 ?_
             simp only [pR]
             refine tk 11 ?_
             simp only [pR]
             refine tk 12 ?_
             simp only [pR]
             refine tw 13 rfl (by intro w hSw; (try dsimp only at hSw); have t1 := (X.out.to hSw).at (j := 0) rfl; have t2 := (X.out.to hSw).at (j := 1) rfl; have t3 := (X.out.to hSw).at (j := 2) rfl; go_simp; (try with_reducible rfl)) ?_
             simp only [pR]
             refine tk 14 ?_
             simp only [pR]
             refine tw 15 rfl (by intro w hSw; (try dsimp only at hSw); have t1 := (X.out.to hSw).at (j := 2) rfl; rw [HA.out] at t1; go_simp; (try with_reducible rfl)) ?_
             simp only [pR]
             refine tk 16 ?_
             simp only [pR]
             refine tk 17 ?_
             simp only [pR]
             refine tk 18 ?_
             simp only [pR]
             refine tw 19 rfl (by intro w hSw; (try dsimp only at hSw); have t1 := (hSw.cell (p := ⟨bb, o + k * 5 + 2, none⟩) HBB.out).trans HC2.out; go_simp; (try with_reducible rfl)) ?_
             simp only [pR]
             refine rd1 20 (fun K hK => ?_)
             go_simp
             refine (rHasP v c ds we (R.out.to hHeld) HNP.out).mono ?_
             rw [HH2.out]
             rintro e wf ⟨rfl, hb⟩
             replace V1 := qH (V1.out.step hb)
             clear hb hHeld
             go_wp2_with fail
             refine hK.out _ _ (V1.out.bel) (fun hHeld => ?_)
             clear hK K
             refine tk 21 ?_
             simp only [pR]
             refine tk 22 ?_
             simp only [pR]
             refine tk 23 ?_
             simp only [pR]
             refine wpAnyH_done (by kernel_rfl) ?_ _
             clear hHeld hR0 hRs
             go_wp2_with fail
             go_roundw
             case rel => exact ⟨k + 1, _, HLT.out, by go_num, rfl, any_step HB.out HF.out, V1.out⟩
             case measure => simp [intOf]; omega
           ·have HF : Hid (true = (true || wrC c k)) := rfl
            obtain ⟨wd, hwd⟩ : ∃ wd, wr.drew = wd := ⟨_, rfl⟩
            have V1 := V.out.drew
            rw [hwd] at V1
            replace V1 := qH V1
            refine wp_region_held_drew (S := (fun w' => Below w1.heap.size w1 w')) (by kernel_rfl) (V.out.drew.bel) (fun hHeld => ?_)
            rw [hwd] at hHeld ⊢
            have hR0 : Below wr.heap.size wr wd := by rw [← hwd]; exact (Below.refl _ wr).drew
            have hRs := hR0.size
            clear hwd
            refine tk 0 ?_
            simp only [pR]
            refine tk 1 ?_
            simp only [pR]
            refine sk 2 ?_
            simp only [pR]
            refine sk 3 ?_
            simp only [pR]
            refine sk 4 ?_
            simp only [pR]
            refine sk 5 ?_
            simp only [pR]
            refine sk 6 ?_
            simp only [pR]
            refine sk 7 ?_
            simp only [pR]
            refine sk 8 ?_
            simp only [pR]
            refine sk 9 ?_
            simp only [pR]
            refine sk 10 ?_
            simp only [pR]
            refine tk 11 ?_
            simp only [pR]
            refine tk 12 ?_
            simp only [pR]
            refine sk 13 ?_
            simp only [pR]
            refine sk 14 ?_
            simp only [pR]
            refine sk 15 ?_
            simp only [pR]
            refine sk 16 ?_
            simp only [pR]
            refine sk 17 ?_
            simp only [pR]
            refine sk 18 ?_
            simp only [pR]
            refine sk 19 ?_
            simp only [pR]
            refine sk 20 ?_
            simp only [pR]
            refine sk 21 ?_
            simp only [pR]
            refine tk 22 ?_
            simp only [pR]
            refine tk 23 ?_
            simp only [pR]
            refine wpAnyH_done (by kernel_rfl) ?_ _
            clear hHeld hR0 hRs
            go_wp2_with fail
            go_roundw
            case rel => exact ⟨k + 1, _, HLT.out, by go_num, rfl, any_step HB.out HF.out, V1.out⟩
            case measure => simp [intOf]; omega
          ·obtain rfl : k = v.nc := by have := HK.out; omega
           have HB1 : Hid (b = fltC c) := by (show _ = _); rw [HB.out, ← HE0.out, ← HLC.out]; rfl
           clear HB
           clear hlt
           go_upto_if 231 with (fail)
           go_cut [3] from 201 to 234 (fun s3 wx => VSt w1 wx s3 (l4 ++ more b 100))
           case first =>
            cases b
            ·go_wp2_with fail
             go_meet
             rw [more_no, List.append_nil]
             exact V.out
            ·have hal := (Below.refl wr.heap.size wr).alloc (Nat.le_refl _) (.cells #[.int .i64 100] 3)
             have O7 := qH (own_bv V.out.row hal)
             have N7 := qH (cells_newV wr 3 [.int .i64 100])
             have B8 := qH (V.out.bel.trans (hal.mono V.out.bel.size))
             clear hal
             go_wp2_with (at_builtin; refine wpList_pushV vtI rfl (.tmp 232) (.tmp 233) rfl rfl rfl O7.out (m := 1) (news := [.int .i64 100]) rfl (fun _ => ⟨_, rfl, N7.out⟩) (one_int _) B8.out.size (by have := HLL4.out; omega) ?_; intro v9 w9 hown9 hk9 hv9; obtain ⟨A9, c9, rfl⟩ := own_slV hown9; have B9 := qH (hk9.below B8.out B8.out.size (fun k hk => (O7.out.lt k hk).1)); have O9 := qH hown9; clear hown9 hk9 hv9)
             go_meet
             refine ⟨?_, B9.out⟩
             rw [more_yes, List.length_append, List.map_append]
             exact O9.out
           case rest =>
           rw [HB1.out] at hcut
           clear V HB1
           obtain ⟨A5, k5, hs5⟩ := own_slV hcut.row
           subst hs5
           obtain ⟨l5, hl5⟩ : ∃ l, l4 ++ more (fltC c) 100 = l := ⟨_, rfl⟩
           rw [hl5] at hcut ⊢
           have HL5 := qH hl5
           have HLL5 : Hid (l5.length ≤ 5) := by (show _ ≤ _); rw [← hl5, List.length_append]; have := more_len (fltC c) 100; have := HLL4.out; omega
           obtain ⟨n5, hn5⟩ : ∃ n, n = l5.length := ⟨_, rfl⟩
           rw [← hn5]
           have V : Hid (VSt w1 wc (.slice A5 n5 k5) l5) := by (show VSt _ _ _ _); rw [hn5]; exact hcut
           clear hcut hl5 hn5
           obtain ⟨x5, hx5⟩ : ∃ x, x = wc := ⟨_, rfl⟩
           subst hx5
           have HV : Hid (l5 = allV c) := by (show _ = _); rw [← HL5.out, ← HL4.out, ← HL3.out, ← HL2.out, ← HL1.out]; rfl
           go_wp2_with fail
           go_ret
           have hrow := V.out.row
           obtain ⟨hl, -, -⟩ := own_capV hrow
           rw [hl, HV.out] at hrow
           exact ⟨_, _, _, rfl, own_moV hrow B.out.size, B.out.trans (V.out.bel.mono B.out.size)⟩
end
end Go.Proofs.YtlmdidblgeeplaaGreatDoor