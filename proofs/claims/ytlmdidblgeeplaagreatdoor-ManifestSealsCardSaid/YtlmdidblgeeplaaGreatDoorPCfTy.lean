/- Several texts in one (a claim has 60 files at most): CfT. -/
import Derived.Test.YtlmdidblgeeplaaGreatDoorTz
import Derived.Test.YtlmdidblgeeplaaGreatDoorPCfSx
namespace Go.Proofs.YtlmdidblgeeplaaGreatDoor
set_option maxRecDepth 1000000
set_option maxHeartbeats 8000000
set_option linter.unusedVariables false
set_option linter.unusedSimpArgs false
section
open Go.RowKit
def sameCf (c c' : Cf) : Bool := decide (c = c')
theorem two_cfgs (w : World) (v v' : CV) : ∃ w2, ((w.alloc (.cells #[.slice v.aw v.nw v.kw, .slice v.ap v.np v.kp, .slice v.ac v.nc v.kc] 28)).alloc (.cells #[.slice v'.aw v'.nw v'.kw, .slice v'.ap v'.np v'.kp, .slice v'.ac v'.nc v'.kc] 28)) = w2 ∧
  Cfx w2 w.heap.size v ∧ Cfx w2 (w.heap.size + 1) v' ∧ Below w.heap.size w w2 := by
 refine ⟨_, rfl, (Cfx.new w v 28).to ((Below.refl _ _).alloc (Nat.le_refl _) _), ?_, ((Below.refl w.heap.size w).alloc (Nat.le_refl _) _).alloc (by simp) _⟩
 have h := Cfx.new (w.alloc (.cells #[.slice v.aw v.nw v.kw, .slice v.ap v.np v.kp, .slice v.ac v.nc v.kc] 28)) v' 28
 rw [show (w.alloc (.cells #[.slice v.aw v.nw v.kw, .slice v.ap v.np v.kp, .slice v.ac v.nc v.kc] 28)).heap.size = w.heap.size + 1 from by simp] at h
 exact h
theorem takeS {α : Type} {l l' : List α} {k : Nat} (h : k < l.length) (h' : k < l'.length) (ht : l.take k = l'.take k) (he : l[k] = l'[k]) : l.take (k + 1) = l'.take (k + 1) := by
 rw [List.take_succ_eq_append_getElem h, List.take_succ_eq_append_getElem h', ht, he]
theorem rSameCf (v v' : CV) (c c' : Cf) (w : World) (h : RdCf w w.heap.size v c) (h' : RdCf w w.heap.size v' c') (hw : v.nw ≤ 1000) (hp : v.np ≤ 1000) (hc : v.nc ≤ 1000) :
  Calls Tryz.prog 49 #[.agg #[.slice v.aw v.nw v.kw, .slice v.ap v.np v.kp, .slice v.ac v.nc v.kc], .agg #[.slice v'.aw v'.nw v'.kw, .slice v'.ap v'.np v'.kp, .slice v'.ac v'.nc v'.kc]] w fun x w' =>
   x = .returned (.bool (sameCf c c')) ∧ Below w.heap.size w w' := by
 obtain ⟨w2, hw2, hx, hy, hb⟩ := two_cfgs w v v'
 have r1 := h.to hb
 have r2 := h'.to hb
 obtain ⟨aw, nw, kw, ap, np, kp, ac, nc, kc⟩ := v
 obtain ⟨aw', nw', kw', ap', np', kp', ac', nc', kc'⟩ := v'
 obtain ⟨ws, ps, cs⟩ := c
 obtain ⟨ws', ps', cs'⟩ := c'
 dsimp only at hw2 hw hp hc ⊢
 have RW : Hid (RdG w2 w2.heap.size aw nw ws) := r1.ww
 have RP : Hid (RdP w2 w2.heap.size ap np ps) := r1.pp
 have RC : Hid (RdC w2 w2.heap.size ac nc cs) := r1.cc
 have RW' : Hid (RdG w2 w2.heap.size aw' nw' ws') := r2.ww
 have RP' : Hid (RdP w2 w2.heap.size ap' np' ps') := r2.pp
 have RC' : Hid (RdC w2 w2.heap.size ac' nc' cs') := r2.cc
 have X := qH hx
 have Y := qH hy
 have B := qH hb
 have HW2 := qH hw2
 have HNW := qH hw
 have HNP := qH hp
 have HNC := qH hc
 have HLW := qH RW.out.1
 have HLP := qH RP.out.1
 have HLC := qH RC.out.1
 have HLW' := qH RW'.out.1
 have HLP' := qH RP'.out.1
 have HLC' := qH RC'.out.1
 clear h h' hw hp hc hw2 hx hy hb r1 r2
 obtain ⟨x0, x1, x2, _⟩ := X.out
 obtain ⟨y0, y1, y2, _⟩ := Y.out
 go_enter Tryz.func49, Tryz.ntmps49
 go_upto_region 1 with (fail)
 rw [HW2.out]
 clear HW2
 dsimp only at x0 x1 x2 y0 y1 y2
 by_cases e1 : nw = nw'
 rotate_left 1
 ·have HF : Hid (false = sameCf ⟨ws, ps, cs⟩ ⟨ws', ps', cs'⟩) := by show _ = _; unfold sameCf; rw [decide_eq_false (fun e => e1 (by rw [← HLW.out, ← HLW'.out]; injection e with e _ _; rw [e]))]
  have hne : ((nw : Int) != (nw' : Int)) = true := by simp; omega
  clear e1
  go_wp2_with fail
  go_ret
  exact ⟨ret_bool HF.out, B.out⟩
 subst e1
 by_cases e2 : np = np'
 rotate_left 1
 ·have HF : Hid (false = sameCf ⟨ws, ps, cs⟩ ⟨ws', ps', cs'⟩) := by show _ = _; unfold sameCf; rw [decide_eq_false (fun e => e2 (by rw [← HLP.out, ← HLP'.out]; injection e with _ e _; rw [e]))]
  have hne : ((np : Int) != (np' : Int)) = true := by simp; omega
  clear e2
  go_wp2_with fail
  go_ret
  exact ⟨ret_bool HF.out, B.out⟩
 subst e2
 by_cases e3 : nc = nc'
 rotate_left 1
 ·have HF : Hid (false = sameCf ⟨ws, ps, cs⟩ ⟨ws', ps', cs'⟩) := by show _ = _; unfold sameCf; rw [decide_eq_false (fun e => e3 (by rw [← HLC.out, ← HLC'.out]; injection e with _ _ e; rw [e]))]
  have hne : ((nc : Int) != (nc' : Int)) = true := by simp; omega
  clear e3
  go_wp2_with fail
  go_ret
  exact ⟨ret_bool HF.out, B.out⟩
 subst e3
 go_wp2_with fail
 clear x0 x1 x2 y0 y1 y2
 go_loopw [5] (fun s wr => ∃ k : Nat, k ≤ nw ∧ s = .int .i64 (k : Int) ∧ Below w2.heap.size w2 wr ∧ ws.take k = ws'.take k) (fun s _ => nw - (intOf s).toNat)
 case atStart => exact ⟨0, Nat.zero_le _, rfl, Below.refl _ _, by simp⟩
 case round =>
  obtain ⟨k, hk, rfl, hb, ht⟩ := hrel
  have HT := qH ht
  have BK := qH hb
  obtain ⟨x0, x1, x2, _⟩ := X.out.to hb
  obtain ⟨y0, y1, y2, _⟩ := Y.out.to hb
  dsimp only at x0 x1 x2 y0 y1 y2
  have H1 := (RW.out.below hb).more hb.size
  have H2 := (RW'.out.below hb).more hb.size
  clear ht hb
  by_cases hlt : k < nw
  ·have hltI : (k : Int) < (nw : Int) := by omega
   have HLT : Hid (k < nw) := hlt
   have hwk : IntKind.i64.wrap ((k : Int) + 1) = (k : Int) + 1 := by have := HNW.out; rw [IntKind.wrap_i64]; omega
   obtain ⟨b1, o1, rfl, _, hr1⟩ := H1.2 (by omega)
   obtain ⟨p0, p1⟩ := hr1 k hlt
   obtain ⟨b2, o2, rfl, _, hr2⟩ := H2.2 (by omega)
   obtain ⟨q0, q1⟩ := hr2 k hlt
   clear hr1 hr2
   clear hk H1 H2
   have hgd := cfWin_guard
   have heq := cfWin_eq
   go_wp2_with fail
   obtain ⟨wd, hwd⟩ : ∃ wd, wr.drew = wd := ⟨_, rfl⟩
   have BD : Hid (Below w2.heap.size w2 wd) := by rw [← hwd]; exact BK.out.drew
   have SK : Hid (∀ w', Below wr.heap.size wr w' → (w'.cell? ⟨w.heap.size, 0, none⟩ = some (.slice (some ⟨b1, o1, none⟩) nw kw) ∧ w'.cell? ⟨w.heap.size + 1, 0, none⟩ = some (.slice (some ⟨b2, o2, none⟩) nw kw')) ∧ (w'.cell? ⟨b1, o1 + k * 2, none⟩ = some (.int .i64 (rat ws k).1) ∧ w'.cell? ⟨b1, o1 + k * 2 + 1, none⟩ = some (.int .i64 (rat ws k).2)) ∧ w'.cell? ⟨b2, o2 + k * 2, none⟩ = some (.int .i64 (rat ws' k).1) ∧ w'.cell? ⟨b2, o2 + k * 2 + 1, none⟩ = some (.int .i64 (rat ws' k).2)) := fun W hW => ⟨⟨(hW.cell (p := ⟨_, _, none⟩) (cell_block x0)).trans x0, (hW.cell (p := ⟨_, _, none⟩) (cell_block y0)).trans y0⟩, ⟨(hW.cell (p := ⟨_, _, none⟩) (cell_block p0)).trans p0, (hW.cell (p := ⟨_, _, none⟩) (cell_block p1)).trans p1⟩, (hW.cell (p := ⟨_, _, none⟩) (cell_block q0)).trans q0, (hW.cell (p := ⟨_, _, none⟩) (cell_block q1)).trans q1⟩
   refine wp_region_held_drew (S := (fun w' => (w'.cell? ⟨w.heap.size, 0, none⟩ = some (.slice (some ⟨b1, o1, none⟩) nw kw) ∧ w'.cell? ⟨w.heap.size + 1, 0, none⟩ = some (.slice (some ⟨b2, o2, none⟩) nw kw')) ∧ (w'.cell? ⟨b1, o1 + k * 2, none⟩ = some (.int .i64 (rat ws k).1) ∧ w'.cell? ⟨b1, o1 + k * 2 + 1, none⟩ = some (.int .i64 (rat ws k).2)) ∧ w'.cell? ⟨b2, o2 + k * 2, none⟩ = some (.int .i64 (rat ws' k).1) ∧ w'.cell? ⟨b2, o2 + k * 2 + 1, none⟩ = some (.int .i64 (rat ws' k).2))) (by kernel_rfl) (SK.out _ ((Below.refl _ _).drew)) (fun hHeld => ?_)
   rw [hwd] at hHeld ⊢
   have HWD : Hid (Below wr.heap.size wr wd) := by rw [← hwd]; exact (Below.refl _ _).drew
   clear hwd
   refine tk 0 ?_
   simp only [pR]
   refine tk 1 ?_
   simp only [pR]
   refine tk 2 ?_
   simp only [pR]
   refine tk 3 ?_
   simp only [pR]
   refine tk 4 ?_
   simp only [pR]
   refine tk 5 ?_
   simp only [pR]
   refine tk 6 ?_
   simp only [pR]
   refine tk 7 ?_
   simp only [pR]
   refine tk 8 ?_
   simp only [pR]
   refine tk 9 ?_
   simp only [pR]
   refine tk 10 ?_
   simp only [pR]
   refine wpAnyH_done (by kernel_rfl) ?_ _
   clear hHeld p0 p1 q0 q1 x0 x1 x2 y0 y1 y2 hgd heq
   have hkw : k < ws.length := by rw [HLW.out]; exact HLT.out
   have hkw' : k < ws'.length := by rw [HLW'.out]; exact HLT.out
   obtain ⟨z, hz⟩ : ∃ z, eqR ((rat ws k).1, (rat ws k).2) ((rat ws' k).1, (rat ws' k).2) = z := ⟨_, rfl⟩
   rw [hz]
   have HZ : Hid (eqR ws[k] ws'[k] = z) := by show _ = _; rw [← rat_lt hkw, ← rat_lt hkw']; exact hz
   clear hz
   cases z
   ·have HF : Hid (false = sameCf ⟨ws, ps, cs⟩ ⟨ws', ps', cs'⟩) := by
     show _ = _
     unfold sameCf
     rw [decide_eq_false (fun e => ?_)]
     injection e with ew ep ec
     have h1 := HZ.out
     subst ew
     rw [eqR_iff.2 rfl] at h1
     cases h1
    have BF := qH (B.out.trans (BD.out.mono B.out.size))
    clear HZ hkw hkw'
    go_wp2_with fail
    go_ret
    exact ⟨ret_bool HF.out, BF.out⟩
   ·have HT2 := qH (takeS hkw hkw' HT.out (eqR_iff.1 HZ.out))
    clear HZ hkw hkw'
    go_wp2_with fail
    go_roundw
    case rel => exact ⟨k + 1, HLT.out, by go_num, BD.out, HT2.out⟩
    case measure => have := HLT.out; simp [intOf]; omega
  ·obtain rfl : k = nw := by omega
   have hltI : ¬ (k : Int) < (k : Int) := by omega
   have HEW : Hid (ws = ws') := by
    show _ = _
    have := HT.out
    rwa [List.take_of_length_le (by rw [HLW.out]; exact Nat.le_refl _), List.take_of_length_le (by rw [HLW'.out]; exact Nat.le_refl _)] at this
   have BQW := BK
   clear hk hlt H1 H2 BK HT
   go_wp2_with fail
   clear x0 x1 x2 y0 y1 y2
   go_loopw [6] (fun s wr => ∃ k : Nat, k ≤ np ∧ s = .int .i64 (k : Int) ∧ Below w2.heap.size w2 wr ∧ ps.take k = ps'.take k) (fun s _ => np - (intOf s).toNat)
   case atStart => exact ⟨0, Nat.zero_le _, rfl, BQW.out, by simp⟩
   case round =>
    obtain ⟨k, hk, rfl, hb, ht⟩ := hrel
    have HT := qH ht
    have BK := qH hb
    obtain ⟨x0, x1, x2, _⟩ := X.out.to hb
    obtain ⟨y0, y1, y2, _⟩ := Y.out.to hb
    dsimp only at x0 x1 x2 y0 y1 y2
    have H1 := (RP.out.below hb).more hb.size
    have H2 := (RP'.out.below hb).more hb.size
    clear ht hb
    by_cases hlt : k < np
    ·have hltI : (k : Int) < (np : Int) := by omega
     have HLT : Hid (k < np) := hlt
     have hwk : IntKind.i64.wrap ((k : Int) + 1) = (k : Int) + 1 := by have := HNP.out; rw [IntKind.wrap_i64]; omega
     obtain ⟨b1, o1, A1, m1, c1, rfl, p0, p1, p2, p3, p4, hr1, _, _⟩ := H1.at_ hlt
     obtain ⟨b2, o2, A2, m2, c2, rfl, q0, q1, q2, q3, q4, hr2, _, _⟩ := H2.at_ hlt
     have HR1 := qH hr1
     have HR2 := qH hr2
     clear hr1 hr2
     clear hk H1 H2
     go_wp2_with fail
     obtain ⟨wd, hwd⟩ : ∃ wd, wr.drew = wd := ⟨_, rfl⟩
     have BD : Hid (Below w2.heap.size w2 wd) := by rw [← hwd]; exact BK.out.drew
     have SK : Hid (∀ w', Below wr.heap.size wr w' → (w'.cell? ⟨w.heap.size, 1, none⟩ = some (.slice (some ⟨b1, o1, none⟩) np kp) ∧ w'.cell? ⟨w.heap.size + 1, 1, none⟩ = some (.slice (some ⟨b2, o2, none⟩) np kp')) ∧ (w'.cell? ⟨b1, o1 + k * 5, none⟩ = some (.int .i64 (ptAt ps k).id) ∧ w'.cell? ⟨b1, o1 + k * 5 + 1, none⟩ = some (.int .i64 (ptAt ps k).base) ∧ w'.cell? ⟨b1, o1 + k * 5 + 2, none⟩ = some (.int .i64 (ptAt ps k).size) ∧ w'.cell? ⟨b1, o1 + k * 5 + 3, none⟩ = some (.bool (ptAt ps k).keep) ∧ w'.cell? ⟨b1, o1 + k * 5 + 4, none⟩ = some (.slice A1 m1 c1)) ∧ w'.cell? ⟨b2, o2 + k * 5, none⟩ = some (.int .i64 (ptAt ps' k).id) ∧ w'.cell? ⟨b2, o2 + k * 5 + 1, none⟩ = some (.int .i64 (ptAt ps' k).base) ∧ w'.cell? ⟨b2, o2 + k * 5 + 2, none⟩ = some (.int .i64 (ptAt ps' k).size) ∧ w'.cell? ⟨b2, o2 + k * 5 + 3, none⟩ = some (.bool (ptAt ps' k).keep) ∧ w'.cell? ⟨b2, o2 + k * 5 + 4, none⟩ = some (.slice A2 m2 c2)) := fun W hW => ⟨⟨(hW.cell (p := ⟨_, _, none⟩) (cell_block x1)).trans x1, (hW.cell (p := ⟨_, _, none⟩) (cell_block y1)).trans y1⟩, ⟨(hW.cell (p := ⟨_, _, none⟩) (cell_block p0)).trans p0, (hW.cell (p := ⟨_, _, none⟩) (cell_block p1)).trans p1, (hW.cell (p := ⟨_, _, none⟩) (cell_block p2)).trans p2, (hW.cell (p := ⟨_, _, none⟩) (cell_block p3)).trans p3, (hW.cell (p := ⟨_, _, none⟩) (cell_block p4)).trans p4⟩, (hW.cell (p := ⟨_, _, none⟩) (cell_block q0)).trans q0, (hW.cell (p := ⟨_, _, none⟩) (cell_block q1)).trans q1, (hW.cell (p := ⟨_, _, none⟩) (cell_block q2)).trans q2, (hW.cell (p := ⟨_, _, none⟩) (cell_block q3)).trans q3, (hW.cell (p := ⟨_, _, none⟩) (cell_block q4)).trans q4⟩
     have RI : Hid (Rd wd wd.heap.size A1 m1 (ptAt ps k).img) := by rw [← hwd]; exact HR1.out.drew'
     have RI' : Hid (Rd wd wd.heap.size A2 m2 (ptAt ps' k).img) := by rw [← hwd]; exact HR2.out.drew'
     refine wp_region_held_drew (S := (fun w' => (w'.cell? ⟨w.heap.size, 1, none⟩ = some (.slice (some ⟨b1, o1, none⟩) np kp) ∧ w'.cell? ⟨w.heap.size + 1, 1, none⟩ = some (.slice (some ⟨b2, o2, none⟩) np kp')) ∧ (w'.cell? ⟨b1, o1 + k * 5, none⟩ = some (.int .i64 (ptAt ps k).id) ∧ w'.cell? ⟨b1, o1 + k * 5 + 1, none⟩ = some (.int .i64 (ptAt ps k).base) ∧ w'.cell? ⟨b1, o1 + k * 5 + 2, none⟩ = some (.int .i64 (ptAt ps k).size) ∧ w'.cell? ⟨b1, o1 + k * 5 + 3, none⟩ = some (.bool (ptAt ps k).keep) ∧ w'.cell? ⟨b1, o1 + k * 5 + 4, none⟩ = some (.slice A1 m1 c1)) ∧ w'.cell? ⟨b2, o2 + k * 5, none⟩ = some (.int .i64 (ptAt ps' k).id) ∧ w'.cell? ⟨b2, o2 + k * 5 + 1, none⟩ = some (.int .i64 (ptAt ps' k).base) ∧ w'.cell? ⟨b2, o2 + k * 5 + 2, none⟩ = some (.int .i64 (ptAt ps' k).size) ∧ w'.cell? ⟨b2, o2 + k * 5 + 3, none⟩ = some (.bool (ptAt ps' k).keep) ∧ w'.cell? ⟨b2, o2 + k * 5 + 4, none⟩ = some (.slice A2 m2 c2))) (by kernel_rfl) (SK.out _ ((Below.refl _ _).drew)) (fun hHeld => ?_)
     rw [hwd] at hHeld ⊢
     have HWD : Hid (Below wr.heap.size wr wd) := by rw [← hwd]; exact (Below.refl _ _).drew
     clear hwd
     refine tk 0 ?_
     simp only [pR]
     refine tk 1 ?_
     simp only [pR]
     refine tk 2 ?_
     simp only [pR]
     refine tk 3 ?_
     simp only [pR]
     refine tk 4 ?_
     simp only [pR]
     refine tk 5 ?_
     simp only [pR]
     refine tk 6 ?_
     simp only [pR]
     refine tk 7 ?_
     simp only [pR]
     refine tk 8 ?_
     simp only [pR]
     refine tk 9 ?_
     simp only [pR]
     refine rd1 10 (fun K hK => ?_)
     go_simp
     refine (rSamePt _ _ _ _ _ _ _ _ A1 A2 m1 c1 m2 c2 (ptAt ps k).img (ptAt ps' k).img wd RI.out RI'.out).mono ?_
     rintro x1' w9 ⟨rfl, hb⟩
     replace HWD := qH (HWD.out.trans (hb.mono HWD.out.size))
     replace BD := qH (BD.out.trans (hb.mono BD.out.size))
     clear hb
     go_wp2_with fail
     refine hK.out _ _ (SK.out _ HWD.out) (fun hHeld => ?_)
     clear hK K
     refine tk 11 ?_
     simp only [pR]
     refine wpAnyH_done (by kernel_rfl) ?_ _
     clear hHeld p0 p1 p2 p3 p4 q0 q1 q2 q3 q4 x0 x1 x2 y0 y1 y2
     have hkw : k < ps.length := by rw [HLP.out]; exact HLT.out
     have hkw' : k < ps'.length := by rw [HLP'.out]; exact HLT.out
     obtain ⟨z, hz⟩ : ∃ z, samePt ⟨(ptAt ps k).id, (ptAt ps k).base, (ptAt ps k).size, (ptAt ps k).keep, (ptAt ps k).img⟩ ⟨(ptAt ps' k).id, (ptAt ps' k).base, (ptAt ps' k).size, (ptAt ps' k).keep, (ptAt ps' k).img⟩ = z := ⟨_, rfl⟩
     rw [hz]
     have HZ : Hid (samePt ps[k] ps'[k] = z) := by show _ = _; rw [← ptAt_lt hkw, ← ptAt_lt hkw']; exact hz
     clear hz
     cases z
     ·have HF : Hid (false = sameCf ⟨ws, ps, cs⟩ ⟨ws', ps', cs'⟩) := by
       show _ = _
       unfold sameCf
       rw [decide_eq_false (fun e => ?_)]
       injection e with ew ep ec
       have h1 := HZ.out
       subst ep
       rw [samePt_iff.2 rfl] at h1
       cases h1
      have BF := qH (B.out.trans (BD.out.mono B.out.size))
      clear HZ hkw hkw'
      go_wp2_with fail
      go_ret
      exact ⟨ret_bool HF.out, BF.out⟩
     ·have HT2 := qH (takeS hkw hkw' HT.out (samePt_iff.1 HZ.out))
      clear HZ hkw hkw'
      go_wp2_with fail
      go_roundw
      case rel => exact ⟨k + 1, HLT.out, by go_num, BD.out, HT2.out⟩
      case measure => have := HLT.out; simp [intOf]; omega
    ·obtain rfl : k = np := by omega
     have hltI : ¬ (k : Int) < (k : Int) := by omega
     have HEP : Hid (ps = ps') := by
      show _ = _
      have := HT.out
      rwa [List.take_of_length_le (by rw [HLP.out]; exact Nat.le_refl _), List.take_of_length_le (by rw [HLP'.out]; exact Nat.le_refl _)] at this
     have BQP := BK
     clear hk hlt H1 H2 BK HT
     go_wp2_with fail
     clear x0 x1 x2 y0 y1 y2
     go_loopw [7] (fun s wr => ∃ k : Nat, k ≤ nc ∧ s = .int .i64 (k : Int) ∧ Below w2.heap.size w2 wr ∧ cs.take k = cs'.take k) (fun s _ => nc - (intOf s).toNat)
     case atStart => exact ⟨0, Nat.zero_le _, rfl, BQP.out, by simp⟩
     case round =>
      obtain ⟨k, hk, rfl, hb, ht⟩ := hrel
      have HT := qH ht
      have BK := qH hb
      obtain ⟨x0, x1, x2, _⟩ := X.out.to hb
      obtain ⟨y0, y1, y2, _⟩ := Y.out.to hb
      dsimp only at x0 x1 x2 y0 y1 y2
      have H1 := (RC.out.below hb).more' hb.size
      have H2 := (RC'.out.below hb).more' hb.size
      clear ht hb
      by_cases hlt : k < nc
      ·have hltI : (k : Int) < (nc : Int) := by omega
       have HLT : Hid (k < nc) := hlt
       have hwk : IntKind.i64.wrap ((k : Int) + 1) = (k : Int) + 1 := by have := HNC.out; rw [IntKind.wrap_i64]; omega
       obtain ⟨b1, o1, rfl, p0, p1, p2, p3, p4⟩ := H1.at_ hlt
       obtain ⟨b2, o2, rfl, q0, q1, q2, q3, q4⟩ := H2.at_ hlt
       clear hk H1 H2
       have hgd := cfCh_guard
       have heq := cfCh_eq
       go_wp2_with fail
       obtain ⟨wd, hwd⟩ : ∃ wd, wr.drew = wd := ⟨_, rfl⟩
       have BD : Hid (Below w2.heap.size w2 wd) := by rw [← hwd]; exact BK.out.drew
       have SK : Hid (∀ w', Below wr.heap.size wr w' → (w'.cell? ⟨w.heap.size, 2, none⟩ = some (.slice (some ⟨b1, o1, none⟩) nc kc) ∧ w'.cell? ⟨w.heap.size + 1, 2, none⟩ = some (.slice (some ⟨b2, o2, none⟩) nc kc')) ∧ (w'.cell? ⟨b1, o1 + k * 5, none⟩ = some (.int .i64 (chAt cs k).id) ∧ w'.cell? ⟨b1, o1 + k * 5 + 1, none⟩ = some (.int .i64 (chAt cs k).fr) ∧ w'.cell? ⟨b1, o1 + k * 5 + 2, none⟩ = some (.int .i64 (chAt cs k).dst) ∧ w'.cell? ⟨b1, o1 + k * 5 + 3, none⟩ = some (.int .i64 (chAt cs k).cap) ∧ w'.cell? ⟨b1, o1 + k * 5 + 4, none⟩ = some (.int .i64 (chAt cs k).size)) ∧ w'.cell? ⟨b2, o2 + k * 5, none⟩ = some (.int .i64 (chAt cs' k).id) ∧ w'.cell? ⟨b2, o2 + k * 5 + 1, none⟩ = some (.int .i64 (chAt cs' k).fr) ∧ w'.cell? ⟨b2, o2 + k * 5 + 2, none⟩ = some (.int .i64 (chAt cs' k).dst) ∧ w'.cell? ⟨b2, o2 + k * 5 + 3, none⟩ = some (.int .i64 (chAt cs' k).cap) ∧ w'.cell? ⟨b2, o2 + k * 5 + 4, none⟩ = some (.int .i64 (chAt cs' k).size)) := fun W hW => ⟨⟨(hW.cell (p := ⟨_, _, none⟩) (cell_block x2)).trans x2, (hW.cell (p := ⟨_, _, none⟩) (cell_block y2)).trans y2⟩, ⟨(hW.cell (p := ⟨_, _, none⟩) (cell_block p0)).trans p0, (hW.cell (p := ⟨_, _, none⟩) (cell_block p1)).trans p1, (hW.cell (p := ⟨_, _, none⟩) (cell_block p2)).trans p2, (hW.cell (p := ⟨_, _, none⟩) (cell_block p3)).trans p3, (hW.cell (p := ⟨_, _, none⟩) (cell_block p4)).trans p4⟩, (hW.cell (p := ⟨_, _, none⟩) (cell_block q0)).trans q0, (hW.cell (p := ⟨_, _, none⟩) (cell_block q1)).trans q1, (hW.cell (p := ⟨_, _, none⟩) (cell_block q2)).trans q2, (hW.cell (p := ⟨_, _, none⟩) (cell_block q3)).trans q3, (hW.cell (p := ⟨_, _, none⟩) (cell_block q4)).trans q4⟩
       refine wp_region_held_drew (S := (fun w' => (w'.cell? ⟨w.heap.size, 2, none⟩ = some (.slice (some ⟨b1, o1, none⟩) nc kc) ∧ w'.cell? ⟨w.heap.size + 1, 2, none⟩ = some (.slice (some ⟨b2, o2, none⟩) nc kc')) ∧ (w'.cell? ⟨b1, o1 + k * 5, none⟩ = some (.int .i64 (chAt cs k).id) ∧ w'.cell? ⟨b1, o1 + k * 5 + 1, none⟩ = some (.int .i64 (chAt cs k).fr) ∧ w'.cell? ⟨b1, o1 + k * 5 + 2, none⟩ = some (.int .i64 (chAt cs k).dst) ∧ w'.cell? ⟨b1, o1 + k * 5 + 3, none⟩ = some (.int .i64 (chAt cs k).cap) ∧ w'.cell? ⟨b1, o1 + k * 5 + 4, none⟩ = some (.int .i64 (chAt cs k).size)) ∧ w'.cell? ⟨b2, o2 + k * 5, none⟩ = some (.int .i64 (chAt cs' k).id) ∧ w'.cell? ⟨b2, o2 + k * 5 + 1, none⟩ = some (.int .i64 (chAt cs' k).fr) ∧ w'.cell? ⟨b2, o2 + k * 5 + 2, none⟩ = some (.int .i64 (chAt cs' k).dst) ∧ w'.cell? ⟨b2, o2 + k * 5 + 3, none⟩ = some (.int .i64 (chAt cs' k).cap) ∧ w'.cell? ⟨b2, o2 + k * 5 + 4, none⟩ = some (.int .i64 (chAt cs' k).size))) (by kernel_rfl) (SK.out _ ((Below.refl _ _).drew)) (fun hHeld => ?_)
       rw [hwd] at hHeld ⊢
       have HWD : Hid (Below wr.heap.size wr wd) := by rw [← hwd]; exact (Below.refl _ _).drew
       clear hwd
       refine tk 0 ?_
       simp only [pR]
       refine tk 1 ?_
       simp only [pR]
       refine tk 2 ?_
       simp only [pR]
       refine tk 3 ?_
       simp only [pR]
       refine tk 4 ?_
       simp only [pR]
       refine tk 5 ?_
       simp only [pR]
       refine tk 6 ?_
       simp only [pR]
       refine tk 7 ?_
       simp only [pR]
       refine tk 8 ?_
       simp only [pR]
       refine tk 9 ?_
       simp only [pR]
       refine tk 10 ?_
       simp only [pR]
       refine wpAnyH_done (by kernel_rfl) ?_ _
       clear hHeld p0 p1 p2 p3 p4 q0 q1 q2 q3 q4 x0 x1 x2 y0 y1 y2 hgd heq
       have hkw : k < cs.length := by rw [HLC.out]; exact HLT.out
       have hkw' : k < cs'.length := by rw [HLC'.out]; exact HLT.out
       obtain ⟨z, hz⟩ : ∃ z, eqCh ⟨(chAt cs k).id, (chAt cs k).fr, (chAt cs k).dst, (chAt cs k).cap, (chAt cs k).size⟩ ⟨(chAt cs' k).id, (chAt cs' k).fr, (chAt cs' k).dst, (chAt cs' k).cap, (chAt cs' k).size⟩ = z := ⟨_, rfl⟩
       rw [hz]
       have HZ : Hid (eqCh cs[k] cs'[k] = z) := by show _ = _; rw [← chAt_lt hkw, ← chAt_lt hkw']; exact hz
       clear hz
       cases z
       ·have HF : Hid (false = sameCf ⟨ws, ps, cs⟩ ⟨ws', ps', cs'⟩) := by
         show _ = _
         unfold sameCf
         rw [decide_eq_false (fun e => ?_)]
         injection e with ew ep ec
         have h1 := HZ.out
         subst ec
         rw [eqCh_iff.2 rfl] at h1
         cases h1
        have BF := qH (B.out.trans (BD.out.mono B.out.size))
        clear HZ hkw hkw'
        go_wp2_with fail
        go_ret
        exact ⟨ret_bool HF.out, BF.out⟩
       ·have HT2 := qH (takeS hkw hkw' HT.out (eqCh_iff.1 HZ.out))
        clear HZ hkw hkw'
        go_wp2_with fail
        go_roundw
        case rel => exact ⟨k + 1, HLT.out, by go_num, BD.out, HT2.out⟩
        case measure => have := HLT.out; simp [intOf]; omega
      ·obtain rfl : k = nc := by omega
       have hltI : ¬ (k : Int) < (k : Int) := by omega
       have HEC : Hid (cs = cs') := by
        show _ = _
        have := HT.out
        rwa [List.take_of_length_le (by rw [HLC.out]; exact Nat.le_refl _), List.take_of_length_le (by rw [HLC'.out]; exact Nat.le_refl _)] at this
       have BQC := BK
       clear hk hlt H1 H2 BK HT
       go_wp2_with fail
       clear x0 x1 x2 y0 y1 y2
       go_ret
       have HF : Hid (true = sameCf ⟨ws, ps, cs⟩ ⟨ws', ps', cs'⟩) := by show _ = _; unfold sameCf; rw [HEW.out, HEP.out, HEC.out]; simp
       exact ⟨ret_bool HF.out, B.out.trans (BQC.out.mono B.out.size)⟩
end
end Go.Proofs.YtlmdidblgeeplaaGreatDoor