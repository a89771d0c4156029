/- Several texts in one (a claim has 60 files at most): CpR. -/
import Derived.Test.YtlmdidblgeeplaaGreatDoorTz
import Derived.Test.YtlmdidblgeeplaaGreatDoorPCfWrx
import Derived.Test.YtlmdidblgeeplaaGreatDoorPCfSx
import Derived.Test.YtlmdidblgeeplaaGreatDoorPCfLcx
import Derived.Deep.RegionHeld
import Derived.Deep.DeepCutAuto
namespace Go.Proofs.YtlmdidblgeeplaaGreatDoor
set_option maxRecDepth 1000000
set_option maxHeartbeats 8000000
set_option linter.unusedVariables false
set_option linter.unusedSimpArgs false
section
open Go.RowKit
theorem findP_range (l : List Pt) (id : Int) : findP l id = -1 ∨ ∃ k : Nat, k < l.length ∧ findP l id = (k : Int) := by
 unfold findP
 cases h : l.findIdx? (fun p => p.id == id) with
 | none => exact .inl rfl
 | some k => exact .inr ⟨k, (List.findIdx?_eq_some_iff_getElem.1 h).1, rfl⟩
def Bd (v : CV) : Prop := v.nw ≤ 1000 ∧ v.np ≤ 1000 ∧ v.nc ≤ 1000
theorem cf_cells {w : World} {g : Nat} {v : CV} (h : Bx w g 28 (cfL v)) : w.cell? ⟨g, 0, none⟩ = some (.slice v.aw v.nw v.kw) ∧ w.cell? ⟨g, 1, none⟩ = some (.slice v.ap v.np v.kp) ∧ w.cell? ⟨g, 2, none⟩ = some (.slice v.ac v.nc v.kc) :=
 ⟨h.at (j := 0) rfl, h.at (j := 1) rfl, h.at (j := 2) rfl⟩
theorem four_boxes {v v' : CV} {a b : Cf} (w : World) (ha : RdCf w w.heap.size v a) (hb : RdCf w w.heap.size v' b) (T : TypeId) (cs ds : List Value) : ∃ w2 w4,
  (w.alloc (.cells #[.slice v.aw v.nw v.kw, .slice v.ap v.np v.kp, .slice v.ac v.nc v.kc] 28)).alloc (.cells #[.slice v'.aw v'.nw v'.kw, .slice v'.ap v'.np v'.kp, .slice v'.ac v'.nc v'.kc] 28) = w2 ∧ (w2.alloc (.cells cs.toArray T)).alloc (.cells ds.toArray T) = w4 ∧
  w2.heap.size = w.heap.size + 1 + 1 ∧ w4.heap.size = w.heap.size + 1 + 1 + 1 + 1 ∧ Below w.heap.size w w2 ∧ Below w2.heap.size w2 w4 ∧ Bx w2 w.heap.size 28 (cfL v) ∧ Bx w2 (w.heap.size + 1) 28 (cfL v') ∧ RdCf w2 w2.heap.size v a ∧ RdCf w2 w2.heap.size v' b ∧ Bx w4 (w.heap.size + 1 + 1) T cs ∧ Bx w4 (w.heap.size + 1 + 1 + 1) T ds := by
 obtain ⟨w2, hw2, hb2, hx, hy, hr, hs⟩ := two_boxC w ha hb
 have s2 : w2.heap.size = w.heap.size + 1 + 1 := by rw [← hw2]; simp
 refine ⟨w2, _, hw2, rfl, s2, by simp [s2], hb2, ((Below.refl _ _).alloc (Nat.le_refl _) _).alloc (by simp) _, hx, hy, hr, hs, ?_, ?_⟩
 ·have h := Bx.new w2 T cs
  rw [s2] at h
  exact h.to ((Below.refl _ _).alloc (Nat.le_refl _) _)
 ·have h := Bx.new (w2.alloc (.cells cs.toArray T)) T ds
  rw [show (w2.alloc (.cells cs.toArray T)).heap.size = w.heap.size + 1 + 1 + 1 from by simp [s2]] at h
  exact h
theorem res_pp {fn : Func} {p q r : Tmp} (h : fn.results = #[.cell p 58, .cell q 58, .tmp r]) (tmps : Array Value) (w : World) (g g' : Nat) (a b c d e a' b' c' d' e' u : Value) (hp : tmps.getD p undef = .pointer (some ⟨g, 0, none⟩)) (hq : tmps.getD q undef = .pointer (some ⟨g', 0, none⟩)) (hr : tmps.getD r undef = u)
  (hx : Bx w g 58 [a, b, c, d, e]) (hy : Bx w g' 58 [a', b', c', d', e']) :
  (results fn tmps).run Tryz.prog w = .ok (.tuple #[.agg #[a, b, c, d, e], .agg #[a', b', c', d', e'], u]) w := by
 have hp' : tmps[p]?.getD undef = .pointer (some ⟨g, 0, none⟩) := by simpa using hp
 have hq' : tmps[q]?.getD undef = .pointer (some ⟨g', 0, none⟩) := by simpa using hq
 have hr' : tmps[r]?.getD undef = u := by simpa using hr
 have c0 := hx.at (j := 0) rfl
 have c1 := hx.at (j := 1) rfl
 have c2 := hx.at (j := 2) rfl
 have c3 := hx.at (j := 3) rfl
 have c4 := hx.at (j := 4) rfl
 have d0 := hy.at (j := 0) rfl
 have d1 := hy.at (j := 1) rfl
 have d2 := hy.at (j := 2) rfl
 have d3 := hy.at (j := 3) rfl
 have d4 := hy.at (j := 4) rfl
 simp [results, h, hp', hq', hr', asAddr]
 go_simp
 try rfl
theorem two_sets {w a : World} {B g g' : Nat} {T : TypeId} {cs0 ds0 : List Value} (hx : Bx w g T cs0) (hy : Bx w g' T ds0) (hn : g ≠ g') (hb : Below B a w) (hg : B ≤ g) (hg' : B ≤ g') (cs ds : List Value) (hc : cs.length = cs0.length) (hd : ds.length = ds0.length) :
  Bx (setsC (setsC w g 0 cs) g' 0 ds) g T cs ∧ Bx (setsC (setsC w g 0 cs) g' 0 ds) g' T ds ∧ Below B a (setsC (setsC w g 0 cs) g' 0 ds) := by
 have h1 := hx.sets cs hc
 have h2 := hy.kept (Keep.sets (R := (· = g)) rfl cs 0 (Keep.refl _ w)) (fun e => hn e.symm)
 exact ⟨h1.kept (Keep.sets (R := (· = g')) rfl ds 0 (Keep.refl _ _)) (fun e => hn e), h2.sets ds hd, below_sets hg' ds 0 (below_sets hg cs 0 hb)⟩
def Five (w : World) (b o : Nat) (v0 v1 v2 v3 v4 : Value) : Prop := w.cell? ⟨b, o, none⟩ = some v0 ∧ w.cell? ⟨b, o + 1, none⟩ = some v1 ∧ w.cell? ⟨b, o + 2, none⟩ = some v2 ∧ w.cell? ⟨b, o + 3, none⟩ = some v3 ∧ w.cell? ⟨b, o + 4, none⟩ = some v4
theorem Five.to {w w' : World} {b o : Nat} {v0 v1 v2 v3 v4 : Value} (h : Five w b o v0 v1 v2 v3 v4) (hb : Below w.heap.size w w') : Five w' b o v0 v1 v2 v3 v4 :=
 ⟨(hb.cell (p := ⟨b, _, none⟩) (cell_block h.1)).trans h.1, (hb.cell (p := ⟨b, _, none⟩) (cell_block h.2.1)).trans h.2.1, (hb.cell (p := ⟨b, _, none⟩) (cell_block h.2.2.1)).trans h.2.2.1, (hb.cell (p := ⟨b, _, none⟩) (cell_block h.2.2.2.1)).trans h.2.2.2.1, (hb.cell (p := ⟨b, _, none⟩) (cell_block h.2.2.2.2)).trans h.2.2.2.2⟩
def BothR (a b : Cf) (id : Int) (w : World) (x : Ending) (w' : World) : Prop :=
 ∃ (p q : Pt) (A A' : Option Addr) (m m' c c' : Nat), x = .returned (.tuple #[.agg #[.int .i64 p.id, .int .i64 p.base, .int .i64 p.size, .bool p.keep, .slice A m c], .agg #[.int .i64 q.id, .int .i64 q.base, .int .i64 q.size, .bool q.keep, .slice A' m' c'], .bool (keepB a b id)]) ∧
  (keepB a b id = true → p = ptI a id ∧ q = ptI b id) ∧ Below w.heap.size w w'
theorem rBoth (v v' : CV) (a b : Cf) (id : Int) (w : World) (ha : RdCf w w.heap.size v a) (hb : RdCf w w.heap.size v' b) (da : Bd v) (db : Bd v') :
  Calls Tryz.prog 131 #[.agg #[.slice v.aw v.nw v.kw, .slice v.ap v.np v.kp, .slice v.ac v.nc v.kc], .agg #[.slice v'.aw v'.nw v'.kw, .slice v'.ap v'.np v'.kp, .slice v'.ac v'.nc v'.kc], .int .i64 id] w (BothR a b id w) := by
 obtain ⟨w2, w4, hw2, hw4, s2, s4, hb2, hb4, hx, hy, hr, hs, hp, hq⟩ := four_boxes w ha hb 58 [.int .i64 0, .int .i64 0, .int .i64 0, .bool false, .slice none 0 0] [.int .i64 0, .int .i64 0, .int .i64 0, .bool false, .slice none 0 0]
 have RA := qH hr
 have RB := qH hs
 have XA := qH hx
 have XB := qH hy
 have BP := qH hp
 have BQ := qH hq
 have B := qH hb2
 have BD := qH hb4
 have S2 := qH s2
 have S4 := qH s4
 have HW := qH hw2
 have HW4 := qH hw4
 have DA := qH da
 have DB := qH db
 have LA : Hid (a.ps.length = v.np) := ha.pp.1
 have LB : Hid (b.ps.length = v'.np) := hb.pp.1
 clear ha hb da db hw2 hw4 s2 s4 hb2 hb4 hx hy hr hs hp hq
 go_enter Tryz.func131, Tryz.ntmps131
 go_upto_region 1 with (fail)
 rw [show (w.alloc (.cells #[.slice v.aw v.nw v.kw, .slice v.ap v.np v.kp, .slice v.ac v.nc v.kc] 28)).alloc (.cells #[.slice v'.aw v'.nw v'.kw, .slice v'.ap v'.np v'.kp, .slice v'.ac v'.nc v'.kc] 28) = w2 from HW.out]
 rw [show (w2.alloc (.cells #[.int .i64 0, .int .i64 0, .int .i64 0, .bool false, .slice none 0 0] 58)).alloc (.cells #[.int .i64 0, .int .i64 0, .int .i64 0, .bool false, .slice none 0 0] 58) = w4 from HW4.out]
 clear HW HW4
 obtain ⟨wd, hwd⟩ : ∃ x, w4.drew = x := ⟨_, rfl⟩
 have BS : Hid (Below w4.heap.size w4 wd) := by (show Below _ _ _); rw [← hwd]; exact (Below.refl _ _).drew
 refine wp_region_held_drew (S := (fun w' => Below w4.heap.size w4 w')) (by kernel_rfl) ((Below.refl _ _).drew) (fun hHeld => ?_)
 rw [hwd] at hHeld ⊢
 clear hwd hHeld
 refine tw 0 rfl (by intro w hSw; (try dsimp only at hSw); have t := cf_cells ((XA.out.to BD.out).to hSw); obtain ⟨t0, t1, t2⟩ := t; go_simp; (try with_reducible rfl)) ?_
 simp only [pR]
 refine tk 1 ?_
 simp only [pR]
 refine tw 3 rfl (by intro w hSw; (try dsimp only at hSw); have t := cf_cells ((XB.out.to BD.out).to hSw); obtain ⟨t0, t1, t2⟩ := t; go_simp; (try with_reducible rfl)) ?_
 simp only [pR]
 refine tk 4 ?_
 simp only [pR]
 refine rd1 2 (fun K hK => ?_)
 go_simp
 refine (rPartOf v a id wd ((RA.out.to BD.out).to BS.out) DA.out.2.1).mono ?_
 rintro e w5 ⟨rfl, hb⟩
 replace BS := qH (BS.out.trans (hb.mono BS.out.size))
 clear hb
 go_wp2_with fail
 refine hK.out _ _ (BS.out) (fun hHeld => ?_)
 clear hK K
 refine rd1 5 (fun K hK => ?_)
 go_simp
 refine (rPartOf v' b id w5 ((RB.out.to BD.out).to BS.out) DB.out.2.1).mono ?_
 rintro e w6 ⟨rfl, hb⟩
 replace BS := qH (BS.out.trans (hb.mono BS.out.size))
 clear hb
 go_wp2_with fail
 refine hK.out _ _ (BS.out) (fun hHeld => ?_)
 clear hK K
 refine tk 6 ?_
 simp only [pR]
 refine tk 7 ?_
 simp only [pR]
 refine wpAnyH_done (by kernel_rfl) ?_ _
 clear hHeld
 have HA := qH (show hasP a id = decide (0 ≤ findP a.ps id) from rfl)
 have HB := qH (show hasP b id = decide (0 ≤ findP b.ps id) from rfl)
 have PA := qH (show ptI a id = ptAt a.ps (findP a.ps id).toNat from rfl)
 have PB := qH (show ptI b id = ptAt b.ps (findP b.ps id).toNat from rfl)
 have RI := qH (findP_range a.ps id)
 have RJ := qH (findP_range b.ps id)
 generalize findP a.ps id = i at *
 generalize findP b.ps id = j at *
 rcases RI.out with hi | ⟨k, hk, hi⟩
 ·have KF : Hid (keepB a b id = false) := by (show _ = _); unfold keepB; rw [HA.out, hi]; rfl
  subst hi
  have P6 := qH (BP.out.to BS.out)
  have Q6 := qH (BQ.out.to BS.out)
  have z0 := P6.out.at (j := 0) rfl
  have z1 := P6.out.at (j := 1) rfl
  have z2 := P6.out.at (j := 2) rfl
  have z3 := P6.out.at (j := 3) rfl
  have z4 := P6.out.at (j := 4) rfl
  have f0 := P6.out.fz 0
  have f1 := P6.out.fz 1
  have f2 := P6.out.fz 2
  have f3 := P6.out.fz 3
  have f4 := P6.out.fz 4
  have y0 := Q6.out.at (j := 0) rfl
  have y1 := Q6.out.at (j := 1) rfl
  have y2 := Q6.out.at (j := 2) rfl
  have y3 := Q6.out.at (j := 3) rfl
  have y4 := Q6.out.at (j := 4) rfl
  have g0 := Q6.out.fz 0
  have g1 := Q6.out.fz 1
  have g2 := Q6.out.fz 2
  have g3 := Q6.out.fz 3
  have g4 := Q6.out.fz 4
  go_wp2_with fail
  change bodyPost _ _ _ _ _ (setsC (setsC w6 (w.heap.size + 1 + 1) 0 [.int .i64 0, .int .i64 0, .int .i64 0, .bool false, .slice none 0 0]) (w.heap.size + 1 + 1 + 1) 0 [.int .i64 0, .int .i64 0, .int .i64 0, .bool false, .slice none 0 0])
  obtain ⟨P9, Q9, B9⟩ := two_sets (B := w.heap.size) (a := w) P6.out Q6.out (by omega) (B.out.trans ((BD.out.trans (BS.out.mono BD.out.size)).mono B.out.size)) (by omega) (by omega) [.int .i64 0, .int .i64 0, .int .i64 0, .bool false, .slice none 0 0] [.int .i64 0, .int .i64 0, .int .i64 0, .bool false, .slice none 0 0] rfl rfl
  refine bodyPost_ret (res_pp rfl _ _ (w.heap.size + 1 + 1) (w.heap.size + 1 + 1 + 1) _ _ _ _ _ _ _ _ _ _ (.bool false) rfl rfl rfl P9 Q9) rfl ?_
  exact ⟨Pt.zero, Pt.zero, none, none, 0, 0, 0, 0, by rw [KF.out]; rfl, fun h => (by rw [KF.out] at h; cases h), B9⟩
 ·have hlt : k < v.np := by rw [← LA.out]; exact hk
  have HLT := qH hlt
  have hkI : (k : Int) < (v.np : Int) := by omega
  have hk0 : ¬ (k : Int) < 0 := by omega
  have XA6 := qH ((XA.out.to BD.out).to BS.out)
  have XB6 := qH ((XB.out.to BD.out).to BS.out)
  have RA6 := qH ((RA.out.to BD.out).to BS.out)
  have RB6 := qH ((RB.out.to BD.out).to BS.out)
  subst hi
  have KA : Hid (ptI a id = ptAt a.ps k) := by (show _ = _); rw [PA.out, Int.toNat_natCast]
  have KH : Hid (hasP a id = true) := by (show _ = _); rw [HA.out]; exact decide_eq_true (by omega)
  clear hk hlt
  rcases RJ.out with hj | ⟨q, hq, hj⟩
  ·have KF : Hid (keepB a b id = false) := by (show _ = _); unfold keepB; rw [HB.out, hj, KH.out]; rfl
   subst hj
   have P6 := qH (BP.out.to BS.out)
   have Q6 := qH (BQ.out.to BS.out)
   have z0 := P6.out.at (j := 0) rfl
   have z1 := P6.out.at (j := 1) rfl
   have z2 := P6.out.at (j := 2) rfl
   have z3 := P6.out.at (j := 3) rfl
   have z4 := P6.out.at (j := 4) rfl
   have f0 := P6.out.fz 0
   have f1 := P6.out.fz 1
   have f2 := P6.out.fz 2
   have f3 := P6.out.fz 3
   have f4 := P6.out.fz 4
   have y0 := Q6.out.at (j := 0) rfl
   have y1 := Q6.out.at (j := 1) rfl
   have y2 := Q6.out.at (j := 2) rfl
   have y3 := Q6.out.at (j := 3) rfl
   have y4 := Q6.out.at (j := 4) rfl
   have g0 := Q6.out.fz 0
   have g1 := Q6.out.fz 1
   have g2 := Q6.out.fz 2
   have g3 := Q6.out.fz 3
   have g4 := Q6.out.fz 4
   clear hkI
   go_wp2_with fail
   change bodyPost _ _ _ _ _ (setsC (setsC w6 (w.heap.size + 1 + 1) 0 [.int .i64 0, .int .i64 0, .int .i64 0, .bool false, .slice none 0 0]) (w.heap.size + 1 + 1 + 1) 0 [.int .i64 0, .int .i64 0, .int .i64 0, .bool false, .slice none 0 0])
   obtain ⟨P9, Q9, B9⟩ := two_sets (B := w.heap.size) (a := w) P6.out Q6.out (by omega) (B.out.trans ((BD.out.trans (BS.out.mono BD.out.size)).mono B.out.size)) (by omega) (by omega) [.int .i64 0, .int .i64 0, .int .i64 0, .bool false, .slice none 0 0] [.int .i64 0, .int .i64 0, .int .i64 0, .bool false, .slice none 0 0] rfl rfl
   refine bodyPost_ret (res_pp rfl _ _ (w.heap.size + 1 + 1) (w.heap.size + 1 + 1 + 1) _ _ _ _ _ _ _ _ _ _ (.bool false) rfl rfl rfl P9 Q9) rfl ?_
   exact ⟨Pt.zero, Pt.zero, none, none, 0, 0, 0, 0, by rw [KF.out]; rfl, fun h => (by rw [KF.out] at h; cases h), B9⟩
  ·have hlq : q < v'.np := by rw [← LB.out]; exact hq
   have HLQ := qH hlq
   have hqI : (q : Int) < (v'.np : Int) := by omega
   have hq0 : ¬ (q : Int) < 0 := by omega
   subst hj
   have KB : Hid (ptI b id = ptAt b.ps q) := by (show _ = _); rw [PB.out, Int.toNat_natCast]
   have KH2 : Hid (hasP b id = true) := by (show _ = _); rw [HB.out]; exact decide_eq_true (by omega)
   have KK : Hid (keepB a b id = ((ptAt a.ps k).keep && (ptAt b.ps q).keep)) := by (show _ = _); unfold keepB; rw [KH.out, KH2.out, KA.out, KB.out]; rfl
   clear hq hlq
   obtain ⟨b1, o1, A1, m1, c1, hA1, u0, u1, u2, u3, u4, -⟩ := RA.out.pp.at_ HLT.out
   obtain ⟨b2, o2, A2, m2, c2, hA2, t0, t1, t2, t3, t4, -⟩ := RB.out.pp.at_ HLQ.out
   have FU := qH (show Five w2 b1 (o1 + k * 5) _ _ _ _ _ from ⟨u0, u1, u2, u3, u4⟩)
   have FT := qH (show Five w2 b2 (o2 + q * 5) _ _ _ _ _ from ⟨t0, t1, t2, t3, t4⟩)
   clear u0 u1 u2 u3 u4 t0 t1 t2 t3 t4
   have BS6 := qH (BD.out.trans (BS.out.mono BD.out.size))
   have p1 := (cf_cells XA6.out).2.1
   have p2 := (cf_cells XB6.out).2.1
   rw [hA1] at p1
   rw [hA2] at p2
   generalize ptAt a.ps k = p at *
   generalize ptAt b.ps q = r at *
   have HA1 := qH hA1
   have HA2 := qH hA2
   clear hA1 hA2
   obtain ⟨ka, hka⟩ : ∃ x, p.keep = x := ⟨_, rfl⟩
   obtain ⟨kb, hkb⟩ : ∃ x, r.keep = x := ⟨_, rfl⟩
   have HKA := qH hka
   have HKB := qH hkb
   rw [hka] at FU
   rw [hkb] at FT
   rw [hka, hkb] at KK
   clear hka hkb
   obtain ⟨u0, u1, u2, u3, u4⟩ := FU.out.to BS6.out
   obtain ⟨t0, t1, t2, t3, t4⟩ := FT.out.to BS6.out
   cases ka
   ·have KF : Hid (keepB a b id = false) := KK.out
    have P6 := qH (BP.out.to BS.out)
    have Q6 := qH (BQ.out.to BS.out)
    have z0 := P6.out.at (j := 0) rfl
    have z1 := P6.out.at (j := 1) rfl
    have z2 := P6.out.at (j := 2) rfl
    have z3 := P6.out.at (j := 3) rfl
    have z4 := P6.out.at (j := 4) rfl
    have f0 := P6.out.fz 0
    have f1 := P6.out.fz 1
    have f2 := P6.out.fz 2
    have f3 := P6.out.fz 3
    have f4 := P6.out.fz 4
    have y0 := Q6.out.at (j := 0) rfl
    have y1 := Q6.out.at (j := 1) rfl
    have y2 := Q6.out.at (j := 2) rfl
    have y3 := Q6.out.at (j := 3) rfl
    have y4 := Q6.out.at (j := 4) rfl
    have g0 := Q6.out.fz 0
    have g1 := Q6.out.fz 1
    have g2 := Q6.out.fz 2
    have g3 := Q6.out.fz 3
    have g4 := Q6.out.fz 4
    go_wp2_with fail
    change bodyPost _ _ _ _ _ (setsC (setsC w6 (w.heap.size + 1 + 1) 0 [.int .i64 0, .int .i64 0, .int .i64 0, .bool false, .slice none 0 0]) (w.heap.size + 1 + 1 + 1) 0 [.int .i64 0, .int .i64 0, .int .i64 0, .bool false, .slice none 0 0])
    obtain ⟨P9, Q9, B9⟩ := two_sets (B := w.heap.size) (a := w) P6.out Q6.out (by omega) (B.out.trans ((BD.out.trans (BS.out.mono BD.out.size)).mono B.out.size)) (by omega) (by omega) [.int .i64 0, .int .i64 0, .int .i64 0, .bool false, .slice none 0 0] [.int .i64 0, .int .i64 0, .int .i64 0, .bool false, .slice none 0 0] rfl rfl
    refine bodyPost_ret (res_pp rfl _ _ (w.heap.size + 1 + 1) (w.heap.size + 1 + 1 + 1) _ _ _ _ _ _ _ _ _ _ (.bool false) rfl rfl rfl P9 Q9) rfl ?_
    exact ⟨Pt.zero, Pt.zero, none, none, 0, 0, 0, 0, by rw [KF.out]; rfl, fun h => (by rw [KF.out] at h; cases h), B9⟩
   cases kb
   ·have KF : Hid (keepB a b id = false) := KK.out
    have P6 := qH (BP.out.to BS.out)
    have Q6 := qH (BQ.out.to BS.out)
    have z0 := P6.out.at (j := 0) rfl
    have z1 := P6.out.at (j := 1) rfl
    have z2 := P6.out.at (j := 2) rfl
    have z3 := P6.out.at (j := 3) rfl
    have z4 := P6.out.at (j := 4) rfl
    have f0 := P6.out.fz 0
    have f1 := P6.out.fz 1
    have f2 := P6.out.fz 2
    have f3 := P6.out.fz 3
    have f4 := P6.out.fz 4
    have y0 := Q6.out.at (j := 0) rfl
    have y1 := Q6.out.at (j := 1) rfl
    have y2 := Q6.out.at (j := 2) rfl
    have y3 := Q6.out.at (j := 3) rfl
    have y4 := Q6.out.at (j := 4) rfl
    have g0 := Q6.out.fz 0
    have g1 := Q6.out.fz 1
    have g2 := Q6.out.fz 2
    have g3 := Q6.out.fz 3
    have g4 := Q6.out.fz 4
    go_wp2_with fail
    change bodyPost _ _ _ _ _ (setsC (setsC w6 (w.heap.size + 1 + 1) 0 [.int .i64 0, .int .i64 0, .int .i64 0, .bool false, .slice none 0 0]) (w.heap.size + 1 + 1 + 1) 0 [.int .i64 0, .int .i64 0, .int .i64 0, .bool false, .slice none 0 0])
    obtain ⟨P9, Q9, B9⟩ := two_sets (B := w.heap.size) (a := w) P6.out Q6.out (by omega) (B.out.trans ((BD.out.trans (BS.out.mono BD.out.size)).mono B.out.size)) (by omega) (by omega) [.int .i64 0, .int .i64 0, .int .i64 0, .bool false, .slice none 0 0] [.int .i64 0, .int .i64 0, .int .i64 0, .bool false, .slice none 0 0] rfl rfl
    refine bodyPost_ret (res_pp rfl _ _ (w.heap.size + 1 + 1) (w.heap.size + 1 + 1 + 1) _ _ _ _ _ _ _ _ _ _ (.bool false) rfl rfl rfl P9 Q9) rfl ?_
    exact ⟨Pt.zero, Pt.zero, none, none, 0, 0, 0, 0, by rw [KF.out]; rfl, fun h => (by rw [KF.out] at h; cases h), B9⟩
   have KT : Hid (keepB a b id = true) := KK.out
   go_upto_region 4 with (fail)
   clear u0 u1 u2 u3 u4 t0 t1 t2 t3 t4 p1 p2
   have BE := qH BS6.out.drew
   obtain ⟨we, hwe⟩ : ∃ x, w6.drew = x := ⟨_, rfl⟩
   replace BP := qH ((BP.out.to BS.out).to (Below.refl _ _).drew)
   replace BQ := qH ((BQ.out.to BS.out).to (Below.refl _ _).drew)
   rw [hwe] at BE BP BQ
   refine wp_region_held_drew (S := (fun w' => Below w2.heap.size w2 w')) (by kernel_rfl) ((by rw [hwe]; exact BE.out)) (fun hHeld => ?_)
   rw [hwe] at hHeld ⊢
   clear hwe hHeld
   have P6 := BP
   have Q6 := BQ
   refine tk 0 ?_
   simp only [pR]
   refine tw 1 rfl (by intro w hSw; (try dsimp only at hSw); have t := cf_cells (XA.out.to hSw); obtain ⟨t0, t1, t2⟩ := t; rw [HA1.out] at t1; go_simp; (try with_reducible rfl)) ?_
   simp only [pR]
   refine tk 2 ?_
   simp only [pR]
   refine tk 3 ?_
   simp only [pR]
   refine tw 4 rfl (by intro w hSw; (try dsimp only at hSw); have t := FU.out.to hSw; obtain ⟨t0, t1, t2, t3, t4⟩ := t; go_simp; (try with_reducible rfl)) ?_
   simp only [pR]
   refine tk 5 ?_
   simp only [pR]
   refine tw 6 rfl (by intro w hSw; (try dsimp only at hSw); have t := cf_cells (XB.out.to hSw); obtain ⟨t0, t1, t2⟩ := t; rw [HA2.out] at t1; go_simp; (try with_reducible rfl)) ?_
   simp only [pR]
   refine tk 7 ?_
   simp only [pR]
   refine tk 8 ?_
   simp only [pR]
   refine tw 9 rfl (by intro w hSw; (try dsimp only at hSw); have t := FT.out.to hSw; obtain ⟨t0, t1, t2, t3, t4⟩ := t; go_simp; (try with_reducible rfl)) ?_
   simp only [pR]
   have z0 := P6.out.at (j := 0) rfl
   have z1 := P6.out.at (j := 1) rfl
   have z2 := P6.out.at (j := 2) rfl
   have z3 := P6.out.at (j := 3) rfl
   have z4 := P6.out.at (j := 4) rfl
   have f0 := P6.out.fz 0
   have f1 := P6.out.fz 1
   have f2 := P6.out.fz 2
   have f3 := P6.out.fz 3
   have f4 := P6.out.fz 4
   refine rd1 10 (fun K hK => ?_)
   go_simp
   refine hK.out _ _ ((below_sets (g := w.heap.size + 1 + 1) (Nat.le_of_eq S2.out) [.int .i64 p.id, .int .i64 p.base, .int .i64 p.size, .bool true, .slice A1 m1 c1] 0 BE.out)) (fun hHeld => ?_)
   clear hK K
   clear z0 z1 z2 z3 z4 f0 f1 f2 f3 f4 hHeld
   change wpAnyH _ _ _ _ _ _ _ _ (setsC we (w.heap.size + 1 + 1) 0 [.int .i64 p.id, .int .i64 p.base, .int .i64 p.size, .bool true, .slice A1 m1 c1])
   have P7 := qH (P6.out.sets [.int .i64 p.id, .int .i64 p.base, .int .i64 p.size, .bool true, .slice A1 m1 c1] rfl)
   have Q7 := qH (Q6.out.kept (Keep.sets (R := (· = w.heap.size + 1 + 1)) rfl [.int .i64 p.id, .int .i64 p.base, .int .i64 p.size, .bool true, .slice A1 m1 c1] 0 (Keep.refl _ we)) (by omega))
   have B7 := qH (below_sets (g := w.heap.size + 1 + 1) (Nat.le_of_eq S2.out) [.int .i64 p.id, .int .i64 p.base, .int .i64 p.size, .bool true, .slice A1 m1 c1] 0 BE.out)
   clear P6 Q6 BE
   generalize setsC we (w.heap.size + 1 + 1) 0 [.int .i64 p.id, .int .i64 p.base, .int .i64 p.size, .bool true, .slice A1 m1 c1] = wf at *
   have z0 := Q7.out.at (j := 0) rfl
   have z1 := Q7.out.at (j := 1) rfl
   have z2 := Q7.out.at (j := 2) rfl
   have z3 := Q7.out.at (j := 3) rfl
   have z4 := Q7.out.at (j := 4) rfl
   have f0 := Q7.out.fz 0
   have f1 := Q7.out.fz 1
   have f2 := Q7.out.fz 2
   have f3 := Q7.out.fz 3
   have f4 := Q7.out.fz 4
   refine rd1 11 (fun K hK => ?_)
   go_simp
   refine hK.out _ _ ((below_sets (g := w.heap.size + 1 + 1 + 1) (by have := S2.out; omega) [.int .i64 r.id, .int .i64 r.base, .int .i64 r.size, .bool true, .slice A2 m2 c2] 0 B7.out)) (fun hHeld => ?_)
   clear hK K
   clear z0 z1 z2 z3 z4 f0 f1 f2 f3 f4 hHeld
   change wpAnyH _ _ _ _ _ _ _ _ (setsC wf (w.heap.size + 1 + 1 + 1) 0 [.int .i64 r.id, .int .i64 r.base, .int .i64 r.size, .bool true, .slice A2 m2 c2])
   have P8 := qH (P7.out.kept (Keep.sets (R := (· = w.heap.size + 1 + 1 + 1)) rfl [.int .i64 r.id, .int .i64 r.base, .int .i64 r.size, .bool true, .slice A2 m2 c2] 0 (Keep.refl _ wf)) (by omega))
   have Q8 := qH (Q7.out.sets [.int .i64 r.id, .int .i64 r.base, .int .i64 r.size, .bool true, .slice A2 m2 c2] rfl)
   have B8 := qH (below_sets (g := w.heap.size + 1 + 1 + 1) (by have := S2.out; omega) [.int .i64 r.id, .int .i64 r.base, .int .i64 r.size, .bool true, .slice A2 m2 c2] 0 B7.out)
   clear P7 Q7 B7
   generalize setsC wf (w.heap.size + 1 + 1 + 1) 0 [.int .i64 r.id, .int .i64 r.base, .int .i64 r.size, .bool true, .slice A2 m2 c2] = wg at *
   have hHeld : Below w2.heap.size w2 wg := B8.out
   refine tk 12 ?_
   simp only [pR]
   refine wpAnyH_done (by kernel_rfl) ?_ _
   go_wp2_with fail
   refine bodyPost_ret (res_pp rfl _ _ (w.heap.size + 1 + 1) (w.heap.size + 1 + 1 + 1) _ _ _ _ _ _ _ _ _ _ (.bool true) rfl rfl rfl P8.out Q8.out) rfl ?_
   exact ⟨p, r, A1, A2, m1, m2, c1, c2, by rw [KT.out, HKA.out, HKB.out], fun _ => ⟨KA.out.symm, KB.out.symm⟩, B.out.trans (B8.out.mono B.out.size)⟩
end
end Go.Proofs.YtlmdidblgeeplaaGreatDoor