/- The laws' own helper of layer 13: awake. MADE by gen_cpw.py. -/
import Derived.Test.YtecedmjhhaabgaaCpA
import Derived.Test.YtecedmjhhaabgaaCpRq
import Derived.Test.YtecedmjhhaabgaaCpL
import Derived.Test.YtecedmjhhaabgaaCpPq
import Derived.Test.YtecedmjhhaabgaaCfLc
import Derived.Test.YtecedmjhhaabgaaCfWr
namespace Go.Proofs.Ytecedmjhhaabgaa
open Go.RowKit
set_option linter.unusedVariables false
set_option linter.unusedSimpArgs false

theorem rdz_lit1 (w : World) (T : TypeId) (x : Int) : RdZ (w.alloc (.cells #[.int .i64 x] T)) (w.alloc (.cells #[.int .i64 x] T)).heap.size (some ⟨w.heap.size, 0, none⟩) 1 [x] :=
  RdZ.of_own (base := 0) (T := T) (c := 1) (own_oneV (Bx.new w T [.int .i64 x]) rfl (Nat.zero_le _))
theorem rdz_lit2 (w : World) (T : TypeId) (x y : Int) : RdZ (w.alloc (.cells #[.int .i64 x, .int .i64 y] T)) (w.alloc (.cells #[.int .i64 x, .int .i64 y] T)).heap.size (some ⟨w.heap.size, 0, none⟩) 2 [x, y] :=
  RdZ.of_own (base := 0) (T := T) (c := 2) (own_blk (n := 2) (z := 1) (Bx.new w T [.int .i64 x, .int .i64 y]) rfl (by decide) (Nat.zero_le _))
/-- A slice that reads as a list. -/
def SpZ (l : List Int) (v : Value) (w : World) : Prop := ∃ A n k, v = .slice A n k ∧ RdZ w w.heap.size A n l
theorem SpZ.to {l : List Int} (v : Value) (w w1 : World) (h : SpZ l v w) (hb : Below w.heap.size w w1) : SpZ l v w1 := by
  obtain ⟨A, n, k, e, hr⟩ := h
  exact ⟨A, n, k, e, hr.to hb⟩
theorem wCheckZ (v v' : CV) (a b : Cf) {z : Int} (hz : checkC a b = z) (w : World) (ha : RdCf w w.heap.size v a) (hb : RdCf w w.heap.size v' b) (da : Bd v) (db : Bd v') :
    Calls Try.prog 10 #[.agg #[.slice v.aw v.nw v.kw, .slice v.ap v.np v.kp, .slice v.ac v.nc v.kc], .agg #[.slice v'.aw v'.nw v'.kw, .slice v'.ap v'.np v'.kp, .slice v'.ac v'.nc v'.kc]] w fun x w' => x = .returned (.int .i64 z) ∧ Below w.heap.size w w' := by
  have h := wCheckC v v' a b w ha hb da db
  rw [hz] at h
  exact h
theorem wSurvZ (v v' : CV) (a b : Cf) (id : Int) {z : Bool} (hz : survB a b id = z) (w : World) (ha : RdCf w w.heap.size v a) (hb : RdCf w w.heap.size v' b) (da : Bd v) (db : Bd v') :
    Calls Try.prog 12 #[.agg #[.slice v.aw v.nw v.kw, .slice v.ap v.np v.kp, .slice v.ac v.nc v.kc], .agg #[.slice v'.aw v'.nw v'.kw, .slice v'.ap v'.np v'.kp, .slice v'.ac v'.nc v'.kc], .int .i64 id] w fun x w' => x = .returned (.bool z) ∧ Below w.heap.size w w' := by
  have h := wSurvC v v' a b id w ha hb da db
  rw [hz] at h
  exact h
theorem wPartsZ (v v' : CV) (a b : Cf) {l : List Int} (hz : partsC a b false = l) (w : World) (ha : RdCf w w.heap.size v a) (hb : RdCf w w.heap.size v' b) (da : Bd v) (db : Bd v') :
    Calls Try.prog 15 #[.agg #[.slice v.aw v.nw v.kw, .slice v.ap v.np v.kp, .slice v.ac v.nc v.kc], .agg #[.slice v'.aw v'.nw v'.kw, .slice v'.ap v'.np v'.kp, .slice v'.ac v'.nc v'.kc]] w fun x w' => ∃ u, x = .returned u ∧ SpZ l u w' ∧ Below w.heap.size w w' := by
  have h := wPartsC v v' a b w ha hb da db
  rw [hz] at h
  refine h.mono ?_
  rintro e w1 ⟨A, n, k, rfl, hr, hb⟩
  exact ⟨_, rfl, ⟨A, n, k, rfl, hr⟩, hb⟩
theorem wLeavZ (v v' : CV) (a b : Cf) {l : List Int} (hz : partsC a b true = l) (w : World) (ha : RdCf w w.heap.size v a) (hb : RdCf w w.heap.size v' b) (da : Bd v) (db : Bd v') :
    Calls Try.prog 21 #[.agg #[.slice v.aw v.nw v.kw, .slice v.ap v.np v.kp, .slice v.ac v.nc v.kc], .agg #[.slice v'.aw v'.nw v'.kw, .slice v'.ap v'.np v'.kp, .slice v'.ac v'.nc v'.kc]] w fun x w' => ∃ u, x = .returned u ∧ SpZ l u w' ∧ Below w.heap.size w w' := by
  have h := wLeavC v v' a b w ha hb da db
  rw [hz] at h
  refine h.mono ?_
  rintro e w1 ⟨A, n, k, rfl, hr, hb⟩
  exact ⟨_, rfl, ⟨A, n, k, rfl, hr⟩, hb⟩
theorem wChansZ (v v' : CV) (a b : Cf) {l : List Int} (hz : chansC a b = l) (w : World) (ha : RdCf w w.heap.size v a) (hb : RdCf w w.heap.size v' b) (da : Bd v) (db : Bd v') :
    Calls Try.prog 19 #[.agg #[.slice v.aw v.nw v.kw, .slice v.ap v.np v.kp, .slice v.ac v.nc v.kc], .agg #[.slice v'.aw v'.nw v'.kw, .slice v'.ap v'.np v'.kp, .slice v'.ac v'.nc v'.kc]] w fun x w' => ∃ u, x = .returned u ∧ SpZ l u w' ∧ Below w.heap.size w w' := by
  have h := wChansC v v' a b w ha hb da db
  rw [hz] at h
  refine h.mono ?_
  rintro e w1 ⟨A, n, k, rfl, hr, hb⟩
  exact ⟨_, rfl, ⟨A, n, k, rfl, hr⟩, hb⟩
set_option maxRecDepth 1000000 in
set_option maxHeartbeats 8000000 in
theorem lAwake13 (w : World) : Calls Try.prog 18 #[] w fun x w' => x = .returned (.bool true) ∧ Below w.heap.size w w' := by
  go_enter Try.func18, Try.ntmps18
  go_wp2_with fail
  refine (lShown13 w).mono ?_
  rintro e w1 ⟨v, v', rfl, ha, hb, hn3, hbel⟩
  have RA := Lib.hid ha
  have RB := Lib.hid hb
  have B := Lib.hid hbel
  have N3 := Lib.hid hn3
  have DA : Hid (Bd v) := ⟨by have := ha.ww.1; simp [shA] at this; omega, by have := ha.pp.1; simp [shA] at this; omega, by have := ha.cc.1; simp [shA] at this; omega⟩
  have DB : Hid (Bd v') := ⟨by have := hb.ww.1; simp [shB] at this; omega, by have := hb.pp.1; simp [shB] at this; omega, by have := hb.cc.1; simp [shB] at this; omega⟩
  clear ha hb hbel hn3
  dsimp only [CV.val]
  obtain ⟨w2, hw2, hb2, hx, hy, hr, hs⟩ := two_boxC w1 RA.out RB.out
  have HW := Lib.hid hw2
  have XA := Lib.hid hx
  have XB := Lib.hid hy
  replace RA := Lib.hid hr
  replace RB := Lib.hid hs
  replace B := Lib.hid (B.out.trans (hb2.mono B.out.size))
  clear hw2 hb2 hx hy hr hs
  go_upto_region 2 with (fail)
  rw [show (w1.alloc (.cells #[.slice v.aw v.nw v.kw, .slice v.ap v.np v.kp, .slice v.ac v.nc v.kc] 26)).alloc (.cells #[.slice v'.aw v'.nw v'.kw, .slice v'.ap v'.np v'.kp, .slice v'.ac v'.nc v'.kc] 26) = w2 from HW.out]
  clear HW
  obtain ⟨ga, hga⟩ : ∃ g, w1.heap.size = g := ⟨_, rfl⟩
  rw [hga] at XA XB ⊢
  clear hga
  obtain ⟨p0, p1, p2⟩ := cf_cells XA.out
  go_wp2_with fail
  refine (lCopiedX v shA w2 RA.out DA.out.1 DA.out.2.1 DA.out.2.2 (fun p hp => by simp only [shA, List.mem_cons, List.not_mem_nil, or_false] at hp; rcases hp with rfl | rfl | rfl <;> simp)).mono ?_
  rintro e w3 ⟨vc, qs, rfl, hox, hb⟩
  have BC := Lib.hid hb
  clear hb p0 p1 p2
  obtain ⟨awc, nwc, kwc, apc, npc, kpc, acc, ncc, kcc⟩ := vc
  obtain rfl : npc = 3 := by have := hox.ps_len; simp [shA] at this; omega
  obtain ⟨gp, hap, hgp, -, -⟩ := hox.at_ap (by (show 0 < 3); omega)
  dsimp only at hap
  subst hap
  dsimp only [CV.val]
  have xd := Bx.new w3 26 [.slice awc nwc kwc, .slice (some ⟨gp, 0, none⟩) 3 kpc, .slice acc ncc kcc]
  have hal := (Below.refl w3.heap.size w3).alloc (Nat.le_refl _) (.cells #[.slice awc nwc kwc, .slice (some ⟨gp, 0, none⟩) 3 kpc, .slice acc ncc kcc] 26)
  have OX := Lib.hid (hox.to hal)
  have XC : Hid (Bx (w3.alloc (.cells #[.slice awc nwc kwc, .slice (some ⟨gp, 0, none⟩) 3 kpc, .slice acc ncc kcc] 26)) w3.heap.size 26 [.slice awc nwc kwc, .slice (some ⟨gp, 0, none⟩) 3 kpc, .slice acc ncc kcc]) := xd
  have HGP : Hid (w2.heap.size ≤ gp ∧ gp < w3.heap.size) := ⟨hgp, (hox.pp.row.lt gp rfl).2⟩
  have NC : Hid (nwc ≤ 1000 ∧ ncc ≤ 1000) := by (show _ ∧ _); have h1 := hox.nw_le; have h2 := hox.nc_le; simp [shA] at h1 h2; constructor <;> omega
  replace BC := Lib.hid (BC.out.trans (hal.mono BC.out.size))
  clear hox xd hal hgp
  go_upto_region 3 with (fail)
  generalize w3.alloc (.cells #[.slice awc nwc kwc, .slice (some ⟨gp, 0, none⟩) 3 kpc, .slice acc ncc kcc] 26) = w4 at *
  obtain ⟨gc, hgc⟩ : ∃ g, w3.heap.size = g := ⟨_, rfl⟩
  rw [hgc] at XC HGP ⊢
  clear hgc
  obtain ⟨Ai, mi, ci, z0, z1, z2, z3, z4⟩ := OX.out.cells (k := 1) rfl (show 1 < 3 by decide)
  obtain ⟨g9, e9, -, -, hfz⟩ := OX.out.at_ap (show 0 < 3 by decide)
  injection e9 with e9
  injection e9 with e9 _
  subst e9
  clear z0 z1 z3 z4
  have f2 : w4.frozen? ⟨gp, 1 * 5 + 2, none⟩ = false := hfz _
  clear hfz
  have hne : gc ≠ gp := by have := HGP.out; omega
  simp only [Nat.reduceMul, Nat.reduceAdd] at z2 f2
  have d1 := XC.out.at (j := 1) rfl
  go_upto_region 4 with (fail)
  have hq1 : 1 < qs.length := by have h := OX.out.np; dsimp only at h; omega
  have hq2 : (qs[1]'hq1).cells.set 2 (.int .i64 16) = (⟨⟨2, 16, 16, true, []⟩, (qs[1]'hq1).A, (qs[1]'hq1).m, (qs[1]'hq1).c⟩ : QP).cells := by
    have h := OX.out.pt_at (k := 1) hq1
    unfold QP.cells
    rw [← h]; rfl
  have hm1 := List.getElem_mem hq1
  have him : (qs[1]'hq1).p.img = [] := by rw [← OX.out.pt_at (k := 1) hq1]; rfl
  have hI := OX.out.pp.img _ hm1
  have hox5 := OX.out.setP (u := .int .i64 16) (j := 2) rfl hq1 (by decide) hq2.symm ⟨by have := hI.own; rw [him] at this; exact this, hI.mc, hI.cc⟩ (OX.out.pp.off (qs[1]'hq1) hm1 gp rfl) (OX.out.offw (qs[1]'hq1) hm1) (OX.out.offc (qs[1]'hq1) hm1)
  clear hq2 hm1 him hI
  have RC5 : Hid (RdCf (w4.setCell ⟨gp, 7, none⟩ (.int .i64 16)) (w4.setCell ⟨gp, 7, none⟩ (.int .i64 16)).heap.size ⟨awc, nwc, kwc, some ⟨gp, 0, none⟩, 3, kpc, acc, ncc, kcc⟩ shC) := hox5.cf.rd
  have XC5 : Hid (Bx (w4.setCell ⟨gp, 7, none⟩ (.int .i64 16)) gc 26 (cfL ⟨awc, nwc, kwc, some ⟨gp, 0, none⟩, 3, kpc, acc, ncc, kcc⟩)) := XC.out.other ⟨gp, 7, none⟩ (.int .i64 16) hne
  have BC5 := Lib.hid (BC.out.setCell (p := ⟨gp, 7, none⟩) HGP.out.1 (.int .i64 16))
  have DC : Hid (Bd ⟨awc, nwc, kwc, some ⟨gp, 0, none⟩, 3, kpc, acc, ncc, kcc⟩) := ⟨NC.out.1, (show (3 : Nat) ≤ 1000 by decide), NC.out.2⟩
  clear hox5 OX XC BC hne z2 f2 d1 hq1
  generalize w4.setCell ⟨gp, 7, none⟩ (.int .i64 16) = w5 at *
  have RA5 := Lib.hid (RA.out.to BC5.out)
  have RB5 := Lib.hid (RB.out.to BC5.out)
  have XA5 := Lib.hid (XA.out.to BC5.out)
  have XB5 := Lib.hid (XB.out.to BC5.out)
  replace B := Lib.hid (B.out.trans (BC5.out.mono B.out.size))
  obtain ⟨vc, hvc⟩ : ∃ x : CV, (⟨awc, nwc, kwc, some ⟨gp, 0, none⟩, 3, kpc, acc, ncc, kcc⟩ : CV) = x := ⟨_, rfl⟩
  rw [hvc] at RC5 XC5 DC
  clear hvc RA RB XA XB BC5 HGP NC
  have BD := Lib.hid (Below.refl w5.heap.size w5)
  obtain ⟨p0, p1, p2⟩ := cf_cells (XA5.out.to BD.out)
  obtain ⟨q0, q1, q2⟩ := cf_cells (XB5.out.to BD.out)
  obtain ⟨r0, r1, r2⟩ := cf_cells (XC5.out.to BD.out)
  go_wp2_with fail
  refine (wCheckZ v v' shA shB ck_AB _ (RA5.out.to BD.out) (RB5.out.to BD.out) DA.out DB.out).mono ?_
  rintro e y1 ⟨rfl, hb⟩
  replace BD := Lib.hid (BD.out.trans (hb.mono BD.out.size))
  clear hb p0 p1 p2 q0 q1 q2 r0 r1 r2
  obtain ⟨p0, p1, p2⟩ := cf_cells (XA5.out.to BD.out)
  obtain ⟨q0, q1, q2⟩ := cf_cells (XB5.out.to BD.out)
  obtain ⟨r0, r1, r2⟩ := cf_cells (XC5.out.to BD.out)
  go_wp2_with fail
  refine (wPartsZ v v' shA shB pt_AB _ (RA5.out.to BD.out) (RB5.out.to BD.out) DA.out DB.out).mono ?_
  rintro e y2 ⟨u, rfl, ⟨A, n, kk, rfl, hr⟩, hb⟩
  replace BD := Lib.hid (BD.out.trans (hb.mono BD.out.size))
  have hal := (Below.refl y2.heap.size y2).alloc (Nat.le_refl _) (.cells #[.int .i64 1] 3)
  have HR := Lib.hid (hr.to hal)
  have HL := Lib.hid (rdz_lit1 y2 3 1)
  have HN : Hid (n ≤ 1000) := by (show _ ≤ _); have := hr.1; simp at this; omega
  replace BD := Lib.hid (BD.out.trans (hal.mono BD.out.size))
  clear hal hr hb p0 p1 p2 q0 q1 q2 r0 r1 r2
  go_wp2_with fail
  refine (lSame13 A (some ⟨y2.heap.size, 0, none⟩) n 1 kk 1 [1] [1] _ HR.out HL.out HN.out).mono ?_
  rw [show decide (([1] : List Int) = [1]) = true from by decide]
  rintro e y3 ⟨rfl, hb⟩
  replace BD := Lib.hid (BD.out.trans (hb.mono BD.out.size))
  clear hb HR HN HL
  obtain ⟨p0, p1, p2⟩ := cf_cells (XA5.out.to BD.out)
  obtain ⟨q0, q1, q2⟩ := cf_cells (XB5.out.to BD.out)
  obtain ⟨r0, r1, r2⟩ := cf_cells (XC5.out.to BD.out)
  go_wp2_with fail
  refine (wChansZ v v' shA shB cn_AB _ (RA5.out.to BD.out) (RB5.out.to BD.out) DA.out DB.out).mono ?_
  rintro e y4 ⟨u, rfl, ⟨A, n, kk, rfl, hr⟩, hb⟩
  replace BD := Lib.hid (BD.out.trans (hb.mono BD.out.size))
  have HR := Lib.hid hr
  have HN : Hid (n ≤ 1000) := by (show _ ≤ _); have := hr.1; simp at this; omega
  clear hr hb p0 p1 p2 q0 q1 q2 r0 r1 r2
  go_wp2_with fail
  refine (lSame13 A none n 0 kk 0 [] [] _ HR.out (RdZ.nil _ _ _) HN.out).mono ?_
  rw [show decide (([] : List Int) = []) = true from by decide]
  rintro e y5 ⟨rfl, hb⟩
  replace BD := Lib.hid (BD.out.trans (hb.mono BD.out.size))
  clear hb HR HN
  obtain ⟨p0, p1, p2⟩ := cf_cells (XA5.out.to BD.out)
  obtain ⟨q0, q1, q2⟩ := cf_cells (XB5.out.to BD.out)
  obtain ⟨r0, r1, r2⟩ := cf_cells (XC5.out.to BD.out)
  go_wp2_with fail
  refine (wLeavZ v v' shA shB lv_AB _ (RA5.out.to BD.out) (RB5.out.to BD.out) DA.out DB.out).mono ?_
  rintro e y6 ⟨u, rfl, ⟨A, n, kk, rfl, hr⟩, hb⟩
  replace BD := Lib.hid (BD.out.trans (hb.mono BD.out.size))
  have hal := (Below.refl y6.heap.size y6).alloc (Nat.le_refl _) (.cells #[.int .i64 2, .int .i64 3] 3)
  have HR := Lib.hid (hr.to hal)
  have HL := Lib.hid (rdz_lit2 y6 3 2 3)
  have HN : Hid (n ≤ 1000) := by (show _ ≤ _); have := hr.1; simp at this; omega
  replace BD := Lib.hid (BD.out.trans (hal.mono BD.out.size))
  clear hal hr hb p0 p1 p2 q0 q1 q2 r0 r1 r2
  go_wp2_with fail
  refine (lSame13 A (some ⟨y6.heap.size, 0, none⟩) n 2 kk 2 [2, 3] [2, 3] _ HR.out HL.out HN.out).mono ?_
  rw [show decide (([2, 3] : List Int) = [2, 3]) = true from by decide]
  rintro e y7 ⟨rfl, hb⟩
  replace BD := Lib.hid (BD.out.trans (hb.mono BD.out.size))
  clear hb HR HN HL
  obtain ⟨p0, p1, p2⟩ := cf_cells (XA5.out.to BD.out)
  obtain ⟨q0, q1, q2⟩ := cf_cells (XB5.out.to BD.out)
  obtain ⟨r0, r1, r2⟩ := cf_cells (XC5.out.to BD.out)
  go_wp2_with fail
  refine (wCheckZ v v shA shA ck_AA _ (RA5.out.to BD.out) (RA5.out.to BD.out) DA.out DA.out).mono ?_
  rintro e y8 ⟨rfl, hb⟩
  replace BD := Lib.hid (BD.out.trans (hb.mono BD.out.size))
  clear hb p0 p1 p2 q0 q1 q2 r0 r1 r2
  obtain ⟨p0, p1, p2⟩ := cf_cells (XA5.out.to BD.out)
  obtain ⟨q0, q1, q2⟩ := cf_cells (XB5.out.to BD.out)
  obtain ⟨r0, r1, r2⟩ := cf_cells (XC5.out.to BD.out)
  go_wp2_with fail
  refine (wPartsZ v v shA shA pt_AA _ (RA5.out.to BD.out) (RA5.out.to BD.out) DA.out DA.out).mono ?_
  rintro e y9 ⟨u, rfl, ⟨A, n, kk, rfl, hr⟩, hb⟩
  replace BD := Lib.hid (BD.out.trans (hb.mono BD.out.size))
  have hal := (Below.refl y9.heap.size y9).alloc (Nat.le_refl _) (.cells #[.int .i64 1, .int .i64 2] 3)
  have HR := Lib.hid (hr.to hal)
  have HL := Lib.hid (rdz_lit2 y9 3 1 2)
  have HN : Hid (n ≤ 1000) := by (show _ ≤ _); have := hr.1; simp at this; omega
  replace BD := Lib.hid (BD.out.trans (hal.mono BD.out.size))
  clear hal hr hb p0 p1 p2 q0 q1 q2 r0 r1 r2
  go_wp2_with fail
  refine (lSame13 A (some ⟨y9.heap.size, 0, none⟩) n 2 kk 2 [1, 2] [1, 2] _ HR.out HL.out HN.out).mono ?_
  rw [show decide (([1, 2] : List Int) = [1, 2]) = true from by decide]
  rintro e y10 ⟨rfl, hb⟩
  replace BD := Lib.hid (BD.out.trans (hb.mono BD.out.size))
  clear hb HR HN HL
  obtain ⟨p0, p1, p2⟩ := cf_cells (XA5.out.to BD.out)
  obtain ⟨q0, q1, q2⟩ := cf_cells (XB5.out.to BD.out)
  obtain ⟨r0, r1, r2⟩ := cf_cells (XC5.out.to BD.out)
  go_wp2_with fail
  refine (wChansZ v v shA shA cn_AA _ (RA5.out.to BD.out) (RA5.out.to BD.out) DA.out DA.out).mono ?_
  rintro e y11 ⟨u, rfl, ⟨A, n, kk, rfl, hr⟩, hb⟩
  replace BD := Lib.hid (BD.out.trans (hb.mono BD.out.size))
  have hal := (Below.refl y11.heap.size y11).alloc (Nat.le_refl _) (.cells #[.int .i64 1] 3)
  have HR := Lib.hid (hr.to hal)
  have HL := Lib.hid (rdz_lit1 y11 3 1)
  have HN : Hid (n ≤ 1000) := by (show _ ≤ _); have := hr.1; simp at this; omega
  replace BD := Lib.hid (BD.out.trans (hal.mono BD.out.size))
  clear hal hr hb p0 p1 p2 q0 q1 q2 r0 r1 r2
  go_wp2_with fail
  refine (lSame13 A (some ⟨y11.heap.size, 0, none⟩) n 1 kk 1 [1] [1] _ HR.out HL.out HN.out).mono ?_
  rw [show decide (([1] : List Int) = [1]) = true from by decide]
  rintro e y12 ⟨rfl, hb⟩
  replace BD := Lib.hid (BD.out.trans (hb.mono BD.out.size))
  clear hb HR HN HL
  obtain ⟨p0, p1, p2⟩ := cf_cells (XA5.out.to BD.out)
  obtain ⟨q0, q1, q2⟩ := cf_cells (XB5.out.to BD.out)
  obtain ⟨r0, r1, r2⟩ := cf_cells (XC5.out.to BD.out)
  go_wp2_with fail
  refine (wCheckZ v vc shA shC ck_AC _ (RA5.out.to BD.out) (RC5.out.to BD.out) DA.out DC.out).mono ?_
  rintro e y13 ⟨rfl, hb⟩
  replace BD := Lib.hid (BD.out.trans (hb.mono BD.out.size))
  clear hb p0 p1 p2 q0 q1 q2 r0 r1 r2
  obtain ⟨p0, p1, p2⟩ := cf_cells (XA5.out.to BD.out)
  obtain ⟨q0, q1, q2⟩ := cf_cells (XB5.out.to BD.out)
  obtain ⟨r0, r1, r2⟩ := cf_cells (XC5.out.to BD.out)
  go_wp2_with fail
  refine (wSurvZ v v' shA shB 1 sv_1 _ (RA5.out.to BD.out) (RB5.out.to BD.out) DA.out DB.out).mono ?_
  rintro e y14 ⟨rfl, hb⟩
  replace BD := Lib.hid (BD.out.trans (hb.mono BD.out.size))
  clear hb p0 p1 p2 q0 q1 q2 r0 r1 r2
  obtain ⟨p0, p1, p2⟩ := cf_cells (XA5.out.to BD.out)
  obtain ⟨q0, q1, q2⟩ := cf_cells (XB5.out.to BD.out)
  obtain ⟨r0, r1, r2⟩ := cf_cells (XC5.out.to BD.out)
  go_wp2_with fail
  refine (wSurvZ v v' shA shB 2 sv_2 _ (RA5.out.to BD.out) (RB5.out.to BD.out) DA.out DB.out).mono ?_
  rintro e y15 ⟨rfl, hb⟩
  replace BD := Lib.hid (BD.out.trans (hb.mono BD.out.size))
  clear hb p0 p1 p2 q0 q1 q2 r0 r1 r2
  obtain ⟨p0, p1, p2⟩ := cf_cells (XA5.out.to BD.out)
  obtain ⟨q0, q1, q2⟩ := cf_cells (XB5.out.to BD.out)
  obtain ⟨r0, r1, r2⟩ := cf_cells (XC5.out.to BD.out)
  go_wp2_with fail
  refine (wCheckZ v ⟨none, 0, 0, none, 0, 0, none, 0, 0⟩ shA shZ ck_AZ _ (RA5.out.to BD.out) ⟨RdG.nil _ _ _, RdP.nil _ _ _, ⟨rfl, fun h => absurd h (Nat.lt_irrefl 0)⟩, Nat.le_refl _, Nat.le_refl _, Nat.le_refl _⟩ DA.out ⟨Nat.zero_le _, Nat.zero_le _, Nat.zero_le _⟩).mono ?_
  rintro e y16 ⟨rfl, hb⟩
  replace BD := Lib.hid (BD.out.trans (hb.mono BD.out.size))
  clear hb p0 p1 p2 q0 q1 q2 r0 r1 r2
  replace B := Lib.hid (B.out.trans (BD.out.mono B.out.size))
  go_wp2_with fail
  go_ret
  exact ⟨rfl, B.out⟩
end Go.Proofs.Ytecedmjhhaabgaa
