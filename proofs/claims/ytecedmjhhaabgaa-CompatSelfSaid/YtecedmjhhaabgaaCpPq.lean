/- Several texts in one (a claim has 60 files at most): CpPa, CpPb, CpPc, CpPd, CpP. -/
import Derived.Test.YtecedmjhhaabgaaCpM
import Derived.Test.YtecedmjhhaabgaaCpRq
import Derived.Test.YtecedmjhhaabgaaCpQ
import Derived.Test.YtecedmjhhaabgaaVaPq
import Derived.Test.YtecedmjhhaabgaaPairQ
import Derived.Deep.RegionHeld
import Derived.Test.YtecedmjhhaabgaaHeldQ
import Derived.Test.YtecedmjhhaabgaaChTq
namespace Go.Proofs.Ytecedmjhhaabgaa

/- Contracts of the program's package compat: fit, heir, resized, lasts, Check. -/
section
open Go.RowKit
set_option linter.unusedVariables false
set_option linter.unusedSimpArgs false

/-- Two, three blocks, one behind the other. -/
theorem bx_two {v : CV} {b : Cf} (w : World) (h : RdCf w w.heap.size v b) (T T' : TypeId) (l l' : List Value) : ∃ w2, (w.alloc (.cells l.toArray T)).alloc (.cells l'.toArray T') = w2 ∧
    Below w.heap.size w w2 ∧ Bx w2 w.heap.size T l ∧ Bx w2 (w.heap.size + 1) T' l' ∧ w2.heap.size = w.heap.size + 2 ∧ RdCf w2 w2.heap.size v b := by
  have B2 : Below w.heap.size w ((w.alloc (.cells l.toArray T)).alloc (.cells l'.toArray T')) := ((Below.refl w.heap.size w).alloc (Nat.le_refl _) _).alloc (by simp) _
  refine ⟨_, rfl, B2, ?_, ?_, by simp, h.to B2⟩
  · exact (Bx.new w T l).to ((Below.refl _ _).alloc (Nat.le_refl _) _)
  · have h := Bx.new (w.alloc (.cells l.toArray T)) T' l'
    simpa using h
theorem bx_three {v : CV} {b : Cf} (w : World) (h : RdCf w w.heap.size v b) (T T' U : TypeId) (l l' m : List Value) : ∃ w3, ((w.alloc (.cells l.toArray T)).alloc (.cells l'.toArray T')).alloc (.cells m.toArray U) = w3 ∧
    Below w.heap.size w w3 ∧ Bx w3 w.heap.size T l ∧ Bx w3 (w.heap.size + 1) T' l' ∧ Bx w3 (w.heap.size + 1 + 1) U m ∧ w3.heap.size = w.heap.size + 3 ∧ RdCf w3 w3.heap.size v b := by
  obtain ⟨w2, hw, hb, hx, hy, hs, hr⟩ := bx_two w h T T' l l'
  rw [hw]
  have B3 : Below w2.heap.size w2 (w2.alloc (.cells m.toArray U)) := (Below.refl _ _).alloc (Nat.le_refl _) _
  refine ⟨_, rfl, hb.trans (B3.mono hb.size), hx.to B3, hy.to B3, ?_, by simp [hs], hr.to B3⟩
  have h := Bx.new w2 U m
  rw [hs] at h
  exact h
/-- Both are valid. -/
theorem wFitC (v v' : CV) (a b : Cf) (w : World) (ha : RdCf w w.heap.size v a) (hb : RdCf w w.heap.size v' b) (da : Bd v) (db : Bd v') :
    Calls Try.prog 25 #[.agg #[.slice v.aw v.nw v.kw, .slice v.ap v.np v.kp, .slice v.ac v.nc v.kc], .agg #[.slice v'.aw v'.nw v'.kw, .slice v'.ap v'.np v'.kp, .slice v'.ac v'.nc v'.kc]] w fun x w' => x = .returned (.bool (mayB a b)) ∧ Below w.heap.size w w' := by
  obtain ⟨w2, hw2, hb2, hx, hy, hr, hs⟩ := two_boxC w ha hb
  have RA := Lib.hid hr
  have RB := Lib.hid hs
  have XA := Lib.hid hx
  have XB := Lib.hid hy
  have B := Lib.hid hb2
  have HW := Lib.hid hw2
  have DA := Lib.hid da
  have DB := Lib.hid db
  clear ha hb da db hw2 hb2 hx hy hr hs
  go_enter Try.func25, Try.ntmps25
  go_upto_region 1 with (fail)
  rw [show (w.alloc (.cells #[.slice v.aw v.nw v.kw, .slice v.ap v.np v.kp, .slice v.ac v.nc v.kc] 26)).alloc (.cells #[.slice v'.aw v'.nw v'.kw, .slice v'.ap v'.np v'.kp, .slice v'.ac v'.nc v'.kc] 26) = w2 from HW.out]
  clear HW
  obtain ⟨p0, p1, p2⟩ := cf_cells XA.out
  go_wp2_with fail
  refine (wFitsV v a w2 RA.out DA.out.1 DA.out.2.1 DA.out.2.2).mono ?_
  rintro e w3 ⟨rfl, hb⟩
  replace RB := Lib.hid (RB.out.to hb)
  replace XB := Lib.hid (XB.out.to hb)
  replace B := Lib.hid (B.out.trans (hb.mono B.out.size))
  clear hb p0 p1 p2
  cases hf : fitsV a
  · have HF : Hid (false = mayB a b) := by (show _ = _); unfold mayB; rw [hf]; rfl
    clear hf
    go_wp2_with fail
    go_ret
    exact ⟨ret_bool HF.out, B.out⟩
  · have HF : Hid (fitsV b = mayB a b) := by (show _ = _); unfold mayB; rw [hf]; rfl
    clear hf
    obtain ⟨p0, p1, p2⟩ := cf_cells XB.out
    go_wp2_with fail
    refine (wFitsV v' b w3 RB.out DB.out.1 DB.out.2.1 DB.out.2.2).mono ?_
    rintro e w4 ⟨rfl, hb⟩
    replace B := Lib.hid (B.out.trans (hb.mono B.out.size))
    rw [HF.out]
    clear hb p0 p1 p2
    go_wp2_with fail
    go_ret
    exact ⟨rfl, B.out⟩
/-- Has the other one a partition of that ID, with Keep in both? -/
def heirB (p : Pt) (b : Cf) : Bool := hasP b p.id && (p.keep && (ptI b p.id).keep)
def HeirR (p : Pt) (b : Cf) (w : World) (x : Ending) (w' : World) : Prop :=
  ∃ (q : Pt) (A : Option Addr) (m c : Nat), x = .returned (.tuple #[.agg #[.int .i64 q.id, .int .i64 q.base, .int .i64 q.size, .bool q.keep, .slice A m c], .bool (heirB p b)]) ∧ (heirB p b = true → q = ptI b p.id) ∧ Below w.heap.size w w'
theorem partV_eq {c : Cf} {id : Int} (h : hasP c id = true) : partV c id = ptI c id := by
  unfold partV
  rw [if_pos (of_decide_eq_true h)]
  rfl
set_option maxRecDepth 1000000 in
set_option maxHeartbeats 1000000 in
theorem wHeir (p : Pt) (A : Option Addr) (m c : Nat) (v : CV) (b : Cf) (w : World) (hb : RdCf w w.heap.size v b) (db : Bd v) :
    Calls Try.prog 47 #[.agg #[.int .i64 p.id, .int .i64 p.base, .int .i64 p.size, .bool p.keep, .slice A m c], .agg #[.slice v.aw v.nw v.kw, .slice v.ap v.np v.kp, .slice v.ac v.nc v.kc]] w (HeirR p b w) := by
  obtain ⟨w3, hw3, hb3, hx, hy, hz, hs3, hr⟩ := bx_three w hb 43 26 43 [.int .i64 p.id, .int .i64 p.base, .int .i64 p.size, .bool p.keep, .slice A m c] (cfL v) [.int .i64 0, .int .i64 0, .int .i64 0, .bool false, .slice none 0 0]
  have R := Lib.hid hr
  have P := Lib.hid hx
  have X := Lib.hid hy
  have Z := Lib.hid hz
  have S3 := Lib.hid hs3
  have BW := Lib.hid hb3
  have HW := Lib.hid hw3
  have DB := Lib.hid db
  have HV : Hid (heirB p b = (hasP b p.id && (p.keep && (ptI b p.id).keep))) := rfl
  have HA : Hid (hasP b p.id = decide (0 ≤ findP b.ps p.id)) := rfl
  have HQ := Lib.hid (show hasP b p.id = true → partV b p.id = ptI b p.id from partV_eq)
  clear hb db hw3 hb3 hx hy hz hs3 hr
  go_enter Try.func47, Try.ntmps47
  go_upto_region 1 with (fail)
  rw [show ((w.alloc (.cells #[.int .i64 p.id, .int .i64 p.base, .int .i64 p.size, .bool p.keep, .slice A m c] 43)).alloc (.cells #[.slice v.aw v.nw v.kw, .slice v.ap v.np v.kp, .slice v.ac v.nc v.kc] 26)).alloc (.cells #[.int .i64 0, .int .i64 0, .int .i64 0, .bool false, .slice none 0 0] 43) = w3 from HW.out]
  clear HW
  obtain ⟨p0, p1, p2⟩ := cf_cells X.out
  have y0 := P.out.at (j := 0) rfl
  go_wp2_with fail
  refine (wPart v b p.id w3 R.out DB.out.2.1).mono ?_
  rintro e w4 ⟨A4, m4, c4, rfl, -, -, -, hb4⟩
  have HS4 : Hid (w.heap.size + 3 ≤ w4.heap.size) := by (show _ ≤ _); rw [← S3.out]; exact hb4.size
  replace P := Lib.hid (P.out.to hb4)
  replace Z := Lib.hid (Z.out.to hb4)
  replace BW := Lib.hid (BW.out.trans (hb4.mono BW.out.size))
  rw [← HA.out]
  clear hb4 p0 p1 p2 y0 X R HA
  generalize partV b p.id = q at *
  obtain ⟨ok, hok⟩ : ∃ x, hasP b p.id = x := ⟨_, rfl⟩
  rw [hok] at HV HQ ⊢
  clear hok
  go_upto_region 2 with (fail)
  have Q := Lib.hid (Bx.new w4 43 [.int .i64 q.id, .int .i64 q.base, .int .i64 q.size, .bool q.keep, .slice A4 m4 c4])
  have B5 : Below w4.heap.size w4 (w4.alloc (.cells #[.int .i64 q.id, .int .i64 q.base, .int .i64 q.size, .bool q.keep, .slice A4 m4 c4] 43)) := (Below.refl _ _).alloc (Nat.le_refl _) _
  replace P := Lib.hid (P.out.to B5)
  replace Z := Lib.hid (Z.out.to B5)
  replace BW := Lib.hid (BW.out.trans (B5.mono BW.out.size))
  generalize w4.alloc (.cells #[.int .i64 q.id, .int .i64 q.base, .int .i64 q.size, .bool q.keep, .slice A4 m4 c4] 43) = w5 at *
  generalize w4.heap.size = g at *
  clear B5 w4
  have z0 := Z.out.at (j := 0) rfl
  have z1 := Z.out.at (j := 1) rfl
  have z2 := Z.out.at (j := 2) rfl
  have z3 := Z.out.at (j := 3) rfl
  have z4 := Z.out.at (j := 4) rfl
  have f0 := Z.out.fz 0
  have f1 := Z.out.fz 1
  have f2 := Z.out.fz 2
  have f3 := Z.out.fz 3
  have f4 := Z.out.fz 4
  cases ok
  · have KF : Hid (heirB p b = false) := by (show _ = _); rw [HV.out]; rfl
    go_wp2_with fail
    change bodyPost _ _ _ _ _ (setsC w5 (w.heap.size + 1 + 1) 0 [.int .i64 0, .int .i64 0, .int .i64 0, .bool false, .slice none 0 0])
    have P9 := Z.out.sets [.int .i64 0, .int .i64 0, .int .i64 0, .bool false, .slice none 0 0] rfl
    have B9 := below_sets (show w.heap.size ≤ w.heap.size + 1 + 1 by omega) [.int .i64 0, .int .i64 0, .int .i64 0, .bool false, .slice none 0 0] 0 BW.out
    refine bodyPost_ret (res_ptB rfl _ _ (w.heap.size + 1 + 1) _ _ _ _ _ (.bool false) rfl rfl P9) rfl ?_
    exact ⟨Pt.zero, none, 0, 0, by rw [KF.out]; rfl, fun h => (by rw [KF.out] at h; cases h), B9⟩
  replace HQ := Lib.hid (HQ.out rfl)
  rw [← HQ.out] at HV
  obtain ⟨ka, hka⟩ : ∃ x, p.keep = x := ⟨_, rfl⟩
  obtain ⟨kb, hkb⟩ : ∃ x, q.keep = x := ⟨_, rfl⟩
  rw [hka, hkb] at HV
  rw [hka] at P
  have y2 := P.out.at (j := 2) rfl
  have y3 := P.out.at (j := 3) rfl
  rw [hkb] at Q
  have x0 := Q.out.at (j := 0) rfl
  have x1 := Q.out.at (j := 1) rfl
  have x2 := Q.out.at (j := 2) rfl
  have x3 := Q.out.at (j := 3) rfl
  have x4 := Q.out.at (j := 4) rfl
  have HKB := Lib.hid hkb
  clear hka hkb y2
  cases ka
  · have KF : Hid (heirB p b = false) := by (show _ = _); rw [HV.out]; rfl
    go_wp2_with fail
    change bodyPost _ _ _ _ _ (setsC w5 (w.heap.size + 1 + 1) 0 [.int .i64 0, .int .i64 0, .int .i64 0, .bool false, .slice none 0 0])
    have P9 := Z.out.sets [.int .i64 0, .int .i64 0, .int .i64 0, .bool false, .slice none 0 0] rfl
    have B9 := below_sets (show w.heap.size ≤ w.heap.size + 1 + 1 by omega) [.int .i64 0, .int .i64 0, .int .i64 0, .bool false, .slice none 0 0] 0 BW.out
    refine bodyPost_ret (res_ptB rfl _ _ (w.heap.size + 1 + 1) _ _ _ _ _ (.bool false) rfl rfl P9) rfl ?_
    exact ⟨Pt.zero, none, 0, 0, by rw [KF.out]; rfl, fun h => (by rw [KF.out] at h; cases h), B9⟩
  cases kb
  · have KF : Hid (heirB p b = false) := by (show _ = _); rw [HV.out]; rfl
    go_wp2_with fail
    change bodyPost _ _ _ _ _ (setsC w5 (w.heap.size + 1 + 1) 0 [.int .i64 0, .int .i64 0, .int .i64 0, .bool false, .slice none 0 0])
    have P9 := Z.out.sets [.int .i64 0, .int .i64 0, .int .i64 0, .bool false, .slice none 0 0] rfl
    have B9 := below_sets (show w.heap.size ≤ w.heap.size + 1 + 1 by omega) [.int .i64 0, .int .i64 0, .int .i64 0, .bool false, .slice none 0 0] 0 BW.out
    refine bodyPost_ret (res_ptB rfl _ _ (w.heap.size + 1 + 1) _ _ _ _ _ (.bool false) rfl rfl P9) rfl ?_
    exact ⟨Pt.zero, none, 0, 0, by rw [KF.out]; rfl, fun h => (by rw [KF.out] at h; cases h), B9⟩
  have KT : Hid (heirB p b = true) := by (show _ = _); rw [HV.out]; rfl
  go_wp2_with fail
  change bodyPost _ _ _ _ _ (setsC w5 (w.heap.size + 1 + 1) 0 [.int .i64 q.id, .int .i64 q.base, .int .i64 q.size, .bool true, .slice A4 m4 c4])
  have P9 := Z.out.sets [.int .i64 q.id, .int .i64 q.base, .int .i64 q.size, .bool true, .slice A4 m4 c4] rfl
  have B9 := below_sets (show w.heap.size ≤ w.heap.size + 1 + 1 by omega) [.int .i64 q.id, .int .i64 q.base, .int .i64 q.size, .bool true, .slice A4 m4 c4] 0 BW.out
  refine bodyPost_ret (res_ptB rfl _ _ (w.heap.size + 1 + 1) _ _ _ _ _ (.bool true) rfl rfl P9) rfl ?_
  exact ⟨q, A4, m4, c4, by rw [KT.out, HKB.out], fun _ => HQ.out, B9⟩
/-- Kept with another size? -/
def resB (b : Cf) (p : Pt) : Bool := heirB p b && decide (p.size ≠ (ptI b p.id).size)
set_option maxRecDepth 1000000 in
set_option maxHeartbeats 1000000 in
theorem wResized (p : Pt) (A : Option Addr) (m c : Nat) (v : CV) (b : Cf) (w : World) (hb : RdCf w w.heap.size v b) (db : Bd v) :
    Calls Try.prog 28 #[.agg #[.int .i64 p.id, .int .i64 p.base, .int .i64 p.size, .bool p.keep, .slice A m c], .agg #[.slice v.aw v.nw v.kw, .slice v.ap v.np v.kp, .slice v.ac v.nc v.kc]] w fun x w' => x = .returned (.bool (resB b p)) ∧ Below w.heap.size w w' := by
  obtain ⟨w3, hw3, hb3, hx, hy, hs3, hr⟩ := bx_two w hb 43 26 [.int .i64 p.id, .int .i64 p.base, .int .i64 p.size, .bool p.keep, .slice A m c] (cfL v)
  have R := Lib.hid hr
  have P := Lib.hid hx
  have X := Lib.hid hy
  have BW := Lib.hid hb3
  have HW := Lib.hid hw3
  have DB := Lib.hid db
  have HV : Hid (resB b p = (heirB p b && decide (p.size ≠ (ptI b p.id).size))) := rfl
  clear hb db hw3 hb3 hx hy hs3 hr
  go_enter Try.func28, Try.ntmps28
  go_upto_region 1 with (fail)
  rw [show (w.alloc (.cells #[.int .i64 p.id, .int .i64 p.base, .int .i64 p.size, .bool p.keep, .slice A m c] 43)).alloc (.cells #[.slice v.aw v.nw v.kw, .slice v.ap v.np v.kp, .slice v.ac v.nc v.kc] 26) = w3 from HW.out]
  clear HW
  obtain ⟨p0, p1, p2⟩ := cf_cells X.out
  have y0 := P.out.at (j := 0) rfl
  have y1 := P.out.at (j := 1) rfl
  have y2 := P.out.at (j := 2) rfl
  have y3 := P.out.at (j := 3) rfl
  have y4 := P.out.at (j := 4) rfl
  go_wp2_with fail
  refine (wHeir p A m c v b w3 R.out DB.out).mono ?_
  rintro e w4 ⟨q, A4, m4, c4, rfl, hq, hb4⟩
  have HQ := Lib.hid hq
  replace P := Lib.hid (P.out.to hb4)
  replace BW := Lib.hid (BW.out.trans (hb4.mono BW.out.size))
  clear hq hb4 p0 p1 p2 y0 y1 y2 y3 y4 X R
  obtain ⟨ok, hok⟩ : ∃ x, heirB p b = x := ⟨_, rfl⟩
  rw [hok] at HV HQ ⊢
  clear hok
  go_upto_region 2 with (fail)
  have Q := Lib.hid (Bx.new w4 43 [.int .i64 q.id, .int .i64 q.base, .int .i64 q.size, .bool q.keep, .slice A4 m4 c4])
  have B5 : Below w4.heap.size w4 (w4.alloc (.cells #[.int .i64 q.id, .int .i64 q.base, .int .i64 q.size, .bool q.keep, .slice A4 m4 c4] 43)) := (Below.refl _ _).alloc (Nat.le_refl _) _
  replace P := Lib.hid (P.out.to B5)
  replace BW := Lib.hid (BW.out.trans (B5.mono BW.out.size))
  generalize w4.alloc (.cells #[.int .i64 q.id, .int .i64 q.base, .int .i64 q.size, .bool q.keep, .slice A4 m4 c4] 43) = w5 at *
  generalize w4.heap.size = g at *
  clear B5 w4
  cases ok
  · have HF : Hid (false = resB b p) := by (show _ = _); rw [HV.out]; rfl
    go_wp2_with fail
    go_ret
    exact ⟨ret_bool HF.out, BW.out⟩
  · have HF : Hid ((p.size != q.size) = resB b p) := by (show _ = _); rw [HV.out, HQ.out rfl, Bool.eq_iff_iff]; simp
    have y2 := P.out.at (j := 2) rfl
    have x2 := Q.out.at (j := 2) rfl
    clear HQ HV
    go_wp2_with fail
    go_ret
    exact ⟨ret_bool HF.out, BW.out⟩
/-- Check's closure; the configuration in a box. -/
theorem pRes (v : CV) (b : Cf) (g : Nat) (w : World) (n : Nat) (l : List Pt) (h : RdCf w w.heap.size v b) (hx : Bx w g 26 (cfL v)) (db : Bd v) :
    PredP w 27 #[.pointer (some ⟨g, 0, none⟩)] n l (fun k => resB b (ptAt l k)) := fun k hk A m cc W hb hr => by
  show Calls Try.prog 27 #[.agg #[.int .i64 (ptAt l k).id, .int .i64 (ptAt l k).base, .int .i64 (ptAt l k).size, .bool (ptAt l k).keep, .slice A m cc], .pointer (some ⟨g, 0, none⟩)] W fun e w' => e = .returned (.bool (resB b (ptAt l k))) ∧ Below W.heap.size W w'
  generalize ptAt l k = p at *
  have BA := Lib.hid ((Below.refl W.heap.size W).alloc (Nat.le_refl _) (.cells #[.int .i64 p.id, .int .i64 p.base, .int .i64 p.size, .bool p.keep, .slice A m cc] 43))
  have P := Lib.hid (show Bx (W.alloc (.cells #[.int .i64 p.id, .int .i64 p.base, .int .i64 p.size, .bool p.keep, .slice A m cc] 43)) W.heap.size 43 [.int .i64 p.id, .int .i64 p.base, .int .i64 p.size, .bool p.keep, .slice A m cc] from Bx.new W _ [.int .i64 p.id, .int .i64 p.base, .int .i64 p.size, .bool p.keep, .slice A m cc])
  have R := Lib.hid ((h.to hb).to BA.out)
  have X := Lib.hid ((hx.to hb).to BA.out)
  obtain ⟨w1, hw1⟩ : ∃ x, W.alloc (.cells #[.int .i64 p.id, .int .i64 p.base, .int .i64 p.size, .bool p.keep, .slice A m cc] 43) = x := ⟨_, rfl⟩
  rw [hw1] at BA P R X
  have HW := Lib.hid hw1
  have DB := Lib.hid db
  clear h hx db hr hb hw1
  go_enter Try.func27, Try.ntmps27
  go_upto_region 1 with (fail)
  rw [HW.out]
  clear HW
  obtain ⟨p0, p1, p2⟩ := cf_cells X.out
  have y0 := P.out.at (j := 0) rfl
  have y1 := P.out.at (j := 1) rfl
  have y2 := P.out.at (j := 2) rfl
  have y3 := P.out.at (j := 3) rfl
  have y4 := P.out.at (j := 4) rfl
  go_wp2_with fail
  refine (wResized p A m cc v b w1 R.out DB.out).mono ?_
  rintro e w2 ⟨rfl, hb⟩
  replace BA := Lib.hid (BA.out.trans (hb.mono BA.out.size))
  obtain ⟨d, hd⟩ : ∃ d, resB b p = d := ⟨_, rfl⟩
  rw [hd]
  have HD := Lib.hid hd
  clear hd hb p0 p1 p2 y0 y1 y2 y3 y4
  go_wp2_with fail
  go_ret
  exact ⟨ret_bool HD.out.symm, BA.out⟩
theorem ptI_id {c : Cf} {id : Int} (h : hasP c id = true) : (ptI c id).id = id := by
  unfold ptI
  rcases idxB_cases (fun k => (ptAt c.ps k).id == id) c.ps.length with ⟨k, hk, _, hp, e⟩ | ⟨hn, e⟩
  · rw [← findP_idx] at e
    rw [e, Int.toNat_natCast]
    simpa using hp
  · rw [← findP_idx] at e
    unfold hasP at h
    rw [e] at h
    cases h
theorem keep_heir {a b : Cf} {id : Int} (h : hasP a id = true) : keepB a b id = heirB (ptI a id) b := by
  unfold keepB heirB
  rw [ptI_id h, h]
  rfl
theorem surv_mayP {a b : Cf} (hm : mayB a b = true) (id : Int) : survB a b id = (keepB a b id && sizeB a b id) := by
  unfold survB
  rw [hm]
  rfl
theorem check_any {a b : Cf} (hm : mayB a b = true) : decide (0 ≤ idxB (fun k => resB b (ptAt a.ps k)) a.ps.length) = anyN (fun j => keepB a b ((j : Int) + 1) && !sizeB a b ((j : Int) + 1)) 6 := by
  have va : Val a := val_of (by unfold mayB at hm; rw [Bool.and_eq_true] at hm; exact hm.1)
  have key : ∀ k, k < a.ps.length → resB b (ptAt a.ps k) = (keepB a b (ptAt a.ps k).id && !sizeB a b (ptAt a.ps k).id) := fun k hk => by
    rw [keep_heir (va.hasI hk)]
    unfold resB sizeB
    rw [va.ptI hk]
    simp
  rw [idx_any, Bool.eq_iff_iff, anyN_iff, anyN_iff]
  constructor
  · rintro ⟨k, hk, h⟩
    have hi := va.ids k hk
    refine ⟨((ptAt a.ps k).id - 1).toNat, by omega, ?_⟩
    rw [show (((ptAt a.ps k).id - 1).toNat : Int) + 1 = (ptAt a.ps k).id by omega, ← key k hk]
    exact h
  · rintro ⟨j, hj, h⟩
    have hh : hasP a ((j : Int) + 1) = true := by
      unfold keepB at h
      simp only [Bool.and_eq_true] at h
      exact h.1.1
    obtain ⟨i, hi, e⟩ := hasP_iff.1 hh
    refine ⟨i, hi, ?_⟩
    show resB b (ptAt a.ps i) = true
    rw [key i hi, e]
    exact h
set_option maxRecDepth 1000000 in
set_option maxHeartbeats 1000000 in
theorem wCheckC (v v' : CV) (a b : Cf) (w : World) (ha : RdCf w w.heap.size v a) (hb : RdCf w w.heap.size v' b) (da : Bd v) (db : Bd v') :
    Calls Try.prog 10 #[.agg #[.slice v.aw v.nw v.kw, .slice v.ap v.np v.kp, .slice v.ac v.nc v.kc], .agg #[.slice v'.aw v'.nw v'.kw, .slice v'.ap v'.np v'.kp, .slice v'.ac v'.nc v'.kc]] w fun x w' => x = .returned (.int .i64 (checkC a b)) ∧ Below w.heap.size w w' := by
  obtain ⟨w2, hw2, hb2, hx, hy, hr, hs⟩ := two_boxC w ha hb
  have RA := Lib.hid hr
  have RB := Lib.hid hs
  have XA := Lib.hid hx
  have XB := Lib.hid hy
  have B := Lib.hid hb2
  have HW := Lib.hid hw2
  have DA := Lib.hid da
  have DB := Lib.hid db
  have LA : Hid (a.ps.length = v.np) := ha.pp.1
  have eg : ∀ args w, (callFunc 27 args).run Try.prog w = .ok (.enter 27 args) w := enters_of Try.func27 (by kernel_rfl) rfl
  have EG := Lib.hid eg
  clear ha hb da db hw2 hb2 hx hy hr hs eg
  go_enter Try.func10, Try.ntmps10
  go_upto_region 1 with (fail)
  rw [show (w.alloc (.cells #[.slice v.aw v.nw v.kw, .slice v.ap v.np v.kp, .slice v.ac v.nc v.kc] 26)).alloc (.cells #[.slice v'.aw v'.nw v'.kw, .slice v'.ap v'.np v'.kp, .slice v'.ac v'.nc v'.kc] 26) = w2 from HW.out]
  clear HW
  obtain ⟨p0, p1, p2⟩ := cf_cells XA.out
  obtain ⟨q0, q1, q2⟩ := cf_cells XB.out
  go_wp2_with fail
  refine (wFitC v v' a b w2 RA.out RB.out DA.out DB.out).mono ?_
  rintro e w3 ⟨rfl, hb⟩
  replace RA := Lib.hid (RA.out.to hb)
  replace RB := Lib.hid (RB.out.to hb)
  replace XA := Lib.hid (XA.out.to hb)
  replace XB := Lib.hid (XB.out.to hb)
  replace B := Lib.hid (B.out.trans (hb.mono B.out.size))
  clear hb p0 p1 p2 q0 q1 q2
  obtain ⟨mm, hm⟩ : ∃ x, mayB a b = x := ⟨_, rfl⟩
  rw [hm]
  cases mm
  · have HF : Hid ((2 : Int) = checkC a b) := by (show _ = _); unfold checkC; rw [hm, if_neg (by decide)]
    clear hm
    go_wp2_with fail
    go_ret
    exact ⟨by rw [← HF.out]; rfl, B.out⟩
  have HF : Hid (checkC a b = if decide (0 ≤ idxB (fun k => resB b (ptAt a.ps k)) v.np) = true then 130 else 0) := by (show _ = _); unfold checkC; rw [if_pos hm, ← LA.out, check_any hm]
  clear hm
  obtain ⟨p0, p1, p2⟩ := cf_cells XA.out
  go_wp2_with fail
  refine (wContainsP _ _ EG.out _ v.ap v.np v.kp a.ps w3 (pRes v' b (w.heap.size + 1) w3 v.np a.ps RB.out XB.out DB.out) RA.out.pp DA.out.2.1).mono ?_
  rintro e w4 ⟨rfl, hb⟩
  replace B := Lib.hid (B.out.trans (hb.mono B.out.size))
  clear hb p0 p1 p2
  obtain ⟨d, hd⟩ : ∃ d, decide (0 ≤ idxB (fun k => resB b (ptAt a.ps k)) v.np) = d := ⟨_, rfl⟩
  rw [hd] at HF ⊢
  clear hd
  cases d
  · go_wp2_with fail
    go_ret
    exact ⟨by rw [HF.out]; rfl, B.out⟩
  · go_wp2_with fail
    go_ret
    exact ⟨by rw [HF.out]; rfl, B.out⟩
end

/- Contracts of the program's package compat: lasts, Survives; the generic selection at partitions. -/
section
open Go.RowKit
set_option linter.unusedVariables false
set_option linter.unusedSimpArgs false

noncomputable def lastsB (a b : Cf) (id : Int) : Bool := keepB a b id && sizeB a b id
set_option maxRecDepth 1000000 in
set_option maxHeartbeats 1000000 in
theorem wLasts (v v' : CV) (a b : Cf) (id : Int) (w : World) (ha : RdCf w w.heap.size v a) (hb : RdCf w w.heap.size v' b) (da : Bd v) (db : Bd v') :
    Calls Try.prog 31 #[.agg #[.slice v.aw v.nw v.kw, .slice v.ap v.np v.kp, .slice v.ac v.nc v.kc], .agg #[.slice v'.aw v'.nw v'.kw, .slice v'.ap v'.np v'.kp, .slice v'.ac v'.nc v'.kc], .int .i64 id] w fun x w' => x = .returned (.bool (lastsB a b id)) ∧ Below w.heap.size w w' := by
  obtain ⟨w2, hw2, hb2, hx, hy, hr, hs⟩ := two_boxC w ha hb
  have RA := Lib.hid hr
  have RB := Lib.hid hs
  have XA := Lib.hid hx
  have XB := Lib.hid hy
  have B := Lib.hid hb2
  have HW := Lib.hid hw2
  have DA := Lib.hid da
  have DB := Lib.hid db
  have HA : Hid (hasP a id = decide (0 ≤ findP a.ps id)) := rfl
  have HN := Lib.hid (show hasP a id = false → lastsB a b id = false from fun h => by unfold lastsB keepB; rw [h]; rfl)
  have HT := Lib.hid (show hasP a id = true → partV a id = ptI a id ∧ lastsB a b id = (heirB (ptI a id) b && decide ((ptI a id).size = (ptI b (ptI a id).id).size)) from fun h => ⟨partV_eq h, by unfold lastsB sizeB; rw [keep_heir h, ptI_id h]⟩)
  clear ha hb da db hw2 hb2 hx hy hr hs
  go_enter Try.func31, Try.ntmps31
  go_upto_region 1 with (fail)
  rw [show (w.alloc (.cells #[.slice v.aw v.nw v.kw, .slice v.ap v.np v.kp, .slice v.ac v.nc v.kc] 26)).alloc (.cells #[.slice v'.aw v'.nw v'.kw, .slice v'.ap v'.np v'.kp, .slice v'.ac v'.nc v'.kc] 26) = w2 from HW.out]
  clear HW
  obtain ⟨p0, p1, p2⟩ := cf_cells XA.out
  go_wp2_with fail
  refine (wPart v a id w2 RA.out DA.out.2.1).mono ?_
  rintro e w4 ⟨A4, m4, c4, rfl, -, -, -, hb4⟩
  replace RB := Lib.hid (RB.out.to hb4)
  replace XB := Lib.hid (XB.out.to hb4)
  replace B := Lib.hid (B.out.trans (hb4.mono B.out.size))
  rw [← HA.out]
  clear hb4 p0 p1 p2 HA RA XA
  generalize partV a id = q at *
  obtain ⟨ok, hok⟩ : ∃ x, hasP a id = x := ⟨_, rfl⟩
  rw [hok] at HN HT ⊢
  clear hok
  go_upto_region 2 with (fail)
  have Q := Lib.hid (Bx.new w4 43 [.int .i64 q.id, .int .i64 q.base, .int .i64 q.size, .bool q.keep, .slice A4 m4 c4])
  have B5 : Below w4.heap.size w4 (w4.alloc (.cells #[.int .i64 q.id, .int .i64 q.base, .int .i64 q.size, .bool q.keep, .slice A4 m4 c4] 43)) := (Below.refl _ _).alloc (Nat.le_refl _) _
  replace RB := Lib.hid (RB.out.to B5)
  replace XB := Lib.hid (XB.out.to B5)
  replace B := Lib.hid (B.out.trans (B5.mono B.out.size))
  generalize w4.alloc (.cells #[.int .i64 q.id, .int .i64 q.base, .int .i64 q.size, .bool q.keep, .slice A4 m4 c4] 43) = w5 at *
  generalize w4.heap.size = g at *
  clear B5 w4
  cases ok
  · have HF : Hid (false = lastsB a b id) := by (show _ = _); rw [HN.out rfl]
    go_wp2_with fail
    go_ret
    exact ⟨ret_bool HF.out, B.out⟩
  obtain ⟨e1, e2⟩ := HT.out rfl
  rw [← e1] at e2
  have HV := Lib.hid e2
  clear e1 e2 HN HT
  obtain ⟨q0, q1, q2⟩ := cf_cells XB.out
  have x0 := Q.out.at (j := 0) rfl
  have x1 := Q.out.at (j := 1) rfl
  have x2 := Q.out.at (j := 2) rfl
  have x3 := Q.out.at (j := 3) rfl
  have x4 := Q.out.at (j := 4) rfl
  go_wp2_with fail
  refine (wHeir q A4 m4 c4 v' b w5 RB.out DB.out).mono ?_
  rintro e w6 ⟨r, A6, m6, c6, rfl, hq, hb6⟩
  have HQ := Lib.hid hq
  replace Q := Lib.hid (Q.out.to hb6)
  replace B := Lib.hid (B.out.trans (hb6.mono B.out.size))
  clear hq hb6 q0 q1 q2 x0 x1 x2 x3 x4 XB RB
  obtain ⟨ok, hok⟩ : ∃ x, heirB q b = x := ⟨_, rfl⟩
  rw [hok] at HV HQ ⊢
  clear hok
  go_upto_region 5 with (fail)
  have R := Lib.hid (Bx.new w6 43 [.int .i64 r.id, .int .i64 r.base, .int .i64 r.size, .bool r.keep, .slice A6 m6 c6])
  have B7 : Below w6.heap.size w6 (w6.alloc (.cells #[.int .i64 r.id, .int .i64 r.base, .int .i64 r.size, .bool r.keep, .slice A6 m6 c6] 43)) := (Below.refl _ _).alloc (Nat.le_refl _) _
  replace Q := Lib.hid (Q.out.to B7)
  replace B := Lib.hid (B.out.trans (B7.mono B.out.size))
  generalize w6.alloc (.cells #[.int .i64 r.id, .int .i64 r.base, .int .i64 r.size, .bool r.keep, .slice A6 m6 c6] 43) = w7 at *
  generalize w6.heap.size = g' at *
  clear B7 w6
  cases ok
  · have HF : Hid (false = lastsB a b id) := by (show _ = _); rw [HV.out]; rfl
    go_wp2_with fail
    go_ret
    exact ⟨ret_bool HF.out, B.out⟩
  · have HF : Hid ((q.size == r.size) = lastsB a b id) := by (show _ = _); rw [HV.out, HQ.out rfl, Bool.eq_iff_iff]; simp
    have x2 := Q.out.at (j := 2) rfl
    have y2 := R.out.at (j := 2) rfl
    clear HQ HV
    go_wp2_with fail
    go_ret
    exact ⟨ret_bool HF.out, B.out⟩
set_option maxRecDepth 1000000 in
set_option maxHeartbeats 1000000 in
theorem wSurvC (v v' : CV) (a b : Cf) (id : Int) (w : World) (ha : RdCf w w.heap.size v a) (hb : RdCf w w.heap.size v' b) (da : Bd v) (db : Bd v') :
    Calls Try.prog 12 #[.agg #[.slice v.aw v.nw v.kw, .slice v.ap v.np v.kp, .slice v.ac v.nc v.kc], .agg #[.slice v'.aw v'.nw v'.kw, .slice v'.ap v'.np v'.kp, .slice v'.ac v'.nc v'.kc], .int .i64 id] w fun x w' => x = .returned (.bool (survB a b id)) ∧ Below w.heap.size w w' := by
  obtain ⟨w2, hw2, hb2, hx, hy, hr, hs⟩ := two_boxC w ha hb
  have RA := Lib.hid hr
  have RB := Lib.hid hs
  have XA := Lib.hid hx
  have XB := Lib.hid hy
  have B := Lib.hid hb2
  have HW := Lib.hid hw2
  have DA := Lib.hid da
  have DB := Lib.hid db
  have HV : Hid (survB a b id = (mayB a b && lastsB a b id)) := rfl
  clear ha hb da db hw2 hb2 hx hy hr hs
  go_enter Try.func12, Try.ntmps12
  go_upto_region 1 with (fail)
  rw [show (w.alloc (.cells #[.slice v.aw v.nw v.kw, .slice v.ap v.np v.kp, .slice v.ac v.nc v.kc] 26)).alloc (.cells #[.slice v'.aw v'.nw v'.kw, .slice v'.ap v'.np v'.kp, .slice v'.ac v'.nc v'.kc] 26) = w2 from HW.out]
  clear HW
  obtain ⟨p0, p1, p2⟩ := cf_cells XA.out
  obtain ⟨q0, q1, q2⟩ := cf_cells XB.out
  go_wp2_with fail
  refine (wFitC v v' a b w2 RA.out RB.out DA.out DB.out).mono ?_
  rintro e w3 ⟨rfl, hb⟩
  replace RA := Lib.hid (RA.out.to hb)
  replace RB := Lib.hid (RB.out.to hb)
  replace XA := Lib.hid (XA.out.to hb)
  replace XB := Lib.hid (XB.out.to hb)
  replace B := Lib.hid (B.out.trans (hb.mono B.out.size))
  clear hb p0 p1 p2 q0 q1 q2
  obtain ⟨mm, hm⟩ : ∃ x, mayB a b = x := ⟨_, rfl⟩
  rw [hm] at HV ⊢
  clear hm
  cases mm
  · have HF : Hid (false = survB a b id) := by (show _ = _); rw [HV.out]; rfl
    go_wp2_with fail
    go_ret
    exact ⟨ret_bool HF.out, B.out⟩
  have HF : Hid (lastsB a b id = survB a b id) := by (show _ = _); rw [HV.out]; rfl
  clear HV
  obtain ⟨p0, p1, p2⟩ := cf_cells XA.out
  obtain ⟨q0, q1, q2⟩ := cf_cells XB.out
  go_wp2_with fail
  refine (wLasts v v' a b id w3 RA.out RB.out DA.out DB.out).mono ?_
  rintro e w4 ⟨rfl, hb⟩
  replace B := Lib.hid (B.out.trans (hb.mono B.out.size))
  rw [HF.out]
  clear hb p0 p1 p2 q0 q1 q2
  obtain ⟨d, hd⟩ : ∃ d, survB a b id = d := ⟨_, rfl⟩
  rw [hd]
  have HD := Lib.hid hd
  clear hd HF
  go_wp2_with fail
  go_ret
  exact ⟨ret_bool HD.out.symm, B.out⟩
/-- Of the first n places, those numbers f of which g holds. -/
def selI (f : Nat → Int) (g : Nat → Bool) : Nat → List Int
  | 0 => []
  | n + 1 => selI f g n ++ (if g n = true then [f n] else [])
theorem selI_mem {f : Nat → Int} {g : Nat → Bool} : ∀ {n : Nat} {x : Int}, x ∈ selI f g n ↔ ∃ k, k < n ∧ g k = true ∧ f k = x
  | 0, x => by simp [selI]
  | n + 1, x => by
    rw [selI, List.mem_append, selI_mem]
    constructor
    · rintro (⟨k, hk, h1, h2⟩ | h)
      · exact ⟨k, by omega, h1, h2⟩
      · split at h
        · rename_i hg
          exact ⟨n, by omega, hg, (List.mem_singleton.1 h).symm⟩
        · cases h
    · rintro ⟨k, hk, h1, h2⟩
      rcases Nat.lt_or_ge k n with h | h
      · exact .inl ⟨k, h, h1, h2⟩
      · obtain rfl : k = n := by omega
        rw [if_pos h1]
        exact .inr (List.mem_singleton.2 h2.symm)
theorem selI_asc {f : Nat → Int} {g : Nat → Bool} : ∀ {n : Nat}, (∀ i j, i < j → j < n → f i < f j) → ascI (selI f g n)
  | 0, _ => List.Pairwise.nil
  | n + 1, h => by
    rw [selI]
    refine List.pairwise_append.2 ⟨selI_asc (fun i j hij hj => h i j hij (by omega)), ?_, fun x hx y hy => ?_⟩
    · split
      · exact List.pairwise_singleton _ _
      · exact List.Pairwise.nil
    · obtain ⟨k, hk, _, e⟩ := selI_mem.1 hx
      split at hy
      · obtain rfl := List.mem_singleton.1 hy
        rw [← e]
        exact h k n hk (by omega)
      · cases hy
theorem selI_len (f : Nat → Int) (g : Nat → Bool) : ∀ n, (selI f g n).length ≤ n
  | 0 => Nat.le_refl _
  | n + 1 => by
    have := selI_len f g n
    rw [selI, List.length_append]
    split <;> simp <;> omega
/-- What a function that is asked at each partition of a list hands back: a number, a bool. -/
def PickP (w : World) (g : FuncId) (lb : Array Value) (n : Nat) (l : List Pt) (f : Nat → Int) (p : Nat → Bool) : Prop :=
  ∀ k, k < n → ∀ (A : Option Addr) (m c : Nat) (W : World), Below w.heap.size w W → Calls Try.prog g (#[.agg #[.int .i64 (ptAt l k).id, .int .i64 (ptAt l k).base, .int .i64 (ptAt l k).size, .bool (ptAt l k).keep, .slice A m c]] ++ lb) W fun e w' => e = .returned (.tuple #[.int .i64 (f k), .bool (p k)]) ∧ Below W.heap.size W w'
def PickC (w : World) (g : FuncId) (lb : Array Value) (n : Nat) (l : List Ch) (f : Nat → Int) (p : Nat → Bool) : Prop :=
  ∀ k, k < n → ∀ W : World, Below w.heap.size w W → Calls Try.prog g (#[.agg #[.int .i64 (chAt l k).id, .int .i64 (chAt l k).fr, .int .i64 (chAt l k).dst, .int .i64 (chAt l k).cap, .int .i64 (chAt l k).size]] ++ lb) W fun e w' => e = .returned (.tuple #[.int .i64 (f k), .bool (p k)]) ∧ Below W.heap.size W w'
noncomputable def selM (a b : Cf) (f : Nat → Int) (g : Nat → Bool) (n : Nat) : List Int := if mayB a b = true then selI f g n else []
def SelR (f : Nat → Int) (g : Nat → Bool) (n : Nat) (w w0 : World) (s9 s20 : Value) (wr : World) : Prop :=
  ∃ k m : Nat, k ≤ n ∧ s20 = .int .i64 (k : Int) ∧ wr.ownsRow w.heap.size 3 1 s9 m ((selI f g k).map iv) ∧ Below w.heap.size w wr ∧ Below w0.heap.size w0 wr
theorem intsC : ZT Try.prog 34 3 := ⟨Try.underlying34, by kernel_rfl⟩
set_option maxRecDepth 1000000 in
set_option maxHeartbeats 1000000 in
theorem wSelP (fn : FuncId) (lb : Array Value) (eg : ∀ args w, (callFunc fn args).run Try.prog w = .ok (.enter fn args) w) (f : Nat → Int) (g : Nat → Bool) (v v' : CV) (a b : Cf) (A : Option Addr) (n c : Nat) (l : List Pt) (w : World)
    (ha : RdCf w w.heap.size v a) (hb : RdCf w w.heap.size v' b) (da : Bd v) (db : Bd v') (hp : PickP w fn lb n l f g) (h : RdP w w.heap.size A n l) (hn : n ≤ 1000) :
    Calls Try.prog 32 #[.agg #[.slice v.aw v.nw v.kw, .slice v.ap v.np v.kp, .slice v.ac v.nc v.kc], .agg #[.slice v'.aw v'.nw v'.kw, .slice v'.ap v'.np v'.kp, .slice v'.ac v'.nc v'.kc], .slice A n c, .func (.func fn) #[] lb] w (RetZ 3 w (selM a b f g n)) := by
  obtain ⟨w2, hw2, hb2, hx, hy, hr, hs⟩ := two_boxC w ha hb
  have RA := Lib.hid hr
  have RB := Lib.hid hs
  have XA := Lib.hid hx
  have XB := Lib.hid hy
  have B := Lib.hid hb2
  have B0 := Lib.hid hb2
  have HW := Lib.hid hw2
  have DA := Lib.hid da
  have DB := Lib.hid db
  have HP := Lib.hid hp
  have L := Lib.hid h
  have HN := Lib.hid hn
  have HV : Hid (selM a b f g n = if mayB a b = true then selI f g n else []) := rfl
  clear ha hb da db hw2 hb2 hx hy hr hs hp h hn
  go_enter Try.func32, Try.ntmps32
  go_upto_region 1 with (fail)
  rw [show (w.alloc (.cells #[.slice v.aw v.nw v.kw, .slice v.ap v.np v.kp, .slice v.ac v.nc v.kc] 26)).alloc (.cells #[.slice v'.aw v'.nw v'.kw, .slice v'.ap v'.np v'.kp, .slice v'.ac v'.nc v'.kc] 26) = w2 from HW.out]
  clear HW
  obtain ⟨p0, p1, p2⟩ := cf_cells XA.out
  obtain ⟨q0, q1, q2⟩ := cf_cells XB.out
  go_wp2_with fail
  refine (wFitC v v' a b w2 RA.out RB.out DA.out DB.out).mono ?_
  rintro e w3 ⟨rfl, hb⟩
  replace B := Lib.hid (B.out.trans (hb.mono B.out.size))
  clear hb p0 p1 p2 q0 q1 q2
  obtain ⟨mm, hm⟩ : ∃ x, mayB a b = x := ⟨_, rfl⟩
  rw [hm] at HV ⊢
  clear hm
  cases mm
  · have HF : Hid (selM a b f g n = []) := by (show _ = _); rw [HV.out, if_neg (by decide)]
    clear HV
    go_wp2_with fail
    go_ret
    refine ⟨none, 0, 0, rfl, ?_, B.out⟩
    rw [HF.out]
    exact ⟨rfl, .inl ⟨rfl, rfl⟩⟩
  replace HV : Hid (selM a b f g n = selI f g n) := by (show _ = _); rw [HV.out, if_pos rfl]
  clear RA RB XA XB B0
  go_wp2_with fail
  go_loopw [9, 11, 12, 13, 20] (fun s9 _ _ _ s20 wr => SelR f g n w w s9 s20 wr) (fun _ _ _ _ s20 _ => n - (intOf s20).toNat)
  case atStart => exact ⟨0, 0, Nat.zero_le _, rfl, ⟨rfl, .inl ⟨rfl, rfl⟩⟩, B.out, B.out⟩
  case round =>
    obtain ⟨k, m, hk, rfl, hown, hb, -⟩ := hrel
    replace B := Lib.hid hb
    have OWN := Lib.hid hown
    clear hb hown
    by_cases hlt : k < n
    · have hltI : (k : Int) < (n : Int) := by omega
      have hwk : IntKind.i64.wrap ((k : Int) + 1) = (k : Int) + 1 := by have := HN.out; rw [IntKind.wrap_i64]; omega
      have HLT : Hid (k < n) := hlt
      obtain ⟨bb, o, A', m', c', hA, z0, z1, z2, z3, z4, -⟩ := (L.out.to B.out).at_ hlt
      rw [hA]
      clear hk hlt
      go_upto_region 7 with (fail)
      have PX := Lib.hid (Bx.new wr 43 [.int .i64 (ptAt l k).id, .int .i64 (ptAt l k).base, .int .i64 (ptAt l k).size, .bool (ptAt l k).keep, .slice A' m' c'])
      replace OWN := Lib.hid (OWN.out.alloc (.cells #[.int .i64 (ptAt l k).id, .int .i64 (ptAt l k).base, .int .i64 (ptAt l k).size, .bool (ptAt l k).keep, .slice A' m' c'] 43))
      replace B := Lib.hid (B.out.alloc B.out.size (.cells #[.int .i64 (ptAt l k).id, .int .i64 (ptAt l k).base, .int .i64 (ptAt l k).size, .bool (ptAt l k).keep, .slice A' m' c'] 43))
      clear z0 z1 z2 z3 z4
      generalize wr.alloc (.cells #[.int .i64 (ptAt l k).id, .int .i64 (ptAt l k).base, .int .i64 (ptAt l k).size, .bool (ptAt l k).keep, .slice A' m' c'] 43) = wb at *
      generalize wr.heap.size = gb at *
      clear wr
      have x0 := PX.out.at (j := 0) rfl
      have x1 := PX.out.at (j := 1) rfl
      have x2 := PX.out.at (j := 2) rfl
      have x3 := PX.out.at (j := 3) rfl
      have x4 := PX.out.at (j := 4) rfl
      go_wp2_with fail
      refine (HP.out k HLT.out A' m' c' wb B.out).mono ?_
      rintro e w5 ⟨rfl, hb⟩
      replace OWN := Lib.hid (own_below OWN.out hb)
      replace B := Lib.hid (B.out.trans (hb.mono B.out.size))
      clear hb x0 x1 x2 x3 x4 PX wb
      have HS := Lib.hid (show selI f g (k + 1) = selI f g k ++ (if g k = true then [f k] else []) from rfl)
      have HM : Hid (m + 1 ≤ 17592186044416) := by
        show _ ≤ _
        have h1 := selI_len f g k
        have h2 := OWN.out.1
        have h3 := HN.out
        have h4 := HLT.out
        rw [List.length_map] at h2
        omega
      obtain ⟨fk, hf⟩ : ∃ x, f k = x := ⟨_, rfl⟩
      obtain ⟨gk, hg⟩ : ∃ x, g k = x := ⟨_, rfl⟩
      rw [hf, hg] at HS ⊢
      clear hf hg
      cases gk
      · go_wp2_with fail
        go_roundw
        case rel => exact ⟨k + 1, m, HLT.out, by go_num, by rw [HS.out, if_neg (by decide), List.append_nil]; exact OWN.out, B.out, B.out⟩
        case measure => have := HLT.out; simp [intOf]; omega
      · go_wp2_with (at_builtin; refine wpList_pushZ intsC rfl (.tmp 31) (.tmp 33) rfl rfl rfl OWN.out B.out B.out.size HM.out ?_; intro v' w2 hown2 hb2 hs2)
        go_roundw
        case rel => exact ⟨k + 1, m + 1, HLT.out, by go_num, by rw [HS.out, if_pos trivial]; exact hown2, hb2, hb2⟩
        case measure => have := HLT.out; simp [intOf]; omega
    · obtain rfl : k = n := by omega
      have hltI : ¬ (k : Int) < (k : Int) := by omega
      clear hk hlt
      go_wp2_with fail
      go_ret
      refine RetZ.mk (n := m) ?_ B.out
      rw [HV.out]
      exact OWN.out
end

/- Contracts of the program's package compat: Parts, Leaving, and their closures. -/
section
open Go.RowKit
set_option linter.unusedVariables false
set_option linter.unusedSimpArgs false

theorem res_twoC {fn : Func} {p q : Tmp} (h : fn.results = #[.tmp p, .tmp q]) (tmps : Array Value) (w : World) (u v : Value) (hp : tmps.getD p undef = u) (hq : tmps.getD q undef = v) : (results fn tmps).run Try.prog w = .ok (.tuple #[u, v]) w := by
  have hp' : tmps[p]?.getD undef = u := by simpa using hp
  have hq' : tmps[q]?.getD undef = v := by simpa using hq
  simp [results, h, hp', hq']
theorem parts_sel {a b : Cf} {n : Nat} (hl : a.ps.length = n) (lv : Bool) : selM a b (fun k => (ptAt a.ps k).id) (fun k => lastsB a b (ptAt a.ps k).id != lv) n = partsC a b lv := by
  subst hl
  unfold selM partsC
  cases hm : mayB a b
  · rw [if_neg (by decide)]
    exact (listTo_none fun k _ => by unfold partB; rw [hm]; rfl).symm
  · rw [if_pos rfl]
    have va : Val a := val_of (by unfold mayB at hm; rw [Bool.and_eq_true] at hm; exact hm.1)
    refine asc_ext (selI_asc fun i j hij hj => va.lt hij hj) (listTo_asc _ _) fun x => ?_
    rw [selI_mem, listTo_mem]
    unfold partB
    rw [hm, surv_mayP hm x]
    show (∃ k, k < a.ps.length ∧ ((lastsB a b (ptAt a.ps k).id != lv) = true) ∧ (ptAt a.ps k).id = x) ↔ 1 ≤ x ∧ x ≤ ((6 : Nat) : Int) ∧ (true && (hasP a x && (lastsB a b x != lv))) = true
    rw [Bool.true_and, Bool.and_eq_true]
    constructor
    · rintro ⟨k, hk, h1, rfl⟩
      have := va.ids k hk
      exact ⟨this.1, this.2, va.hasI hk, h1⟩
    · rintro ⟨_, _, h1, h2⟩
      obtain ⟨i, hi, e⟩ := hasP_iff.1 h1
      exact ⟨i, hi, by rw [e]; exact h2, e⟩
/-- Parts' closure; the configurations in boxes. -/
theorem pPartsC (v v' : CV) (a b : Cf) (g g' : Nat) (w : World) (n : Nat) (l : List Pt) (ha : RdCf w w.heap.size v a) (hb : RdCf w w.heap.size v' b) (da : Bd v) (db : Bd v') (hx : Bx w g 26 (cfL v)) (hy : Bx w g' 26 (cfL v')) :
    PickP w 33 #[.pointer (some ⟨g, 0, none⟩), .pointer (some ⟨g', 0, none⟩)] n l (fun k => (ptAt l k).id) (fun k => lastsB a b (ptAt l k).id != false) := fun k hk A m cc W hw => by
  show Calls Try.prog 33 #[.agg #[.int .i64 (ptAt l k).id, .int .i64 (ptAt l k).base, .int .i64 (ptAt l k).size, .bool (ptAt l k).keep, .slice A m cc], .pointer (some ⟨g, 0, none⟩), .pointer (some ⟨g', 0, none⟩)] W fun e w' => e = .returned (.tuple #[.int .i64 (ptAt l k).id, .bool (lastsB a b (ptAt l k).id != false)]) ∧ Below W.heap.size W w'
  generalize ptAt l k = p at *
  have BA := Lib.hid ((Below.refl W.heap.size W).alloc (Nat.le_refl _) (.cells #[.int .i64 p.id, .int .i64 p.base, .int .i64 p.size, .bool p.keep, .slice A m cc] 43))
  have P := Lib.hid (show Bx (W.alloc (.cells #[.int .i64 p.id, .int .i64 p.base, .int .i64 p.size, .bool p.keep, .slice A m cc] 43)) W.heap.size 43 [.int .i64 p.id, .int .i64 p.base, .int .i64 p.size, .bool p.keep, .slice A m cc] from Bx.new W _ [.int .i64 p.id, .int .i64 p.base, .int .i64 p.size, .bool p.keep, .slice A m cc])
  have RA := Lib.hid ((ha.to hw).to BA.out)
  have RB := Lib.hid ((hb.to hw).to BA.out)
  have XA := Lib.hid ((hx.to hw).to BA.out)
  have XB := Lib.hid ((hy.to hw).to BA.out)
  obtain ⟨w1, hw1⟩ : ∃ x, W.alloc (.cells #[.int .i64 p.id, .int .i64 p.base, .int .i64 p.size, .bool p.keep, .slice A m cc] 43) = x := ⟨_, rfl⟩
  rw [hw1] at BA P RA RB XA XB
  have HW := Lib.hid hw1
  have DA := Lib.hid da
  have DB := Lib.hid db
  clear ha hb hx hy da db hw hw1
  go_enter Try.func33, Try.ntmps33
  go_upto_region 1 with (fail)
  rw [HW.out]
  clear HW
  obtain ⟨wd, hwd⟩ : ∃ x, w1.drew = x := ⟨_, rfl⟩
  have BS : Hid (Below w1.heap.size w1 wd) := by (show Below _ _ _); rw [← hwd]; exact (Below.refl _ _).drew
  refine wp_region_held_drew (S := (fun w' => Below w1.heap.size w1 w')) (by kernel_rfl) ((Below.refl _ _).drew) (fun hHeld => ?_)
  rw [hwd] at hHeld ⊢
  clear hwd hHeld
  refine wpAnyH_take (i := 0) (v := ?_) rfl (by kernel_rfl) (by kernel_rfl) (by kernel_rfl) (fun _ _ _ h => h) (Or.inl ⟨by rfl, ?_⟩) (by assumption) ?_
  rotate_left 1
  · intro w hSw; (try dsimp only at hSw); go_simp; (try with_reducible rfl)
  simp only [Act.put, List.getElem_toArray, List.getElem_cons_zero, List.getElem_cons_succ, List.setIfInBounds_toArray, List.set_cons_zero, List.set_cons_succ]
  refine wpAnyH_take (i := 1) (v := ?_) rfl (by kernel_rfl) (by kernel_rfl) (by kernel_rfl) (fun _ _ _ h => h) (Or.inl ⟨by rfl, ?_⟩) (by assumption) ?_
  rotate_left 1
  · intro w hSw; (try dsimp only at hSw); have t := (P.out.to hSw).at (j := 0) rfl; go_simp; (try with_reducible rfl)
  simp only [Act.put, List.getElem_toArray, List.getElem_cons_zero, List.getElem_cons_succ, List.setIfInBounds_toArray, List.set_cons_zero, List.set_cons_succ]
  refine wpAnyH_take (i := 2) (v := ?_) rfl (by kernel_rfl) (by kernel_rfl) (by kernel_rfl) (fun _ _ _ h => h) (Or.inl ⟨by rfl, ?_⟩) (by assumption) ?_
  rotate_left 1
  · intro w hSw; (try dsimp only at hSw); have t := cf_cells (XA.out.to hSw); obtain ⟨t0, t1, t2⟩ := t; go_simp; (try with_reducible rfl)
  simp only [Act.put, List.getElem_toArray, List.getElem_cons_zero, List.getElem_cons_succ, List.setIfInBounds_toArray, List.set_cons_zero, List.set_cons_succ]
  refine wpAnyH_take (i := 3) (v := ?_) rfl (by kernel_rfl) (by kernel_rfl) (by kernel_rfl) (fun _ _ _ h => h) (Or.inl ⟨by rfl, ?_⟩) (by assumption) ?_
  rotate_left 1
  · intro w hSw; (try dsimp only at hSw); have t := cf_cells (XB.out.to hSw); obtain ⟨t0, t1, t2⟩ := t; go_simp; (try with_reducible rfl)
  simp only [Act.put, List.getElem_toArray, List.getElem_cons_zero, List.getElem_cons_succ, List.setIfInBounds_toArray, List.set_cons_zero, List.set_cons_succ]
  refine wpAnyH_take (i := 4) (v := ?_) rfl (by kernel_rfl) (by kernel_rfl) (by kernel_rfl) (fun _ _ _ h => h) (Or.inl ⟨by rfl, ?_⟩) (by assumption) ?_
  rotate_left 1
  · intro w hSw; (try dsimp only at hSw); go_simp; (try with_reducible rfl)
  simp only [Act.put, List.getElem_toArray, List.getElem_cons_zero, List.getElem_cons_succ, List.setIfInBounds_toArray, List.set_cons_zero, List.set_cons_succ]
  refine wpAnyH_take (i := 5) (v := ?_) rfl (by kernel_rfl) (by kernel_rfl) (by kernel_rfl) (fun _ _ _ h => h) (Or.inl ⟨by rfl, ?_⟩) (by assumption) ?_
  rotate_left 1
  · intro w hSw; (try dsimp only at hSw); have t := (P.out.to hSw).at (j := 0) rfl; go_simp; (try with_reducible rfl)
  simp only [Act.put, List.getElem_toArray, List.getElem_cons_zero, List.getElem_cons_succ, List.setIfInBounds_toArray, List.set_cons_zero, List.set_cons_succ]
  refine wpAnyH_ready (rs := [6]) (by kernel_rfl) (by simp) ?_
  refine AllReadyH.cons rfl (fun K hK => ?_) AllReadyH.nil
  go_simp
  refine (wLasts v v' a b p.id wd (RA.out.to BS.out) (RB.out.to BS.out) DA.out DB.out).mono ?_
  rintro e w5 ⟨rfl, hb⟩
  replace BS := Lib.hid (BS.out.trans (hb.mono BS.out.size))
  clear hb
  go_wp2_with fail
  refine hK.out _ _ (BS.out) (fun hHeld => ?_)
  clear hK K
  refine wpAnyH_take (i := 7) (v := ?_) rfl (by kernel_rfl) (by kernel_rfl) (by kernel_rfl) (fun _ _ _ h => h) (Or.inl ⟨by rfl, ?_⟩) (by assumption) ?_
  rotate_left 1
  · intro w hSw; (try dsimp only at hSw); go_simp; (try with_reducible rfl)
  simp only [Act.put, List.getElem_toArray, List.getElem_cons_zero, List.getElem_cons_succ, List.setIfInBounds_toArray, List.set_cons_zero, List.set_cons_succ]
  refine wpAnyH_take (i := 8) (v := ?_) rfl (by kernel_rfl) (by kernel_rfl) (by kernel_rfl) (fun _ _ _ h => h) (Or.inl ⟨by rfl, ?_⟩) (by assumption) ?_
  rotate_left 1
  · intro w hSw; (try dsimp only at hSw); go_simp; (try with_reducible rfl)
  simp only [Act.put, List.getElem_toArray, List.getElem_cons_zero, List.getElem_cons_succ, List.setIfInBounds_toArray, List.set_cons_zero, List.set_cons_succ]
  refine wpAnyH_done (by kernel_rfl) ?_ _
  clear hHeld
  obtain ⟨d, hd⟩ : ∃ d, lastsB a b p.id = d := ⟨_, rfl⟩
  have HD := Lib.hid hd
  rw [hd]
  clear hd
  go_wp2_with fail
  refine bodyPost_ret (res_twoC rfl _ _ (.int .i64 p.id) (.bool d) rfl rfl) rfl ?_
  exact ⟨by rw [HD.out]; cases d <;> rfl, BA.out.trans (BS.out.mono BA.out.size)⟩
/-- Leaving's closure; the configurations in boxes. -/
theorem pLeavC (v v' : CV) (a b : Cf) (g g' : Nat) (w : World) (n : Nat) (l : List Pt) (ha : RdCf w w.heap.size v a) (hb : RdCf w w.heap.size v' b) (da : Bd v) (db : Bd v') (hx : Bx w g 26 (cfL v)) (hy : Bx w g' 26 (cfL v')) :
    PickP w 40 #[.pointer (some ⟨g, 0, none⟩), .pointer (some ⟨g', 0, none⟩)] n l (fun k => (ptAt l k).id) (fun k => lastsB a b (ptAt l k).id != true) := fun k hk A m cc W hw => by
  show Calls Try.prog 40 #[.agg #[.int .i64 (ptAt l k).id, .int .i64 (ptAt l k).base, .int .i64 (ptAt l k).size, .bool (ptAt l k).keep, .slice A m cc], .pointer (some ⟨g, 0, none⟩), .pointer (some ⟨g', 0, none⟩)] W fun e w' => e = .returned (.tuple #[.int .i64 (ptAt l k).id, .bool (lastsB a b (ptAt l k).id != true)]) ∧ Below W.heap.size W w'
  generalize ptAt l k = p at *
  have BA := Lib.hid ((Below.refl W.heap.size W).alloc (Nat.le_refl _) (.cells #[.int .i64 p.id, .int .i64 p.base, .int .i64 p.size, .bool p.keep, .slice A m cc] 43))
  have P := Lib.hid (show Bx (W.alloc (.cells #[.int .i64 p.id, .int .i64 p.base, .int .i64 p.size, .bool p.keep, .slice A m cc] 43)) W.heap.size 43 [.int .i64 p.id, .int .i64 p.base, .int .i64 p.size, .bool p.keep, .slice A m cc] from Bx.new W _ [.int .i64 p.id, .int .i64 p.base, .int .i64 p.size, .bool p.keep, .slice A m cc])
  have RA := Lib.hid ((ha.to hw).to BA.out)
  have RB := Lib.hid ((hb.to hw).to BA.out)
  have XA := Lib.hid ((hx.to hw).to BA.out)
  have XB := Lib.hid ((hy.to hw).to BA.out)
  obtain ⟨w1, hw1⟩ : ∃ x, W.alloc (.cells #[.int .i64 p.id, .int .i64 p.base, .int .i64 p.size, .bool p.keep, .slice A m cc] 43) = x := ⟨_, rfl⟩
  rw [hw1] at BA P RA RB XA XB
  have HW := Lib.hid hw1
  have DA := Lib.hid da
  have DB := Lib.hid db
  clear ha hb hx hy da db hw hw1
  go_enter Try.func40, Try.ntmps40
  go_upto_region 1 with (fail)
  rw [HW.out]
  clear HW
  obtain ⟨wd, hwd⟩ : ∃ x, w1.drew = x := ⟨_, rfl⟩
  have BS : Hid (Below w1.heap.size w1 wd) := by (show Below _ _ _); rw [← hwd]; exact (Below.refl _ _).drew
  refine wp_region_held_drew (S := (fun w' => Below w1.heap.size w1 w')) (by kernel_rfl) ((Below.refl _ _).drew) (fun hHeld => ?_)
  rw [hwd] at hHeld ⊢
  clear hwd hHeld
  refine wpAnyH_take (i := 0) (v := ?_) rfl (by kernel_rfl) (by kernel_rfl) (by kernel_rfl) (fun _ _ _ h => h) (Or.inl ⟨by rfl, ?_⟩) (by assumption) ?_
  rotate_left 1
  · intro w hSw; (try dsimp only at hSw); go_simp; (try with_reducible rfl)
  simp only [Act.put, List.getElem_toArray, List.getElem_cons_zero, List.getElem_cons_succ, List.setIfInBounds_toArray, List.set_cons_zero, List.set_cons_succ]
  refine wpAnyH_take (i := 1) (v := ?_) rfl (by kernel_rfl) (by kernel_rfl) (by kernel_rfl) (fun _ _ _ h => h) (Or.inl ⟨by rfl, ?_⟩) (by assumption) ?_
  rotate_left 1
  · intro w hSw; (try dsimp only at hSw); have t := (P.out.to hSw).at (j := 0) rfl; go_simp; (try with_reducible rfl)
  simp only [Act.put, List.getElem_toArray, List.getElem_cons_zero, List.getElem_cons_succ, List.setIfInBounds_toArray, List.set_cons_zero, List.set_cons_succ]
  refine wpAnyH_take (i := 2) (v := ?_) rfl (by kernel_rfl) (by kernel_rfl) (by kernel_rfl) (fun _ _ _ h => h) (Or.inl ⟨by rfl, ?_⟩) (by assumption) ?_
  rotate_left 1
  · intro w hSw; (try dsimp only at hSw); have t := cf_cells (XA.out.to hSw); obtain ⟨t0, t1, t2⟩ := t; go_simp; (try with_reducible rfl)
  simp only [Act.put, List.getElem_toArray, List.getElem_cons_zero, List.getElem_cons_succ, List.setIfInBounds_toArray, List.set_cons_zero, List.set_cons_succ]
  refine wpAnyH_take (i := 3) (v := ?_) rfl (by kernel_rfl) (by kernel_rfl) (by kernel_rfl) (fun _ _ _ h => h) (Or.inl ⟨by rfl, ?_⟩) (by assumption) ?_
  rotate_left 1
  · intro w hSw; (try dsimp only at hSw); have t := cf_cells (XB.out.to hSw); obtain ⟨t0, t1, t2⟩ := t; go_simp; (try with_reducible rfl)
  simp only [Act.put, List.getElem_toArray, List.getElem_cons_zero, List.getElem_cons_succ, List.setIfInBounds_toArray, List.set_cons_zero, List.set_cons_succ]
  refine wpAnyH_take (i := 4) (v := ?_) rfl (by kernel_rfl) (by kernel_rfl) (by kernel_rfl) (fun _ _ _ h => h) (Or.inl ⟨by rfl, ?_⟩) (by assumption) ?_
  rotate_left 1
  · intro w hSw; (try dsimp only at hSw); go_simp; (try with_reducible rfl)
  simp only [Act.put, List.getElem_toArray, List.getElem_cons_zero, List.getElem_cons_succ, List.setIfInBounds_toArray, List.set_cons_zero, List.set_cons_succ]
  refine wpAnyH_take (i := 5) (v := ?_) rfl (by kernel_rfl) (by kernel_rfl) (by kernel_rfl) (fun _ _ _ h => h) (Or.inl ⟨by rfl, ?_⟩) (by assumption) ?_
  rotate_left 1
  · intro w hSw; (try dsimp only at hSw); have t := (P.out.to hSw).at (j := 0) rfl; go_simp; (try with_reducible rfl)
  simp only [Act.put, List.getElem_toArray, List.getElem_cons_zero, List.getElem_cons_succ, List.setIfInBounds_toArray, List.set_cons_zero, List.set_cons_succ]
  refine wpAnyH_ready (rs := [6]) (by kernel_rfl) (by simp) ?_
  refine AllReadyH.cons rfl (fun K hK => ?_) AllReadyH.nil
  go_simp
  refine (wLasts v v' a b p.id wd (RA.out.to BS.out) (RB.out.to BS.out) DA.out DB.out).mono ?_
  rintro e w5 ⟨rfl, hb⟩
  replace BS := Lib.hid (BS.out.trans (hb.mono BS.out.size))
  clear hb
  go_wp2_with fail
  refine hK.out _ _ (BS.out) (fun hHeld => ?_)
  clear hK K
  refine wpAnyH_take (i := 7) (v := ?_) rfl (by kernel_rfl) (by kernel_rfl) (by kernel_rfl) (fun _ _ _ h => h) (Or.inl ⟨by rfl, ?_⟩) (by assumption) ?_
  rotate_left 1
  · intro w hSw; (try dsimp only at hSw); go_simp; (try with_reducible rfl)
  simp only [Act.put, List.getElem_toArray, List.getElem_cons_zero, List.getElem_cons_succ, List.setIfInBounds_toArray, List.set_cons_zero, List.set_cons_succ]
  refine wpAnyH_take (i := 8) (v := ?_) rfl (by kernel_rfl) (by kernel_rfl) (by kernel_rfl) (fun _ _ _ h => h) (Or.inl ⟨by rfl, ?_⟩) (by assumption) ?_
  rotate_left 1
  · intro w hSw; (try dsimp only at hSw); go_simp; (try with_reducible rfl)
  simp only [Act.put, List.getElem_toArray, List.getElem_cons_zero, List.getElem_cons_succ, List.setIfInBounds_toArray, List.set_cons_zero, List.set_cons_succ]
  refine wpAnyH_take (i := 9) (v := ?_) rfl (by kernel_rfl) (by kernel_rfl) (by kernel_rfl) (fun _ _ _ h => h) (Or.inl ⟨by rfl, ?_⟩) (by assumption) ?_
  rotate_left 1
  · intro w hSw; (try dsimp only at hSw); go_simp; (try with_reducible rfl)
  simp only [Act.put, List.getElem_toArray, List.getElem_cons_zero, List.getElem_cons_succ, List.setIfInBounds_toArray, List.set_cons_zero, List.set_cons_succ]
  refine wpAnyH_done (by kernel_rfl) ?_ _
  clear hHeld
  obtain ⟨d, hd⟩ : ∃ d, lastsB a b p.id = d := ⟨_, rfl⟩
  have HD := Lib.hid hd
  rw [hd]
  clear hd
  go_wp2_with fail
  refine bodyPost_ret (res_twoC rfl _ _ (.int .i64 p.id) (.bool (!d)) rfl rfl) rfl ?_
  exact ⟨by rw [HD.out]; cases d <;> rfl, BA.out.trans (BS.out.mono BA.out.size)⟩
set_option maxRecDepth 1000000 in
set_option maxHeartbeats 1000000 in
theorem wPartsC (v v' : CV) (a b : Cf) (w : World) (ha : RdCf w w.heap.size v a) (hb : RdCf w w.heap.size v' b) (da : Bd v) (db : Bd v') :
    Calls Try.prog 15 #[.agg #[.slice v.aw v.nw v.kw, .slice v.ap v.np v.kp, .slice v.ac v.nc v.kc], .agg #[.slice v'.aw v'.nw v'.kw, .slice v'.ap v'.np v'.kp, .slice v'.ac v'.nc v'.kc]] w fun x w' => ∃ A n k, x = .returned (.slice A n k) ∧ RdZ w' w'.heap.size A n (partsC a b false) ∧ Below w.heap.size w w' := by
  obtain ⟨w2, hw2, hb2, hx, hy, hr, hs⟩ := two_boxC w ha hb
  have RA := Lib.hid hr
  have RB := Lib.hid hs
  have XA := Lib.hid hx
  have XB := Lib.hid hy
  have B := Lib.hid hb2
  have HW := Lib.hid hw2
  have DA := Lib.hid da
  have DB := Lib.hid db
  have HF := Lib.hid (parts_sel (a := a) (b := b) (n := v.np) ha.pp.1 false)
  have eg : ∀ args w, (callFunc 33 args).run Try.prog w = .ok (.enter 33 args) w := enters_of Try.func33 (by kernel_rfl) rfl
  have EG := Lib.hid eg
  clear ha hb da db hw2 hb2 hx hy hr hs eg
  go_enter Try.func15, Try.ntmps15
  go_upto_region 1 with (fail)
  rw [show (w.alloc (.cells #[.slice v.aw v.nw v.kw, .slice v.ap v.np v.kp, .slice v.ac v.nc v.kc] 26)).alloc (.cells #[.slice v'.aw v'.nw v'.kw, .slice v'.ap v'.np v'.kp, .slice v'.ac v'.nc v'.kc] 26) = w2 from HW.out]
  clear HW
  obtain ⟨p0, p1, p2⟩ := cf_cells XA.out
  obtain ⟨q0, q1, q2⟩ := cf_cells XB.out
  go_wp2_with fail
  refine (wSelP _ _ EG.out _ _ v v' a b v.ap v.np v.kp a.ps w2 RA.out RB.out DA.out DB.out (pPartsC v v' a b w.heap.size (w.heap.size + 1) w2 v.np a.ps RA.out RB.out DA.out DB.out XA.out XB.out) RA.out.pp DA.out.2.1).mono ?_
  rintro e w3 ⟨A, n, c, rfl, ho, hb⟩
  rw [HF.out] at ho
  have Z := Lib.hid (RdZ.of_own ho)
  replace B := Lib.hid (B.out.trans (hb.mono B.out.size))
  clear ho hb p0 p1 p2 q0 q1 q2
  go_wp2_with fail
  go_ret
  exact ⟨A, n, c, rfl, Z.out, B.out⟩
set_option maxRecDepth 1000000 in
set_option maxHeartbeats 1000000 in
theorem wLeavC (v v' : CV) (a b : Cf) (w : World) (ha : RdCf w w.heap.size v a) (hb : RdCf w w.heap.size v' b) (da : Bd v) (db : Bd v') :
    Calls Try.prog 21 #[.agg #[.slice v.aw v.nw v.kw, .slice v.ap v.np v.kp, .slice v.ac v.nc v.kc], .agg #[.slice v'.aw v'.nw v'.kw, .slice v'.ap v'.np v'.kp, .slice v'.ac v'.nc v'.kc]] w fun x w' => ∃ A n k, x = .returned (.slice A n k) ∧ RdZ w' w'.heap.size A n (partsC a b true) ∧ Below w.heap.size w w' := by
  obtain ⟨w2, hw2, hb2, hx, hy, hr, hs⟩ := two_boxC w ha hb
  have RA := Lib.hid hr
  have RB := Lib.hid hs
  have XA := Lib.hid hx
  have XB := Lib.hid hy
  have B := Lib.hid hb2
  have HW := Lib.hid hw2
  have DA := Lib.hid da
  have DB := Lib.hid db
  have HF := Lib.hid (parts_sel (a := a) (b := b) (n := v.np) ha.pp.1 true)
  have eg : ∀ args w, (callFunc 40 args).run Try.prog w = .ok (.enter 40 args) w := enters_of Try.func40 (by kernel_rfl) rfl
  have EG := Lib.hid eg
  clear ha hb da db hw2 hb2 hx hy hr hs eg
  go_enter Try.func21, Try.ntmps21
  go_upto_region 1 with (fail)
  rw [show (w.alloc (.cells #[.slice v.aw v.nw v.kw, .slice v.ap v.np v.kp, .slice v.ac v.nc v.kc] 26)).alloc (.cells #[.slice v'.aw v'.nw v'.kw, .slice v'.ap v'.np v'.kp, .slice v'.ac v'.nc v'.kc] 26) = w2 from HW.out]
  clear HW
  obtain ⟨p0, p1, p2⟩ := cf_cells XA.out
  obtain ⟨q0, q1, q2⟩ := cf_cells XB.out
  go_wp2_with fail
  refine (wSelP _ _ EG.out _ _ v v' a b v.ap v.np v.kp a.ps w2 RA.out RB.out DA.out DB.out (pLeavC v v' a b w.heap.size (w.heap.size + 1) w2 v.np a.ps RA.out RB.out DA.out DB.out XA.out XB.out) RA.out.pp DA.out.2.1).mono ?_
  rintro e w3 ⟨A, n, c, rfl, ho, hb⟩
  rw [HF.out] at ho
  have Z := Lib.hid (RdZ.of_own ho)
  replace B := Lib.hid (B.out.trans (hb.mono B.out.size))
  clear ho hb p0 p1 p2 q0 q1 q2
  go_wp2_with fail
  go_ret
  exact ⟨A, n, c, rfl, Z.out, B.out⟩
end

/- Contracts of the program's package compat: the generic selection at channels; Channels, and its closure. -/
section
open Go.RowKit
set_option linter.unusedVariables false
set_option linter.unusedSimpArgs false

set_option maxRecDepth 1000000 in
set_option maxHeartbeats 1000000 in
theorem wSelC (fn : FuncId) (lb : Array Value) (eg : ∀ args w, (callFunc fn args).run Try.prog w = .ok (.enter fn args) w) (f : Nat → Int) (g : Nat → Bool) (v v' : CV) (a b : Cf) (A : Option Addr) (n c : Nat) (l : List Ch) (w : World)
    (ha : RdCf w w.heap.size v a) (hb : RdCf w w.heap.size v' b) (da : Bd v) (db : Bd v') (hp : PickC w fn lb n l f g) (h : RdC w w.heap.size A n l) (hn : n ≤ 1000) :
    Calls Try.prog 37 #[.agg #[.slice v.aw v.nw v.kw, .slice v.ap v.np v.kp, .slice v.ac v.nc v.kc], .agg #[.slice v'.aw v'.nw v'.kw, .slice v'.ap v'.np v'.kp, .slice v'.ac v'.nc v'.kc], .slice A n c, .func (.func fn) #[] lb] w (RetZ 3 w (selM a b f g n)) := by
  obtain ⟨w2, hw2, hb2, hx, hy, hr, hs⟩ := two_boxC w ha hb
  have RA := Lib.hid hr
  have RB := Lib.hid hs
  have XA := Lib.hid hx
  have XB := Lib.hid hy
  have B := Lib.hid hb2
  have B0 := Lib.hid hb2
  have HW := Lib.hid hw2
  have DA := Lib.hid da
  have DB := Lib.hid db
  have HP := Lib.hid hp
  have L := Lib.hid h
  have HN := Lib.hid hn
  have HV : Hid (selM a b f g n = if mayB a b = true then selI f g n else []) := rfl
  clear ha hb da db hw2 hb2 hx hy hr hs hp h hn
  go_enter Try.func37, Try.ntmps37
  go_upto_region 1 with (fail)
  rw [show (w.alloc (.cells #[.slice v.aw v.nw v.kw, .slice v.ap v.np v.kp, .slice v.ac v.nc v.kc] 26)).alloc (.cells #[.slice v'.aw v'.nw v'.kw, .slice v'.ap v'.np v'.kp, .slice v'.ac v'.nc v'.kc] 26) = w2 from HW.out]
  clear HW
  obtain ⟨p0, p1, p2⟩ := cf_cells XA.out
  obtain ⟨q0, q1, q2⟩ := cf_cells XB.out
  go_wp2_with fail
  refine (wFitC v v' a b w2 RA.out RB.out DA.out DB.out).mono ?_
  rintro e w3 ⟨rfl, hb⟩
  replace B := Lib.hid (B.out.trans (hb.mono B.out.size))
  clear hb p0 p1 p2 q0 q1 q2
  obtain ⟨mm, hm⟩ : ∃ x, mayB a b = x := ⟨_, rfl⟩
  rw [hm] at HV ⊢
  clear hm
  cases mm
  · have HF : Hid (selM a b f g n = []) := by (show _ = _); rw [HV.out, if_neg (by decide)]
    clear HV
    go_wp2_with fail
    go_ret
    refine ⟨none, 0, 0, rfl, ?_, B.out⟩
    rw [HF.out]
    exact ⟨rfl, .inl ⟨rfl, rfl⟩⟩
  replace HV : Hid (selM a b f g n = selI f g n) := by (show _ = _); rw [HV.out, if_pos rfl]
  clear RA RB XA XB B0
  go_wp2_with fail
  go_loopw [9, 11, 12, 13, 20] (fun s9 _ _ _ s20 wr => SelR f g n w w s9 s20 wr) (fun _ _ _ _ s20 _ => n - (intOf s20).toNat)
  case atStart => exact ⟨0, 0, Nat.zero_le _, rfl, ⟨rfl, .inl ⟨rfl, rfl⟩⟩, B.out, B.out⟩
  case round =>
    obtain ⟨k, m, hk, rfl, hown, hb, -⟩ := hrel
    replace B := Lib.hid hb
    have OWN := Lib.hid hown
    clear hb hown
    by_cases hlt : k < n
    · have hltI : (k : Int) < (n : Int) := by omega
      have hwk : IntKind.i64.wrap ((k : Int) + 1) = (k : Int) + 1 := by have := HN.out; rw [IntKind.wrap_i64]; omega
      have HLT : Hid (k < n) := hlt
      obtain ⟨bb, o, hA, z0, z1, z2, z3, z4⟩ := (L.out.to B.out).at_ hlt
      rw [hA]
      clear hk hlt
      go_upto_region 7 with (fail)
      have PX := Lib.hid (Bx.new wr 47 [.int .i64 (chAt l k).id, .int .i64 (chAt l k).fr, .int .i64 (chAt l k).dst, .int .i64 (chAt l k).cap, .int .i64 (chAt l k).size])
      replace OWN := Lib.hid (OWN.out.alloc (.cells #[.int .i64 (chAt l k).id, .int .i64 (chAt l k).fr, .int .i64 (chAt l k).dst, .int .i64 (chAt l k).cap, .int .i64 (chAt l k).size] 47))
      replace B := Lib.hid (B.out.alloc B.out.size (.cells #[.int .i64 (chAt l k).id, .int .i64 (chAt l k).fr, .int .i64 (chAt l k).dst, .int .i64 (chAt l k).cap, .int .i64 (chAt l k).size] 47))
      clear z0 z1 z2 z3 z4
      generalize wr.alloc (.cells #[.int .i64 (chAt l k).id, .int .i64 (chAt l k).fr, .int .i64 (chAt l k).dst, .int .i64 (chAt l k).cap, .int .i64 (chAt l k).size] 47) = wb at *
      generalize wr.heap.size = gb at *
      clear wr
      have x0 := PX.out.at (j := 0) rfl
      have x1 := PX.out.at (j := 1) rfl
      have x2 := PX.out.at (j := 2) rfl
      have x3 := PX.out.at (j := 3) rfl
      have x4 := PX.out.at (j := 4) rfl
      go_wp2_with fail
      refine (HP.out k HLT.out wb B.out).mono ?_
      rintro e w5 ⟨rfl, hb⟩
      replace OWN := Lib.hid (own_below OWN.out hb)
      replace B := Lib.hid (B.out.trans (hb.mono B.out.size))
      clear hb x0 x1 x2 x3 x4 PX wb
      have HS := Lib.hid (show selI f g (k + 1) = selI f g k ++ (if g k = true then [f k] else []) from rfl)
      have HM : Hid (m + 1 ≤ 17592186044416) := by
        show _ ≤ _
        have h1 := selI_len f g k
        have h2 := OWN.out.1
        have h3 := HN.out
        have h4 := HLT.out
        rw [List.length_map] at h2
        omega
      obtain ⟨fk, hf⟩ : ∃ x, f k = x := ⟨_, rfl⟩
      obtain ⟨gk, hg⟩ : ∃ x, g k = x := ⟨_, rfl⟩
      rw [hf, hg] at HS ⊢
      clear hf hg
      cases gk
      · go_wp2_with fail
        go_roundw
        case rel => exact ⟨k + 1, m, HLT.out, by go_num, by rw [HS.out, if_neg (by decide), List.append_nil]; exact OWN.out, B.out, B.out⟩
        case measure => have := HLT.out; simp [intOf]; omega
      · go_wp2_with (at_builtin; refine wpList_pushZ intsC rfl (.tmp 31) (.tmp 33) rfl rfl rfl OWN.out B.out B.out.size HM.out ?_; intro v' w2 hown2 hb2 hs2)
        go_roundw
        case rel => exact ⟨k + 1, m + 1, HLT.out, by go_num, by rw [HS.out, if_pos trivial]; exact hown2, hb2, hb2⟩
        case measure => have := HLT.out; simp [intOf]; omega
    · obtain rfl : k = n := by omega
      have hltI : ¬ (k : Int) < (k : Int) := by omega
      clear hk hlt
      go_wp2_with fail
      go_ret
      refine RetZ.mk (n := m) ?_ B.out
      rw [HV.out]
      exact OWN.out
/-- Does the channel survive? -/
noncomputable def pickB (a b : Cf) (c : Ch) : Bool := hasC b c.id && (decide (chI b c.id = c) && (lastsB a b c.fr && lastsB a b c.dst))
theorem chanV_eq {c : Cf} {id : Int} (h : hasC c id = true) : chanV c id = chI c id := by
  unfold chanV
  rw [if_pos (of_decide_eq_true h)]
  rfl
theorem chans_sel {a b : Cf} {n : Nat} (hl : a.cs.length = n) : selM a b (fun k => (chAt a.cs k).id) (fun k => pickB a b (chAt a.cs k)) n = chansC a b := by
  subst hl
  unfold selM chansC
  cases hm : mayB a b
  · rw [if_neg (by decide)]
    exact (listTo_none fun k _ => by unfold chanB survB; rw [hm]; simp).symm
  · rw [if_pos rfl]
    have va : Val a := val_of (by unfold mayB at hm; rw [Bool.and_eq_true] at hm; exact hm.1)
    have key : ∀ i, i < a.cs.length → chanB a b (chAt a.cs i).id = pickB a b (chAt a.cs i) := fun i hi => by
      unfold chanB pickB
      rw [va.hasCI hi, va.chI hi, surv_mayP hm, surv_mayP hm, Bool.true_and]
      congr 2
      rw [Bool.eq_iff_iff, decide_eq_true_eq, decide_eq_true_eq]
      exact ⟨Eq.symm, Eq.symm⟩
    refine asc_ext (selI_asc fun i j hij hj => asc_lt (allE_iff.1 va.ce).2 hij hj) (listTo_asc _ _) fun x => ?_
    rw [selI_mem, listTo_mem]
    constructor
    · rintro ⟨k, hk, h1, rfl⟩
      have hmm := (allE_iff.1 va.ce).1 _ (List.getElem_mem hk)
      rw [← chAt_lt hk] at hmm
      have hm' := mayC_iff.1 hmm
      refine ⟨by omega, by push_cast; omega, ?_⟩
      rw [key k hk]
      exact h1
    · rintro ⟨_, _, h⟩
      have h1 : hasC a x = true := by
        unfold chanB at h
        simp only [Bool.and_eq_true] at h
        exact h.1
      obtain ⟨i, hi, e⟩ := hasC_iff h1
      exact ⟨i, hi, by rw [← key i hi, e]; exact h, e⟩
set_option maxRecDepth 1000000 in
set_option maxHeartbeats 1000000 in
/-- Channels' closure; the configurations in boxes, the later one first. -/
theorem pChansC (v v' : CV) (a b : Cf) (g g' : Nat) (w : World) (n : Nat) (l : List Ch) (ha : RdCf w w.heap.size v a) (hb : RdCf w w.heap.size v' b) (da : Bd v) (db : Bd v') (hx : Bx w g 26 (cfL v)) (hy : Bx w g' 26 (cfL v')) :
    PickC w 38 #[.pointer (some ⟨g', 0, none⟩), .pointer (some ⟨g, 0, none⟩)] n l (fun k => (chAt l k).id) (fun k => pickB a b (chAt l k)) := fun k hk W hw => by
  show Calls Try.prog 38 #[.agg #[.int .i64 (chAt l k).id, .int .i64 (chAt l k).fr, .int .i64 (chAt l k).dst, .int .i64 (chAt l k).cap, .int .i64 (chAt l k).size], .pointer (some ⟨g', 0, none⟩), .pointer (some ⟨g, 0, none⟩)] W fun e w' => e = .returned (.tuple #[.int .i64 (chAt l k).id, .bool (pickB a b (chAt l k))]) ∧ Below W.heap.size W w'
  generalize chAt l k = p at *
  have BA := Lib.hid ((Below.refl W.heap.size W).alloc (Nat.le_refl _) (.cells #[.int .i64 p.id, .int .i64 p.fr, .int .i64 p.dst, .int .i64 p.cap, .int .i64 p.size] 47))
  have P := Lib.hid (show Bx (W.alloc (.cells #[.int .i64 p.id, .int .i64 p.fr, .int .i64 p.dst, .int .i64 p.cap, .int .i64 p.size] 47)) W.heap.size 47 [.int .i64 p.id, .int .i64 p.fr, .int .i64 p.dst, .int .i64 p.cap, .int .i64 p.size] from Bx.new W _ [.int .i64 p.id, .int .i64 p.fr, .int .i64 p.dst, .int .i64 p.cap, .int .i64 p.size])
  have RA := Lib.hid ((ha.to hw).to BA.out)
  have RB := Lib.hid ((hb.to hw).to BA.out)
  have XA := Lib.hid ((hx.to hw).to BA.out)
  have XB := Lib.hid ((hy.to hw).to BA.out)
  obtain ⟨w1, hw1⟩ : ∃ x, W.alloc (.cells #[.int .i64 p.id, .int .i64 p.fr, .int .i64 p.dst, .int .i64 p.cap, .int .i64 p.size] 47) = x := ⟨_, rfl⟩
  rw [hw1] at BA P RA RB XA XB
  have HW := Lib.hid hw1
  have DA := Lib.hid da
  have DB := Lib.hid db
  have HB : Hid (hasC b p.id = decide (0 ≤ findC b.cs p.id)) := rfl
  have HV : Hid (pickB a b p = (hasC b p.id && (decide (chI b p.id = p) && (lastsB a b p.fr && lastsB a b p.dst)))) := rfl
  have HQ := Lib.hid (show hasC b p.id = true → chanV b p.id = chI b p.id from chanV_eq)
  clear ha hb hx hy da db hw hw1
  go_enter Try.func38, Try.ntmps38
  go_upto_region 1 with (fail)
  rw [HW.out]
  clear HW
  obtain ⟨p0, p1, p2⟩ := cf_cells XB.out
  have y0 := P.out.at (j := 0) rfl
  go_wp2_with fail
  refine (wChannel v' b p.id w1 RB.out DB.out.2.2).mono ?_
  rintro e w4 ⟨rfl, hb4⟩
  replace P := Lib.hid (P.out.to hb4)
  replace RA := Lib.hid (RA.out.to hb4)
  replace RB := Lib.hid (RB.out.to hb4)
  replace XA := Lib.hid (XA.out.to hb4)
  replace XB := Lib.hid (XB.out.to hb4)
  replace BA := Lib.hid (BA.out.trans (hb4.mono BA.out.size))
  rw [← HB.out]
  clear hb4 p0 p1 p2 y0 HB
  generalize chanV b p.id = q at *
  obtain ⟨ok, hok⟩ : ∃ x, hasC b p.id = x := ⟨_, rfl⟩
  rw [hok] at HV HQ ⊢
  clear hok
  have hgd := ch_guard
  have heq := ch_eq
  go_upto_region 2 with (fail)
  have Q := Lib.hid (Bx.new w4 47 [.int .i64 q.id, .int .i64 q.fr, .int .i64 q.dst, .int .i64 q.cap, .int .i64 q.size])
  have B5 : Below w4.heap.size w4 (w4.alloc (.cells #[.int .i64 q.id, .int .i64 q.fr, .int .i64 q.dst, .int .i64 q.cap, .int .i64 q.size] 47)) := (Below.refl _ _).alloc (Nat.le_refl _) _
  replace P := Lib.hid (P.out.to B5)
  replace RA := Lib.hid (RA.out.to B5)
  replace RB := Lib.hid (RB.out.to B5)
  replace XA := Lib.hid (XA.out.to B5)
  replace XB := Lib.hid (XB.out.to B5)
  replace BA := Lib.hid (BA.out.trans (B5.mono BA.out.size))
  generalize w4.alloc (.cells #[.int .i64 q.id, .int .i64 q.fr, .int .i64 q.dst, .int .i64 q.cap, .int .i64 q.size] 47) = w5 at *
  generalize w4.heap.size = gq at *
  clear B5 w4
  obtain ⟨wd, hwd⟩ : ∃ x, w5.drew = x := ⟨_, rfl⟩
  have BS : Hid (Below w5.heap.size w5 wd) := by (show Below _ _ _); rw [← hwd]; exact (Below.refl _ _).drew
  refine wp_region_held_drew (S := (fun w' => Below w5.heap.size w5 w')) (by kernel_rfl) ((Below.refl _ _).drew) (fun hHeld => ?_)
  rw [hwd] at hHeld ⊢
  clear hwd hHeld
  refine wpAnyH_take (i := 0) (v := ?_) rfl (by kernel_rfl) (by kernel_rfl) (by kernel_rfl) (fun _ _ _ h => h) (Or.inl ⟨by rfl, ?_⟩) (by assumption) ?_
  rotate_left 1
  · intro w hSw; (try dsimp only at hSw); go_simp; (try with_reducible rfl)
  simp only [Act.put, List.getElem_toArray, List.getElem_cons_zero, List.getElem_cons_succ, List.setIfInBounds_toArray, List.set_cons_zero, List.set_cons_succ]
  refine wpAnyH_take (i := 1) (v := ?_) rfl (by kernel_rfl) (by kernel_rfl) (by kernel_rfl) (fun _ _ _ h => h) (Or.inl ⟨by rfl, ?_⟩) (by assumption) ?_
  rotate_left 1
  · intro w hSw; (try dsimp only at hSw); have t := (P.out.to hSw).at (j := 0) rfl; go_simp; (try with_reducible rfl)
  simp only [Act.put, List.getElem_toArray, List.getElem_cons_zero, List.getElem_cons_succ, List.setIfInBounds_toArray, List.set_cons_zero, List.set_cons_succ]
  cases ok
  · have HF : Hid (false = pickB a b p) := by (show _ = _); rw [HV.out]; rfl
    have hHeld := BS.out
    refine wpAnyH_take (i := 2) (v := ?_) rfl (by kernel_rfl) (by kernel_rfl) (by kernel_rfl) (fun _ _ _ h => h) (Or.inl ⟨by rfl, ?_⟩) (by assumption) ?_
    rotate_left 1
    · intro w hSw; (try dsimp only at hSw); go_simp; (try with_reducible rfl)
    simp only [Act.put, List.getElem_toArray, List.getElem_cons_zero, List.getElem_cons_succ, List.setIfInBounds_toArray, List.set_cons_zero, List.set_cons_succ]
    refine wpAnyH_take (i := 3) (v := ?_) rfl (by kernel_rfl) (by kernel_rfl) (by kernel_rfl) (fun _ _ _ h => h) (Or.inl ⟨by rfl, ?_⟩) (by assumption) ?_
    rotate_left 1
    · intro w hSw; (try dsimp only at hSw); go_simp; (try with_reducible rfl)
    simp only [Act.put, List.getElem_toArray, List.getElem_cons_zero, List.getElem_cons_succ, List.setIfInBounds_toArray, List.set_cons_zero, List.set_cons_succ]
    refine wpAnyH_take (i := 4) (v := undef) rfl (by kernel_rfl) (by kernel_rfl) (by kernel_rfl) (fun _ _ _ h => h) (Or.inr ⟨by rfl, rfl⟩) (by assumption) ?_
    simp only [Act.put, List.getElem_toArray, List.getElem_cons_zero, List.getElem_cons_succ, List.setIfInBounds_toArray, List.set_cons_zero, List.set_cons_succ]
    refine wpAnyH_take (i := 5) (v := undef) rfl (by kernel_rfl) (by kernel_rfl) (by kernel_rfl) (fun _ _ _ h => h) (Or.inr ⟨by rfl, rfl⟩) (by assumption) ?_
    simp only [Act.put, List.getElem_toArray, List.getElem_cons_zero, List.getElem_cons_succ, List.setIfInBounds_toArray, List.set_cons_zero, List.set_cons_succ]
    refine wpAnyH_take (i := 6) (v := undef) rfl (by kernel_rfl) (by kernel_rfl) (by kernel_rfl) (fun _ _ _ h => h) (Or.inr ⟨by rfl, rfl⟩) (by assumption) ?_
    simp only [Act.put, List.getElem_toArray, List.getElem_cons_zero, List.getElem_cons_succ, List.setIfInBounds_toArray, List.set_cons_zero, List.set_cons_succ]
    refine wpAnyH_take (i := 7) (v := ?_) rfl (by kernel_rfl) (by kernel_rfl) (by kernel_rfl) (fun _ _ _ h => h) (Or.inl ⟨by rfl, ?_⟩) (by assumption) ?_
    rotate_left 1
    · intro w hSw; (try dsimp only at hSw); go_simp; (try with_reducible rfl)
    simp only [Act.put, List.getElem_toArray, List.getElem_cons_zero, List.getElem_cons_succ, List.setIfInBounds_toArray, List.set_cons_zero, List.set_cons_succ]
    refine wpAnyH_take (i := 8) (v := ?_) rfl (by kernel_rfl) (by kernel_rfl) (by kernel_rfl) (fun _ _ _ h => h) (Or.inl ⟨by rfl, ?_⟩) (by assumption) ?_
    rotate_left 1
    · intro w hSw; (try dsimp only at hSw); go_simp; (try with_reducible rfl)
    simp only [Act.put, List.getElem_toArray, List.getElem_cons_zero, List.getElem_cons_succ, List.setIfInBounds_toArray, List.set_cons_zero, List.set_cons_succ]
    refine wpAnyH_take (i := 9) (v := undef) rfl (by kernel_rfl) (by kernel_rfl) (by kernel_rfl) (fun _ _ _ h => h) (Or.inr ⟨by rfl, rfl⟩) (by assumption) ?_
    simp only [Act.put, List.getElem_toArray, List.getElem_cons_zero, List.getElem_cons_succ, List.setIfInBounds_toArray, List.set_cons_zero, List.set_cons_succ]
    refine wpAnyH_take (i := 10) (v := undef) rfl (by kernel_rfl) (by kernel_rfl) (by kernel_rfl) (fun _ _ _ h => h) (Or.inr ⟨by rfl, rfl⟩) (by assumption) ?_
    simp only [Act.put, List.getElem_toArray, List.getElem_cons_zero, List.getElem_cons_succ, List.setIfInBounds_toArray, List.set_cons_zero, List.set_cons_succ]
    refine wpAnyH_take (i := 11) (v := undef) rfl (by kernel_rfl) (by kernel_rfl) (by kernel_rfl) (fun _ _ _ h => h) (Or.inr ⟨by rfl, rfl⟩) (by assumption) ?_
    simp only [Act.put, List.getElem_toArray, List.getElem_cons_zero, List.getElem_cons_succ, List.setIfInBounds_toArray, List.set_cons_zero, List.set_cons_succ]
    refine wpAnyH_take (i := 12) (v := undef) rfl (by kernel_rfl) (by kernel_rfl) (by kernel_rfl) (fun _ _ _ h => h) (Or.inr ⟨by rfl, rfl⟩) (by assumption) ?_
    simp only [Act.put, List.getElem_toArray, List.getElem_cons_zero, List.getElem_cons_succ, List.setIfInBounds_toArray, List.set_cons_zero, List.set_cons_succ]
    refine wpAnyH_take (i := 13) (v := undef) rfl (by kernel_rfl) (by kernel_rfl) (by kernel_rfl) (fun _ _ _ h => h) (Or.inr ⟨by rfl, rfl⟩) (by assumption) ?_
    simp only [Act.put, List.getElem_toArray, List.getElem_cons_zero, List.getElem_cons_succ, List.setIfInBounds_toArray, List.set_cons_zero, List.set_cons_succ]
    refine wpAnyH_take (i := 14) (v := ?_) rfl (by kernel_rfl) (by kernel_rfl) (by kernel_rfl) (fun _ _ _ h => h) (Or.inl ⟨by rfl, ?_⟩) (by assumption) ?_
    rotate_left 1
    · intro w hSw; (try dsimp only at hSw); go_simp; (try with_reducible rfl)
    simp only [Act.put, List.getElem_toArray, List.getElem_cons_zero, List.getElem_cons_succ, List.setIfInBounds_toArray, List.set_cons_zero, List.set_cons_succ]
    refine wpAnyH_take (i := 15) (v := ?_) rfl (by kernel_rfl) (by kernel_rfl) (by kernel_rfl) (fun _ _ _ h => h) (Or.inl ⟨by rfl, ?_⟩) (by assumption) ?_
    rotate_left 1
    · intro w hSw; (try dsimp only at hSw); go_simp; (try with_reducible rfl)
    simp only [Act.put, List.getElem_toArray, List.getElem_cons_zero, List.getElem_cons_succ, List.setIfInBounds_toArray, List.set_cons_zero, List.set_cons_succ]
    refine wpAnyH_take (i := 16) (v := undef) rfl (by kernel_rfl) (by kernel_rfl) (by kernel_rfl) (fun _ _ _ h => h) (Or.inr ⟨by rfl, rfl⟩) (by assumption) ?_
    simp only [Act.put, List.getElem_toArray, List.getElem_cons_zero, List.getElem_cons_succ, List.setIfInBounds_toArray, List.set_cons_zero, List.set_cons_succ]
    refine wpAnyH_take (i := 17) (v := undef) rfl (by kernel_rfl) (by kernel_rfl) (by kernel_rfl) (fun _ _ _ h => h) (Or.inr ⟨by rfl, rfl⟩) (by assumption) ?_
    simp only [Act.put, List.getElem_toArray, List.getElem_cons_zero, List.getElem_cons_succ, List.setIfInBounds_toArray, List.set_cons_zero, List.set_cons_succ]
    refine wpAnyH_take (i := 18) (v := undef) rfl (by kernel_rfl) (by kernel_rfl) (by kernel_rfl) (fun _ _ _ h => h) (Or.inr ⟨by rfl, rfl⟩) (by assumption) ?_
    simp only [Act.put, List.getElem_toArray, List.getElem_cons_zero, List.getElem_cons_succ, List.setIfInBounds_toArray, List.set_cons_zero, List.set_cons_succ]
    refine wpAnyH_take (i := 19) (v := undef) rfl (by kernel_rfl) (by kernel_rfl) (by kernel_rfl) (fun _ _ _ h => h) (Or.inr ⟨by rfl, rfl⟩) (by assumption) ?_
    simp only [Act.put, List.getElem_toArray, List.getElem_cons_zero, List.getElem_cons_succ, List.setIfInBounds_toArray, List.set_cons_zero, List.set_cons_succ]
    refine wpAnyH_take (i := 20) (v := undef) rfl (by kernel_rfl) (by kernel_rfl) (by kernel_rfl) (fun _ _ _ h => h) (Or.inr ⟨by rfl, rfl⟩) (by assumption) ?_
    simp only [Act.put, List.getElem_toArray, List.getElem_cons_zero, List.getElem_cons_succ, List.setIfInBounds_toArray, List.set_cons_zero, List.set_cons_succ]
    refine wpAnyH_take (i := 21) (v := ?_) rfl (by kernel_rfl) (by kernel_rfl) (by kernel_rfl) (fun _ _ _ h => h) (Or.inl ⟨by rfl, ?_⟩) (by assumption) ?_
    rotate_left 1
    · intro w hSw; (try dsimp only at hSw); go_simp; (try with_reducible rfl)
    simp only [Act.put, List.getElem_toArray, List.getElem_cons_zero, List.getElem_cons_succ, List.setIfInBounds_toArray, List.set_cons_zero, List.set_cons_succ]
    refine wpAnyH_take (i := 22) (v := ?_) rfl (by kernel_rfl) (by kernel_rfl) (by kernel_rfl) (fun _ _ _ h => h) (Or.inl ⟨by rfl, ?_⟩) (by assumption) ?_
    rotate_left 1
    · intro w hSw; (try dsimp only at hSw); go_simp; (try with_reducible rfl)
    simp only [Act.put, List.getElem_toArray, List.getElem_cons_zero, List.getElem_cons_succ, List.setIfInBounds_toArray, List.set_cons_zero, List.set_cons_succ]
    refine wpAnyH_take (i := 23) (v := ?_) rfl (by kernel_rfl) (by kernel_rfl) (by kernel_rfl) (fun _ _ _ h => h) (Or.inl ⟨by rfl, ?_⟩) (by assumption) ?_
    rotate_left 1
    · intro w hSw; (try dsimp only at hSw); go_simp; (try with_reducible rfl)
    simp only [Act.put, List.getElem_toArray, List.getElem_cons_zero, List.getElem_cons_succ, List.setIfInBounds_toArray, List.set_cons_zero, List.set_cons_succ]
    refine wpAnyH_done (by kernel_rfl) ?_ _
    clear hHeld
    go_wp2_with fail
    refine bodyPost_ret (res_twoC rfl _ _ (.int .i64 p.id) _ rfl rfl) rfl ?_
    exact ⟨by rw [← HF.out]; rfl, BA.out.trans (BS.out.mono BA.out.size)⟩
  rw [← HQ.out rfl, Bool.true_and] at HV
  clear HQ
  by_cases hpr : q = p
  rotate_left 1
  · have HF : Hid (false = pickB a b p) := by (show _ = _); rw [HV.out, decide_eq_false hpr]; rfl
    have hq : eqC ⟨q.id, q.fr, q.dst, q.cap, q.size⟩ ⟨p.id, p.fr, p.dst, p.cap, p.size⟩ = false := by
      rw [Bool.eq_false_iff]
      intro h
      exact hpr (eqC_iff.1 h)
    clear hpr
    have hHeld := BS.out
    refine wpAnyH_take (i := 2) (v := ?_) rfl (by kernel_rfl) (by kernel_rfl) (by kernel_rfl) (fun _ _ _ h => h) (Or.inl ⟨by rfl, ?_⟩) (by assumption) ?_
    rotate_left 1
    · intro w hSw; (try dsimp only at hSw); go_simp; (try with_reducible rfl)
    simp only [Act.put, List.getElem_toArray, List.getElem_cons_zero, List.getElem_cons_succ, List.setIfInBounds_toArray, List.set_cons_zero, List.set_cons_succ]
    refine wpAnyH_take (i := 3) (v := ?_) rfl (by kernel_rfl) (by kernel_rfl) (by kernel_rfl) (fun _ _ _ h => h) (Or.inl ⟨by rfl, ?_⟩) (by assumption) ?_
    rotate_left 1
    · intro w hSw; (try dsimp only at hSw); go_simp; (try with_reducible rfl)
    simp only [Act.put, List.getElem_toArray, List.getElem_cons_zero, List.getElem_cons_succ, List.setIfInBounds_toArray, List.set_cons_zero, List.set_cons_succ]
    refine wpAnyH_take (i := 4) (v := ?_) rfl (by kernel_rfl) (by kernel_rfl) (by kernel_rfl) (fun _ _ _ h => h) (Or.inl ⟨by rfl, ?_⟩) (by assumption) ?_
    rotate_left 1
    · intro w hSw; (try dsimp only at hSw); have t0 := (Q.out.to hSw).at (j := 0) rfl; have t1 := (Q.out.to hSw).at (j := 1) rfl; have t2 := (Q.out.to hSw).at (j := 2) rfl; have t3 := (Q.out.to hSw).at (j := 3) rfl; have t4 := (Q.out.to hSw).at (j := 4) rfl; go_simp; (try with_reducible rfl)
    simp only [Act.put, List.getElem_toArray, List.getElem_cons_zero, List.getElem_cons_succ, List.setIfInBounds_toArray, List.set_cons_zero, List.set_cons_succ]
    refine wpAnyH_take (i := 5) (v := ?_) rfl (by kernel_rfl) (by kernel_rfl) (by kernel_rfl) (fun _ _ _ h => h) (Or.inl ⟨by rfl, ?_⟩) (by assumption) ?_
    rotate_left 1
    · intro w hSw; (try dsimp only at hSw); have t0 := (P.out.to hSw).at (j := 0) rfl; have t1 := (P.out.to hSw).at (j := 1) rfl; have t2 := (P.out.to hSw).at (j := 2) rfl; have t3 := (P.out.to hSw).at (j := 3) rfl; have t4 := (P.out.to hSw).at (j := 4) rfl; go_simp; (try with_reducible rfl)
    simp only [Act.put, List.getElem_toArray, List.getElem_cons_zero, List.getElem_cons_succ, List.setIfInBounds_toArray, List.set_cons_zero, List.set_cons_succ]
    refine wpAnyH_take (i := 6) (v := ?_) rfl (by kernel_rfl) (by kernel_rfl) (by kernel_rfl) (fun _ _ _ h => h) (Or.inl ⟨by rfl, ?_⟩) (by assumption) ?_
    rotate_left 1
    · intro w hSw; (try dsimp only at hSw); go_simp; (try with_reducible rfl)
    simp only [Act.put, List.getElem_toArray, List.getElem_cons_zero, List.getElem_cons_succ, List.setIfInBounds_toArray, List.set_cons_zero, List.set_cons_succ]
    refine wpAnyH_take (i := 7) (v := ?_) rfl (by kernel_rfl) (by kernel_rfl) (by kernel_rfl) (fun _ _ _ h => h) (Or.inl ⟨by rfl, ?_⟩) (by assumption) ?_
    rotate_left 1
    · intro w hSw; (try dsimp only at hSw); go_simp; (try with_reducible rfl)
    simp only [Act.put, List.getElem_toArray, List.getElem_cons_zero, List.getElem_cons_succ, List.setIfInBounds_toArray, List.set_cons_zero, List.set_cons_succ]
    refine wpAnyH_take (i := 8) (v := ?_) rfl (by kernel_rfl) (by kernel_rfl) (by kernel_rfl) (fun _ _ _ h => h) (Or.inl ⟨by rfl, ?_⟩) (by assumption) ?_
    rotate_left 1
    · intro w hSw; (try dsimp only at hSw); go_simp; (try with_reducible rfl)
    simp only [Act.put, List.getElem_toArray, List.getElem_cons_zero, List.getElem_cons_succ, List.setIfInBounds_toArray, List.set_cons_zero, List.set_cons_succ]
    refine wpAnyH_take (i := 9) (v := undef) rfl (by kernel_rfl) (by kernel_rfl) (by kernel_rfl) (fun _ _ _ h => h) (Or.inr ⟨by rfl, rfl⟩) (by assumption) ?_
    simp only [Act.put, List.getElem_toArray, List.getElem_cons_zero, List.getElem_cons_succ, List.setIfInBounds_toArray, List.set_cons_zero, List.set_cons_succ]
    refine wpAnyH_take (i := 10) (v := undef) rfl (by kernel_rfl) (by kernel_rfl) (by kernel_rfl) (fun _ _ _ h => h) (Or.inr ⟨by rfl, rfl⟩) (by assumption) ?_
    simp only [Act.put, List.getElem_toArray, List.getElem_cons_zero, List.getElem_cons_succ, List.setIfInBounds_toArray, List.set_cons_zero, List.set_cons_succ]
    refine wpAnyH_take (i := 11) (v := undef) rfl (by kernel_rfl) (by kernel_rfl) (by kernel_rfl) (fun _ _ _ h => h) (Or.inr ⟨by rfl, rfl⟩) (by assumption) ?_
    simp only [Act.put, List.getElem_toArray, List.getElem_cons_zero, List.getElem_cons_succ, List.setIfInBounds_toArray, List.set_cons_zero, List.set_cons_succ]
    refine wpAnyH_take (i := 12) (v := undef) rfl (by kernel_rfl) (by kernel_rfl) (by kernel_rfl) (fun _ _ _ h => h) (Or.inr ⟨by rfl, rfl⟩) (by assumption) ?_
    simp only [Act.put, List.getElem_toArray, List.getElem_cons_zero, List.getElem_cons_succ, List.setIfInBounds_toArray, List.set_cons_zero, List.set_cons_succ]
    refine wpAnyH_take (i := 13) (v := undef) rfl (by kernel_rfl) (by kernel_rfl) (by kernel_rfl) (fun _ _ _ h => h) (Or.inr ⟨by rfl, rfl⟩) (by assumption) ?_
    simp only [Act.put, List.getElem_toArray, List.getElem_cons_zero, List.getElem_cons_succ, List.setIfInBounds_toArray, List.set_cons_zero, List.set_cons_succ]
    refine wpAnyH_take (i := 14) (v := ?_) rfl (by kernel_rfl) (by kernel_rfl) (by kernel_rfl) (fun _ _ _ h => h) (Or.inl ⟨by rfl, ?_⟩) (by assumption) ?_
    rotate_left 1
    · intro w hSw; (try dsimp only at hSw); go_simp; (try with_reducible rfl)
    simp only [Act.put, List.getElem_toArray, List.getElem_cons_zero, List.getElem_cons_succ, List.setIfInBounds_toArray, List.set_cons_zero, List.set_cons_succ]
    refine wpAnyH_take (i := 15) (v := ?_) rfl (by kernel_rfl) (by kernel_rfl) (by kernel_rfl) (fun _ _ _ h => h) (Or.inl ⟨by rfl, ?_⟩) (by assumption) ?_
    rotate_left 1
    · intro w hSw; (try dsimp only at hSw); go_simp; (try with_reducible rfl)
    simp only [Act.put, List.getElem_toArray, List.getElem_cons_zero, List.getElem_cons_succ, List.setIfInBounds_toArray, List.set_cons_zero, List.set_cons_succ]
    refine wpAnyH_take (i := 16) (v := undef) rfl (by kernel_rfl) (by kernel_rfl) (by kernel_rfl) (fun _ _ _ h => h) (Or.inr ⟨by rfl, rfl⟩) (by assumption) ?_
    simp only [Act.put, List.getElem_toArray, List.getElem_cons_zero, List.getElem_cons_succ, List.setIfInBounds_toArray, List.set_cons_zero, List.set_cons_succ]
    refine wpAnyH_take (i := 17) (v := undef) rfl (by kernel_rfl) (by kernel_rfl) (by kernel_rfl) (fun _ _ _ h => h) (Or.inr ⟨by rfl, rfl⟩) (by assumption) ?_
    simp only [Act.put, List.getElem_toArray, List.getElem_cons_zero, List.getElem_cons_succ, List.setIfInBounds_toArray, List.set_cons_zero, List.set_cons_succ]
    refine wpAnyH_take (i := 18) (v := undef) rfl (by kernel_rfl) (by kernel_rfl) (by kernel_rfl) (fun _ _ _ h => h) (Or.inr ⟨by rfl, rfl⟩) (by assumption) ?_
    simp only [Act.put, List.getElem_toArray, List.getElem_cons_zero, List.getElem_cons_succ, List.setIfInBounds_toArray, List.set_cons_zero, List.set_cons_succ]
    refine wpAnyH_take (i := 19) (v := undef) rfl (by kernel_rfl) (by kernel_rfl) (by kernel_rfl) (fun _ _ _ h => h) (Or.inr ⟨by rfl, rfl⟩) (by assumption) ?_
    simp only [Act.put, List.getElem_toArray, List.getElem_cons_zero, List.getElem_cons_succ, List.setIfInBounds_toArray, List.set_cons_zero, List.set_cons_succ]
    refine wpAnyH_take (i := 20) (v := undef) rfl (by kernel_rfl) (by kernel_rfl) (by kernel_rfl) (fun _ _ _ h => h) (Or.inr ⟨by rfl, rfl⟩) (by assumption) ?_
    simp only [Act.put, List.getElem_toArray, List.getElem_cons_zero, List.getElem_cons_succ, List.setIfInBounds_toArray, List.set_cons_zero, List.set_cons_succ]
    refine wpAnyH_take (i := 21) (v := ?_) rfl (by kernel_rfl) (by kernel_rfl) (by kernel_rfl) (fun _ _ _ h => h) (Or.inl ⟨by rfl, ?_⟩) (by assumption) ?_
    rotate_left 1
    · intro w hSw; (try dsimp only at hSw); go_simp; (try with_reducible rfl)
    simp only [Act.put, List.getElem_toArray, List.getElem_cons_zero, List.getElem_cons_succ, List.setIfInBounds_toArray, List.set_cons_zero, List.set_cons_succ]
    refine wpAnyH_take (i := 22) (v := ?_) rfl (by kernel_rfl) (by kernel_rfl) (by kernel_rfl) (fun _ _ _ h => h) (Or.inl ⟨by rfl, ?_⟩) (by assumption) ?_
    rotate_left 1
    · intro w hSw; (try dsimp only at hSw); go_simp; (try with_reducible rfl)
    simp only [Act.put, List.getElem_toArray, List.getElem_cons_zero, List.getElem_cons_succ, List.setIfInBounds_toArray, List.set_cons_zero, List.set_cons_succ]
    refine wpAnyH_take (i := 23) (v := ?_) rfl (by kernel_rfl) (by kernel_rfl) (by kernel_rfl) (fun _ _ _ h => h) (Or.inl ⟨by rfl, ?_⟩) (by assumption) ?_
    rotate_left 1
    · intro w hSw; (try dsimp only at hSw); go_simp; (try with_reducible rfl)
    simp only [Act.put, List.getElem_toArray, List.getElem_cons_zero, List.getElem_cons_succ, List.setIfInBounds_toArray, List.set_cons_zero, List.set_cons_succ]
    refine wpAnyH_done (by kernel_rfl) ?_ _
    clear hHeld
    go_wp2_with fail
    refine bodyPost_ret (res_twoC rfl _ _ (.int .i64 p.id) _ rfl rfl) rfl ?_
    exact ⟨by rw [← HF.out]; rfl, BA.out.trans (BS.out.mono BA.out.size)⟩
  have KK : Hid (pickB a b p = (lastsB a b p.fr && lastsB a b p.dst)) := by (show _ = _); rw [HV.out, decide_eq_true hpr, Bool.true_and]
  have hq : eqC ⟨q.id, q.fr, q.dst, q.cap, q.size⟩ ⟨p.id, p.fr, p.dst, p.cap, p.size⟩ = true := eqC_iff.2 hpr
  clear hpr HV
  have hHeld := BS.out
  refine wpAnyH_take (i := 2) (v := ?_) rfl (by kernel_rfl) (by kernel_rfl) (by kernel_rfl) (fun _ _ _ h => h) (Or.inl ⟨by rfl, ?_⟩) (by assumption) ?_
  rotate_left 1
  · intro w hSw; (try dsimp only at hSw); go_simp; (try with_reducible rfl)
  simp only [Act.put, List.getElem_toArray, List.getElem_cons_zero, List.getElem_cons_succ, List.setIfInBounds_toArray, List.set_cons_zero, List.set_cons_succ]
  refine wpAnyH_take (i := 3) (v := ?_) rfl (by kernel_rfl) (by kernel_rfl) (by kernel_rfl) (fun _ _ _ h => h) (Or.inl ⟨by rfl, ?_⟩) (by assumption) ?_
  rotate_left 1
  · intro w hSw; (try dsimp only at hSw); go_simp; (try with_reducible rfl)
  simp only [Act.put, List.getElem_toArray, List.getElem_cons_zero, List.getElem_cons_succ, List.setIfInBounds_toArray, List.set_cons_zero, List.set_cons_succ]
  refine wpAnyH_take (i := 4) (v := ?_) rfl (by kernel_rfl) (by kernel_rfl) (by kernel_rfl) (fun _ _ _ h => h) (Or.inl ⟨by rfl, ?_⟩) (by assumption) ?_
  rotate_left 1
  · intro w hSw; (try dsimp only at hSw); have t0 := (Q.out.to hSw).at (j := 0) rfl; have t1 := (Q.out.to hSw).at (j := 1) rfl; have t2 := (Q.out.to hSw).at (j := 2) rfl; have t3 := (Q.out.to hSw).at (j := 3) rfl; have t4 := (Q.out.to hSw).at (j := 4) rfl; go_simp; (try with_reducible rfl)
  simp only [Act.put, List.getElem_toArray, List.getElem_cons_zero, List.getElem_cons_succ, List.setIfInBounds_toArray, List.set_cons_zero, List.set_cons_succ]
  refine wpAnyH_take (i := 5) (v := ?_) rfl (by kernel_rfl) (by kernel_rfl) (by kernel_rfl) (fun _ _ _ h => h) (Or.inl ⟨by rfl, ?_⟩) (by assumption) ?_
  rotate_left 1
  · intro w hSw; (try dsimp only at hSw); have t0 := (P.out.to hSw).at (j := 0) rfl; have t1 := (P.out.to hSw).at (j := 1) rfl; have t2 := (P.out.to hSw).at (j := 2) rfl; have t3 := (P.out.to hSw).at (j := 3) rfl; have t4 := (P.out.to hSw).at (j := 4) rfl; go_simp; (try with_reducible rfl)
  simp only [Act.put, List.getElem_toArray, List.getElem_cons_zero, List.getElem_cons_succ, List.setIfInBounds_toArray, List.set_cons_zero, List.set_cons_succ]
  refine wpAnyH_take (i := 6) (v := ?_) rfl (by kernel_rfl) (by kernel_rfl) (by kernel_rfl) (fun _ _ _ h => h) (Or.inl ⟨by rfl, ?_⟩) (by assumption) ?_
  rotate_left 1
  · intro w hSw; (try dsimp only at hSw); go_simp; (try with_reducible rfl)
  simp only [Act.put, List.getElem_toArray, List.getElem_cons_zero, List.getElem_cons_succ, List.setIfInBounds_toArray, List.set_cons_zero, List.set_cons_succ]
  refine wpAnyH_take (i := 7) (v := ?_) rfl (by kernel_rfl) (by kernel_rfl) (by kernel_rfl) (fun _ _ _ h => h) (Or.inl ⟨by rfl, ?_⟩) (by assumption) ?_
  rotate_left 1
  · intro w hSw; (try dsimp only at hSw); go_simp; (try with_reducible rfl)
  simp only [Act.put, List.getElem_toArray, List.getElem_cons_zero, List.getElem_cons_succ, List.setIfInBounds_toArray, List.set_cons_zero, List.set_cons_succ]
  refine wpAnyH_take (i := 8) (v := ?_) rfl (by kernel_rfl) (by kernel_rfl) (by kernel_rfl) (fun _ _ _ h => h) (Or.inl ⟨by rfl, ?_⟩) (by assumption) ?_
  rotate_left 1
  · intro w hSw; (try dsimp only at hSw); go_simp; (try with_reducible rfl)
  simp only [Act.put, List.getElem_toArray, List.getElem_cons_zero, List.getElem_cons_succ, List.setIfInBounds_toArray, List.set_cons_zero, List.set_cons_succ]
  clear hq heq
  refine wpAnyH_take (i := 9) (v := ?_) rfl (by kernel_rfl) (by kernel_rfl) (by kernel_rfl) (fun _ _ _ h => h) (Or.inl ⟨by rfl, ?_⟩) (by assumption) ?_
  rotate_left 1
  · intro w hSw; (try dsimp only at hSw); have t := cf_cells (XA.out.to hSw); obtain ⟨t0, t1, t2⟩ := t; go_simp; (try with_reducible rfl)
  simp only [Act.put, List.getElem_toArray, List.getElem_cons_zero, List.getElem_cons_succ, List.setIfInBounds_toArray, List.set_cons_zero, List.set_cons_succ]
  refine wpAnyH_take (i := 10) (v := ?_) rfl (by kernel_rfl) (by kernel_rfl) (by kernel_rfl) (fun _ _ _ h => h) (Or.inl ⟨by rfl, ?_⟩) (by assumption) ?_
  rotate_left 1
  · intro w hSw; (try dsimp only at hSw); have t := cf_cells (XB.out.to hSw); obtain ⟨t0, t1, t2⟩ := t; go_simp; (try with_reducible rfl)
  simp only [Act.put, List.getElem_toArray, List.getElem_cons_zero, List.getElem_cons_succ, List.setIfInBounds_toArray, List.set_cons_zero, List.set_cons_succ]
  refine wpAnyH_take (i := 11) (v := ?_) rfl (by kernel_rfl) (by kernel_rfl) (by kernel_rfl) (fun _ _ _ h => h) (Or.inl ⟨by rfl, ?_⟩) (by assumption) ?_
  rotate_left 1
  · intro w hSw; (try dsimp only at hSw); go_simp; (try with_reducible rfl)
  simp only [Act.put, List.getElem_toArray, List.getElem_cons_zero, List.getElem_cons_succ, List.setIfInBounds_toArray, List.set_cons_zero, List.set_cons_succ]
  refine wpAnyH_take (i := 12) (v := ?_) rfl (by kernel_rfl) (by kernel_rfl) (by kernel_rfl) (fun _ _ _ h => h) (Or.inl ⟨by rfl, ?_⟩) (by assumption) ?_
  rotate_left 1
  · intro w hSw; (try dsimp only at hSw); have t := (P.out.to hSw).at (j := 1) rfl; go_simp; (try with_reducible rfl)
  simp only [Act.put, List.getElem_toArray, List.getElem_cons_zero, List.getElem_cons_succ, List.setIfInBounds_toArray, List.set_cons_zero, List.set_cons_succ]
  have RE := Lib.hid (RA.out.to BS.out)
  have RF := Lib.hid (RB.out.to BS.out)
  clear hHeld
  refine wpAnyH_ready (rs := [13]) (by kernel_rfl) (by simp) ?_
  refine AllReadyH.cons rfl (fun K hK => ?_) AllReadyH.nil
  go_simp
  refine (wLasts v v' a b p.fr wd RE.out RF.out DA.out DB.out).mono ?_
  rintro e wf ⟨rfl, hb⟩
  replace BS := Lib.hid (BS.out.trans (hb.mono BS.out.size))
  clear hb RE RF
  go_wp2_with fail
  refine hK.out _ _ (BS.out) (fun hHeld => ?_)
  clear hK K
  obtain ⟨d, hd⟩ : ∃ x, lastsB a b p.fr = x := ⟨_, rfl⟩
  rw [hd] at KK ⊢
  clear hd
  cases d
  · have HF : Hid (false = pickB a b p) := by (show _ = _); rw [KK.out]; rfl
    refine wpAnyH_take (i := 14) (v := ?_) rfl (by kernel_rfl) (by kernel_rfl) (by kernel_rfl) (fun _ _ _ h => h) (Or.inl ⟨by rfl, ?_⟩) (by assumption) ?_
    rotate_left 1
    · intro w hSw; (try dsimp only at hSw); go_simp; (try with_reducible rfl)
    simp only [Act.put, List.getElem_toArray, List.getElem_cons_zero, List.getElem_cons_succ, List.setIfInBounds_toArray, List.set_cons_zero, List.set_cons_succ]
    refine wpAnyH_take (i := 15) (v := ?_) rfl (by kernel_rfl) (by kernel_rfl) (by kernel_rfl) (fun _ _ _ h => h) (Or.inl ⟨by rfl, ?_⟩) (by assumption) ?_
    rotate_left 1
    · intro w hSw; (try dsimp only at hSw); go_simp; (try with_reducible rfl)
    simp only [Act.put, List.getElem_toArray, List.getElem_cons_zero, List.getElem_cons_succ, List.setIfInBounds_toArray, List.set_cons_zero, List.set_cons_succ]
    refine wpAnyH_take (i := 16) (v := undef) rfl (by kernel_rfl) (by kernel_rfl) (by kernel_rfl) (fun _ _ _ h => h) (Or.inr ⟨by rfl, rfl⟩) (by assumption) ?_
    simp only [Act.put, List.getElem_toArray, List.getElem_cons_zero, List.getElem_cons_succ, List.setIfInBounds_toArray, List.set_cons_zero, List.set_cons_succ]
    refine wpAnyH_take (i := 17) (v := undef) rfl (by kernel_rfl) (by kernel_rfl) (by kernel_rfl) (fun _ _ _ h => h) (Or.inr ⟨by rfl, rfl⟩) (by assumption) ?_
    simp only [Act.put, List.getElem_toArray, List.getElem_cons_zero, List.getElem_cons_succ, List.setIfInBounds_toArray, List.set_cons_zero, List.set_cons_succ]
    refine wpAnyH_take (i := 18) (v := undef) rfl (by kernel_rfl) (by kernel_rfl) (by kernel_rfl) (fun _ _ _ h => h) (Or.inr ⟨by rfl, rfl⟩) (by assumption) ?_
    simp only [Act.put, List.getElem_toArray, List.getElem_cons_zero, List.getElem_cons_succ, List.setIfInBounds_toArray, List.set_cons_zero, List.set_cons_succ]
    refine wpAnyH_take (i := 19) (v := undef) rfl (by kernel_rfl) (by kernel_rfl) (by kernel_rfl) (fun _ _ _ h => h) (Or.inr ⟨by rfl, rfl⟩) (by assumption) ?_
    simp only [Act.put, List.getElem_toArray, List.getElem_cons_zero, List.getElem_cons_succ, List.setIfInBounds_toArray, List.set_cons_zero, List.set_cons_succ]
    refine wpAnyH_take (i := 20) (v := undef) rfl (by kernel_rfl) (by kernel_rfl) (by kernel_rfl) (fun _ _ _ h => h) (Or.inr ⟨by rfl, rfl⟩) (by assumption) ?_
    simp only [Act.put, List.getElem_toArray, List.getElem_cons_zero, List.getElem_cons_succ, List.setIfInBounds_toArray, List.set_cons_zero, List.set_cons_succ]
    refine wpAnyH_take (i := 21) (v := ?_) rfl (by kernel_rfl) (by kernel_rfl) (by kernel_rfl) (fun _ _ _ h => h) (Or.inl ⟨by rfl, ?_⟩) (by assumption) ?_
    rotate_left 1
    · intro w hSw; (try dsimp only at hSw); go_simp; (try with_reducible rfl)
    simp only [Act.put, List.getElem_toArray, List.getElem_cons_zero, List.getElem_cons_succ, List.setIfInBounds_toArray, List.set_cons_zero, List.set_cons_succ]
    refine wpAnyH_take (i := 22) (v := ?_) rfl (by kernel_rfl) (by kernel_rfl) (by kernel_rfl) (fun _ _ _ h => h) (Or.inl ⟨by rfl, ?_⟩) (by assumption) ?_
    rotate_left 1
    · intro w hSw; (try dsimp only at hSw); go_simp; (try with_reducible rfl)
    simp only [Act.put, List.getElem_toArray, List.getElem_cons_zero, List.getElem_cons_succ, List.setIfInBounds_toArray, List.set_cons_zero, List.set_cons_succ]
    refine wpAnyH_take (i := 23) (v := ?_) rfl (by kernel_rfl) (by kernel_rfl) (by kernel_rfl) (fun _ _ _ h => h) (Or.inl ⟨by rfl, ?_⟩) (by assumption) ?_
    rotate_left 1
    · intro w hSw; (try dsimp only at hSw); go_simp; (try with_reducible rfl)
    simp only [Act.put, List.getElem_toArray, List.getElem_cons_zero, List.getElem_cons_succ, List.setIfInBounds_toArray, List.set_cons_zero, List.set_cons_succ]
    refine wpAnyH_done (by kernel_rfl) ?_ _
    clear hHeld
    go_wp2_with fail
    refine bodyPost_ret (res_twoC rfl _ _ (.int .i64 p.id) _ rfl rfl) rfl ?_
    exact ⟨by rw [← HF.out]; rfl, BA.out.trans (BS.out.mono BA.out.size)⟩
  have HF : Hid (lastsB a b p.dst = pickB a b p) := by (show _ = _); rw [KK.out]; rfl
  refine wpAnyH_take (i := 14) (v := ?_) rfl (by kernel_rfl) (by kernel_rfl) (by kernel_rfl) (fun _ _ _ h => h) (Or.inl ⟨by rfl, ?_⟩) (by assumption) ?_
  rotate_left 1
  · intro w hSw; (try dsimp only at hSw); go_simp; (try with_reducible rfl)
  simp only [Act.put, List.getElem_toArray, List.getElem_cons_zero, List.getElem_cons_succ, List.setIfInBounds_toArray, List.set_cons_zero, List.set_cons_succ]
  refine wpAnyH_take (i := 15) (v := ?_) rfl (by kernel_rfl) (by kernel_rfl) (by kernel_rfl) (fun _ _ _ h => h) (Or.inl ⟨by rfl, ?_⟩) (by assumption) ?_
  rotate_left 1
  · intro w hSw; (try dsimp only at hSw); go_simp; (try with_reducible rfl)
  simp only [Act.put, List.getElem_toArray, List.getElem_cons_zero, List.getElem_cons_succ, List.setIfInBounds_toArray, List.set_cons_zero, List.set_cons_succ]
  refine wpAnyH_take (i := 16) (v := ?_) rfl (by kernel_rfl) (by kernel_rfl) (by kernel_rfl) (fun _ _ _ h => h) (Or.inl ⟨by rfl, ?_⟩) (by assumption) ?_
  rotate_left 1
  · intro w hSw; (try dsimp only at hSw); have t := cf_cells (XA.out.to hSw); obtain ⟨t0, t1, t2⟩ := t; go_simp; (try with_reducible rfl)
  simp only [Act.put, List.getElem_toArray, List.getElem_cons_zero, List.getElem_cons_succ, List.setIfInBounds_toArray, List.set_cons_zero, List.set_cons_succ]
  refine wpAnyH_take (i := 17) (v := ?_) rfl (by kernel_rfl) (by kernel_rfl) (by kernel_rfl) (fun _ _ _ h => h) (Or.inl ⟨by rfl, ?_⟩) (by assumption) ?_
  rotate_left 1
  · intro w hSw; (try dsimp only at hSw); have t := cf_cells (XB.out.to hSw); obtain ⟨t0, t1, t2⟩ := t; go_simp; (try with_reducible rfl)
  simp only [Act.put, List.getElem_toArray, List.getElem_cons_zero, List.getElem_cons_succ, List.setIfInBounds_toArray, List.set_cons_zero, List.set_cons_succ]
  refine wpAnyH_take (i := 18) (v := ?_) rfl (by kernel_rfl) (by kernel_rfl) (by kernel_rfl) (fun _ _ _ h => h) (Or.inl ⟨by rfl, ?_⟩) (by assumption) ?_
  rotate_left 1
  · intro w hSw; (try dsimp only at hSw); go_simp; (try with_reducible rfl)
  simp only [Act.put, List.getElem_toArray, List.getElem_cons_zero, List.getElem_cons_succ, List.setIfInBounds_toArray, List.set_cons_zero, List.set_cons_succ]
  refine wpAnyH_take (i := 19) (v := ?_) rfl (by kernel_rfl) (by kernel_rfl) (by kernel_rfl) (fun _ _ _ h => h) (Or.inl ⟨by rfl, ?_⟩) (by assumption) ?_
  rotate_left 1
  · intro w hSw; (try dsimp only at hSw); have t := (P.out.to hSw).at (j := 2) rfl; go_simp; (try with_reducible rfl)
  simp only [Act.put, List.getElem_toArray, List.getElem_cons_zero, List.getElem_cons_succ, List.setIfInBounds_toArray, List.set_cons_zero, List.set_cons_succ]
  have RE := Lib.hid (RA.out.to BS.out)
  have RF := Lib.hid (RB.out.to BS.out)
  clear hHeld
  refine wpAnyH_ready (rs := [20]) (by kernel_rfl) (by simp) ?_
  refine AllReadyH.cons rfl (fun K hK => ?_) AllReadyH.nil
  go_simp
  refine (wLasts v v' a b p.dst wf RE.out RF.out DA.out DB.out).mono ?_
  rintro e wg ⟨rfl, hb⟩
  replace BS := Lib.hid (BS.out.trans (hb.mono BS.out.size))
  clear hb RE RF
  go_wp2_with fail
  refine hK.out _ _ (BS.out) (fun hHeld => ?_)
  clear hK K
  refine wpAnyH_take (i := 21) (v := ?_) rfl (by kernel_rfl) (by kernel_rfl) (by kernel_rfl) (fun _ _ _ h => h) (Or.inl ⟨by rfl, ?_⟩) (by assumption) ?_
  rotate_left 1
  · intro w hSw; (try dsimp only at hSw); go_simp; (try with_reducible rfl)
  simp only [Act.put, List.getElem_toArray, List.getElem_cons_zero, List.getElem_cons_succ, List.setIfInBounds_toArray, List.set_cons_zero, List.set_cons_succ]
  refine wpAnyH_take (i := 22) (v := ?_) rfl (by kernel_rfl) (by kernel_rfl) (by kernel_rfl) (fun _ _ _ h => h) (Or.inl ⟨by rfl, ?_⟩) (by assumption) ?_
  rotate_left 1
  · intro w hSw; (try dsimp only at hSw); go_simp; (try with_reducible rfl)
  simp only [Act.put, List.getElem_toArray, List.getElem_cons_zero, List.getElem_cons_succ, List.setIfInBounds_toArray, List.set_cons_zero, List.set_cons_succ]
  refine wpAnyH_take (i := 23) (v := ?_) rfl (by kernel_rfl) (by kernel_rfl) (by kernel_rfl) (fun _ _ _ h => h) (Or.inl ⟨by rfl, ?_⟩) (by assumption) ?_
  rotate_left 1
  · intro w hSw; (try dsimp only at hSw); go_simp; (try with_reducible rfl)
  simp only [Act.put, List.getElem_toArray, List.getElem_cons_zero, List.getElem_cons_succ, List.setIfInBounds_toArray, List.set_cons_zero, List.set_cons_succ]
  refine wpAnyH_done (by kernel_rfl) ?_ _
  clear hHeld
  go_wp2_with fail
  refine bodyPost_ret (res_twoC rfl _ _ (.int .i64 p.id) _ rfl rfl) rfl ?_
  exact ⟨by rw [← HF.out]; rfl, BA.out.trans (BS.out.mono BA.out.size)⟩
set_option maxRecDepth 1000000 in
set_option maxHeartbeats 1000000 in
theorem wChansC (v v' : CV) (a b : Cf) (w : World) (ha : RdCf w w.heap.size v a) (hb : RdCf w w.heap.size v' b) (da : Bd v) (db : Bd v') :
    Calls Try.prog 19 #[.agg #[.slice v.aw v.nw v.kw, .slice v.ap v.np v.kp, .slice v.ac v.nc v.kc], .agg #[.slice v'.aw v'.nw v'.kw, .slice v'.ap v'.np v'.kp, .slice v'.ac v'.nc v'.kc]] w fun x w' => ∃ A n k, x = .returned (.slice A n k) ∧ RdZ w' w'.heap.size A n (chansC a b) ∧ Below w.heap.size w w' := by
  obtain ⟨w2, hw2, hb2, hx, hy, hr, hs⟩ := two_boxC w ha hb
  have RA := Lib.hid hr
  have RB := Lib.hid hs
  have XA := Lib.hid hx
  have XB := Lib.hid hy
  have B := Lib.hid hb2
  have HW := Lib.hid hw2
  have DA := Lib.hid da
  have DB := Lib.hid db
  have HF := Lib.hid (chans_sel (a := a) (b := b) (n := v.nc) ha.cc.1)
  have eg : ∀ args w, (callFunc 38 args).run Try.prog w = .ok (.enter 38 args) w := enters_of Try.func38 (by kernel_rfl) rfl
  have EG := Lib.hid eg
  clear ha hb da db hw2 hb2 hx hy hr hs eg
  go_enter Try.func19, Try.ntmps19
  go_upto_region 1 with (fail)
  rw [show (w.alloc (.cells #[.slice v.aw v.nw v.kw, .slice v.ap v.np v.kp, .slice v.ac v.nc v.kc] 26)).alloc (.cells #[.slice v'.aw v'.nw v'.kw, .slice v'.ap v'.np v'.kp, .slice v'.ac v'.nc v'.kc] 26) = w2 from HW.out]
  clear HW
  obtain ⟨p0, p1, p2⟩ := cf_cells XA.out
  obtain ⟨q0, q1, q2⟩ := cf_cells XB.out
  go_wp2_with fail
  refine (wSelC _ _ EG.out _ _ v v' a b v.ac v.nc v.kc a.cs w2 RA.out RB.out DA.out DB.out (pChansC v v' a b w.heap.size (w.heap.size + 1) w2 v.nc a.cs RA.out RB.out DA.out DB.out XA.out XB.out) RA.out.cc DA.out.2.2).mono ?_
  rintro e w3 ⟨A, n, c, rfl, ho, hb⟩
  rw [HF.out] at ho
  have Z := Lib.hid (RdZ.of_own ho)
  replace B := Lib.hid (B.out.trans (hb.mono B.out.size))
  clear ho hb p0 p1 p2 q0 q1 q2
  go_wp2_with fail
  go_ret
  exact ⟨A, n, c, rfl, Z.out, B.out⟩
end

/- The program's contracts of layer 13, gathered. -/
section

end
end Go.Proofs.Ytecedmjhhaabgaa
