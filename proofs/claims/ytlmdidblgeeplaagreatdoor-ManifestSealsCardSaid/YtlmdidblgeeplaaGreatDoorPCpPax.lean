/- Several texts in one (a claim has 60 files at most): VaPc, CpPa. -/
import Derived.Test.YtlmdidblgeeplaaGreatDoorTz
import Derived.Test.YtlmdidblgeeplaaGreatDoorPVaPbx
import Derived.Test.YtlmdidblgeeplaaGreatDoorPSchDx
import Derived.Test.YtlmdidblgeeplaaGreatDoorPCfLcx
import Derived.Test.YtlmdidblgeeplaaGreatDoorPCfWrx
import Derived.Test.YtlmdidblgeeplaaGreatDoorPCpRy
namespace Go.Proofs.YtlmdidblgeeplaaGreatDoor
set_option maxRecDepth 1000000
set_option maxHeartbeats 8000000
set_option linter.unusedVariables false
set_option linter.unusedSimpArgs false
section
open Go.RowKit
def fn_ (i : FuncId) : Value := .func (.func i) #[] #[]
def fltF : Array Value := #[.int .i64 90, fn_ 165, .int .i64 120, fn_ 166, .int .i64 80, fn_ 167, .int .i64 121, fn_ 168, .int .i64 100, fn_ 169]
def fltE (k : Nat) : Int := [90, 120, 80, 121, 100].getD k 0
noncomputable def fltB (c : Cf) (k : Nat) : Bool := [fltW c, fltP c, fltR c, fltO c, fltC c].getD k false
theorem checkV_at {c : Cf} {k : Nat} (hk : k < 5) (hb : ∀ j, j < k → fltB c j = false) (h : fltB c k = true) : checkV c = fltE k := by
 unfold checkV allV
 have h0 := hb 0; have h1 := hb 1; have h2 := hb 2; have h3 := hb 3
 match k, hk with
 | 0, _ => simp [fltB, fltE, more] at h ⊢; simp [h]
 | 1, _ => simp [fltB, fltE, more] at h h0 ⊢; simp [h, h0]
 | 2, _ => simp [fltB, fltE, more] at h h0 h1 ⊢; simp [h, h0, h1]
 | 3, _ => simp [fltB, fltE, more] at h h0 h1 h2 ⊢; simp [h, h0, h1, h2]
 | 4, _ => simp [fltB, fltE, more] at h h0 h1 h2 h3 ⊢; simp [h, h0, h1, h2, h3]
theorem checkV_no {c : Cf} (hb : ∀ j, j < 5 → fltB c j = false) : checkV c = 0 := by
 have h0 : fltW c = false := hb 0 (by decide)
 have h1 : fltP c = false := hb 1 (by decide)
 have h2 : fltR c = false := hb 2 (by decide)
 have h3 : fltO c = false := hb 3 (by decide)
 have h4 : fltC c = false := hb 4 (by decide)
 simp [checkV, allV, more, h0, h1, h2, h3, h4]
theorem index_flt (j : Nat) (hj : j < 5) (e f : Value) (h0 : fltF[j * 2]? = some e) (h1 : fltF[j * 2 + 1]? = some f) (w : World) :
  (Instr.index 152 (.agg fltF) (.int .i64 (j : Int))).run Tryz.prog w = .ok (.agg #[e, f]) w := by
 have hb : (0 : Int) ≤ (j : Int) ∧ (j : Int) < 5 := by omega
 have hs : ∀ w, (sizeOf 151).run Tryz.prog w = .ok 2 w := Tryz.sizeOf151
 have ha : ∀ w, (isAgg 151).run Tryz.prog w = .ok true w := Tryz.isAgg151
 have he : fltF.extract (j * 2) (j * 2 + 2) = #[e, f] := by
  match j, hj with
  | 0, _ => cases h0; cases h1; rfl
  | 1, _ => cases h0; cases h1; rfl
  | 2, _ => cases h0; cases h1; rfl
  | 3, _ => cases h0; cases h1; rfl
  | 4, _ => cases h0; cases h1; rfl
 have hp : ∀ w, (part 151 fltF (j * 2)).run Tryz.prog w = .ok (.agg #[e, f]) w := fun w => by simp [part, Sem.run_bind, ha, hs, Result.andThen, he]
 simp [Instr.index, Sem.run_bind, run_underlying Tryz.underlying152, Result.andThen, asIntOf, hb, hp, hs]
 intro h; omega
def fltZ : Array Value := #[.int .i64 0, .nilFunc, .int .i64 0, .nilFunc, .int .i64 0, .nilFunc, .int .i64 0, .nilFunc, .int .i64 0, .nilFunc]
theorem flt_info : (Tryz.prog.info? 152).map (fun i => (i.zero, i.size)) = some (some (.agg fltZ), 10) := by kernel_rfl
theorem flt_size : (Tryz.prog.info? 152).map (·.size) = some fltF.size := (zero_of_info flt_info).2
theorem fltF_one : fltF.all (·.oneCell') = true := by simp [fltF, fn_, Value.oneCell']
def oneZ : Array Value := #[.int .i64 0, .nilFunc]
theorem one_info : (Tryz.prog.info? 151).map (fun i => (i.zero, i.size)) = some (some (.agg oneZ), 2) := by kernel_rfl
theorem one_size (a b : Value) : (Tryz.prog.info? 151).map (·.size) = some (#[a, b] : Array Value).size := (zero_of_info one_info).2
theorem wFaults (w : World) : Calls Tryz.prog 125 #[] w fun e w' => e = .returned (.agg fltF) ∧ Below w.heap.size w w' := by
 have hz := (zero_of_info flt_info).1
 go_enter Tryz.func125, Tryz.ntmps125
 go_wp2_with (refine wpList_store_row rfl 152 _ _ rfl w.heap.size fltF rfl rfl 152 fltZ (by simpa using heap_alloc_last w (.cells fltZ 152)) flt_size rfl fltF_one ?_; rw [World.setRow_alloc_new])
 refine bodyPost_ret (results_cell_row rfl _ _ w.heap.size 152 fltF (0, 0) _ rfl (by simpa using heap_alloc_last w (.cells fltF 152)) Tryz.underlying152 rfl flt_size) rfl ?_
 exact ⟨rfl, (Below.refl _ _).alloc (Nat.le_refl _) _⟩
theorem flt_at (k : Nat) (hk : k < 5) : ∃ i : FuncId, (∀ w, (Instr.index 152 (.agg fltF) (.int .i64 (k : Int))).run Tryz.prog w = .ok (.agg #[.int .i64 (fltE k), .func (.func i) #[] #[]]) w) ∧
  (∀ args w, (callFunc i args).run Tryz.prog w = .ok (.enter i args) w) ∧
  ∀ (v : CV) (c : Cf) (w : World), RdCf w w.heap.size v c → v.nw ≤ 1000 → v.np ≤ 1000 → v.nc ≤ 1000 →
   Calls Tryz.prog i #[.agg #[.slice v.aw v.nw v.kw, .slice v.ap v.np v.kp, .slice v.ac v.nc v.kc]] w fun x w' => x = .returned (.bool (fltB c k)) ∧ Below w.heap.size w w' := by
 match k, hk with
 | 0, h => exact ⟨165, index_flt 0 h _ _ rfl rfl, enters_of Tryz.func165 (by kernel_rfl) rfl, fun v c w h hw hp hc => wWrongW v c w h hw hp⟩
 | 1, h => exact ⟨166, index_flt 1 h _ _ rfl rfl, enters_of Tryz.func166 (by kernel_rfl) rfl, fun v c w h hw hp hc => wWrongP v c w h hp⟩
 | 2, h => exact ⟨167, index_flt 2 h _ _ rfl rfl, enters_of Tryz.func167 (by kernel_rfl) rfl, fun v c w h hw hp hc => wWrongR v c w h hp⟩
 | 3, h => exact ⟨168, index_flt 3 h _ _ rfl rfl, enters_of Tryz.func168 (by kernel_rfl) rfl, fun v c w h hw hp hc => wOverlaps v c w h hp⟩
 | 4, h => exact ⟨169, index_flt 4 h _ _ rfl rfl, enters_of Tryz.func169 (by kernel_rfl) rfl, fun v c w h hw hp hc => wWrongC v c w h hp hc⟩
theorem wCheckV (v : CV) (c : Cf) (w : World) (h : RdCf w w.heap.size v c) (hw : v.nw ≤ 1000) (hp : v.np ≤ 1000) (hc : v.nc ≤ 1000) :
  Calls Tryz.prog 65 #[.agg #[.slice v.aw v.nw v.kw, .slice v.ap v.np v.kp, .slice v.ac v.nc v.kc]] w fun x w' => x = .returned (.int .i64 (checkV c)) ∧ Below w.heap.size w w' := by
 obtain ⟨w1, hw1, hb1, hx, hr⟩ := one_box w h
 have R := qH hr
 have X := qH hx
 have B := qH hb1
 have HW := qH hw1
 have HNW := qH hw
 have HNP := qH hp
 have HNC := qH hc
 have hz := (zero_of_info one_info).1
 clear h hw hp hc hw1 hb1 hx hr
 go_enter Tryz.func65, Tryz.ntmps65
 go_upto_region 1 with (fail)
 rw [show w.alloc (.cells #[.slice v.aw v.nw v.kw, .slice v.ap v.np v.kp, .slice v.ac v.nc v.kc] 28) = w1 from HW.out]
 clear HW
 go_wp2_with fail
 refine (wFaults w1).mono ?_
 rintro e w2 ⟨rfl, hb⟩
 replace R := qH (R.out.to hb)
 replace X := qH (X.out.to hb)
 replace B := qH (B.out.trans (hb.mono B.out.size))
 clear hb
 go_wp2_with fail
 go_loopw [4, 6] (fun _ s6 wr => ∃ k : Nat, k ≤ 5 ∧ s6 = .int .i64 (k : Int) ∧ (∀ j, j < k → fltB c j = false) ∧ Below w2.heap.size w2 wr) (fun _ s6 _ => 5 - (intOf s6).toNat)
 case atStart => exact ⟨0, Nat.zero_le _, rfl, fun j hj => absurd hj (Nat.not_lt_zero _), Below.refl _ _⟩
 case round =>
  obtain ⟨k, hk, rfl, hno, hbel⟩ := hrel
  have BD := qH hbel
  have NO := qH hno
  have HK := qH hk
  clear hbel hno hk
  by_cases hlt : k < 5
  ·obtain ⟨i, hix, eg, hcall⟩ := flt_at k hlt
   have hltI : (k : Int) < 5 := by omega
   have HLT := qH hlt
   have HC := qH hcall
   obtain ⟨z, hzz⟩ : ∃ z, fltE k = z := ⟨_, rfl⟩
   rw [hzz] at hix
   have HZ := qH hzz
   have x0 := (X.out.to BD.out).at (j := 0) rfl
   have x1 := (X.out.to BD.out).at (j := 1) rfl
   have x2 := (X.out.to BD.out).at (j := 2) rfl
   have hal := (Below.refl wr.heap.size wr).alloc (Nat.le_refl _) (.cells #[.int .i64 z, .func (.func i) #[] #[]] 151)
   have P1 : Bx (wr.alloc (.cells #[.int .i64 z, .func (.func i) #[] #[]] 151)) wr.heap.size 151 [.int .i64 z, .func (.func i) #[] #[]] := Bx.new wr _ [.int .i64 z, .func (.func i) #[] #[]]
   obtain ⟨w4, hw4⟩ : ∃ x, wr.alloc (.cells #[.int .i64 z, .func (.func i) #[] #[]] 151) = x := ⟨_, rfl⟩
   rw [hw4] at hal P1
   have P := qH P1
   have B4 := qH (BD.out.trans (hal.mono BD.out.size))
   have HW := qH hw4
   clear hlt hcall hzz hal P1 hw4
   go_upto_region 4 with (refine wpList_store_row rfl 151 _ _ rfl wr.heap.size #[.int .i64 z, .func (.func i) #[] #[]] rfl rfl 151 oneZ (by simpa using heap_alloc_last wr (.cells oneZ 151)) (one_size _ _) rfl (by simp [Value.oneCell']) ?_; rw [World.setRow_alloc_new, HW.out])
   clear HW x0 x1 x2
   have R4 := qH (R.out.to B4.out)
   have X4 := qH (X.out.to B4.out)
   have x0 := X4.out.at (j := 0) rfl
   have x1 := X4.out.at (j := 1) rfl
   have x2 := X4.out.at (j := 2) rfl
   have y0 := P.out.at (j := 0) rfl
   have y1 := P.out.at (j := 1) rfl
   go_wp2_with fail
   refine (HC.out v c w4 R4.out HNW.out HNP.out HNC.out).mono ?_
   rintro e w5 ⟨rfl, hb⟩
   replace P := qH (P.out.to hb)
   replace B4 := qH (B4.out.trans (hb.mono B4.out.size))
   clear hb x0 x1 x2 y0 y1 hix eg
   have y0 := P.out.at (j := 0) rfl
   cases hf : fltB c k
   ·have HF := qH hf
    clear hf
    go_wp2_with fail
    go_roundw
    case rel => exact ⟨k + 1, HLT.out, by go_num, fun j hj => by
     rcases Nat.lt_or_ge j k with g | g
     ·exact NO.out j g
     ·obtain rfl : j = k := by omega
      exact HF.out, B4.out⟩
    case measure => simp [intOf]; omega
   ·have HF : Hid (z = checkV c) := by (show _ = _); rw [checkV_at HLT.out NO.out hf, HZ.out]
    clear hf
    go_wp2_with fail
    go_ret
    exact ⟨ret_int HF.out, B.out.trans (B4.out.mono B.out.size)⟩
  ·obtain rfl : k = 5 := by have := HK.out; omega
   have HF : Hid ((0 : Int) = checkV c) := (checkV_no NO.out).symm
   clear hlt
   go_wp2_with fail
   go_ret
   exact ⟨ret_int HF.out, B.out.trans (BD.out.mono B.out.size)⟩
theorem wFitsV (v : CV) (c : Cf) (w : World) (h : RdCf w w.heap.size v c) (hw : v.nw ≤ 1000) (hp : v.np ≤ 1000) (hc : v.nc ≤ 1000) :
  Calls Tryz.prog 170 #[.agg #[.slice v.aw v.nw v.kw, .slice v.ap v.np v.kp, .slice v.ac v.nc v.kc]] w fun x w' => x = .returned (.bool (fitsV c)) ∧ Below w.heap.size w w' := by
 obtain ⟨w1, hw1, hb1, hx, hr⟩ := one_box w h
 have R := qH hr
 have X := qH hx
 have B := qH hb1
 have HW := qH hw1
 have HNW := qH hw
 have HNP := qH hp
 have HNC := qH hc
 clear h hw hp hc hw1 hb1 hx hr
 go_enter Tryz.func170, Tryz.ntmps170
 go_upto_region 1 with (fail)
 rw [show w.alloc (.cells #[.slice v.aw v.nw v.kw, .slice v.ap v.np v.kp, .slice v.ac v.nc v.kc] 28) = w1 from HW.out]
 clear HW
 have x0 := X.out.at (j := 0) rfl
 have x1 := X.out.at (j := 1) rfl
 have x2 := X.out.at (j := 2) rfl
 go_wp2_with fail
 refine (wCheckV v c w1 R.out HNW.out HNP.out HNC.out).mono ?_
 rintro e w2 ⟨rfl, hb⟩
 replace B := qH (B.out.trans (hb.mono B.out.size))
 obtain ⟨z, hz⟩ : ∃ z, checkV c = z := ⟨_, rfl⟩
 have HF : Hid ((z == 0) = fitsV c) := by (show _ = _); rw [Bool.eq_iff_iff, beq_iff_eq, ← fitsV_check, hz]
 rw [hz]
 clear hb hz x0 x1 x2
 go_wp2_with fail
 go_ret
 exact ⟨ret_bool HF.out, B.out⟩
end
section
open Go.RowKit
theorem bx_two {v : CV} {b : Cf} (w : World) (h : RdCf w w.heap.size v b) (T T' : TypeId) (l l' : List Value) : ∃ w2, (w.alloc (.cells l.toArray T)).alloc (.cells l'.toArray T') = w2 ∧
  Below w.heap.size w w2 ∧ Bx w2 w.heap.size T l ∧ Bx w2 (w.heap.size + 1) T' l' ∧ w2.heap.size = w.heap.size + 2 ∧ RdCf w2 w2.heap.size v b := by
 have B2 : Below w.heap.size w ((w.alloc (.cells l.toArray T)).alloc (.cells l'.toArray T')) := ((Below.refl w.heap.size w).alloc (Nat.le_refl _) _).alloc (by simp) _
 refine ⟨_, rfl, B2, ?_, ?_, by simp, h.to B2⟩
 ·exact (Bx.new w T l).to ((Below.refl _ _).alloc (Nat.le_refl _) _)
 ·have h := Bx.new (w.alloc (.cells l.toArray T)) T' l'
  simpa using h
theorem bx_three {v : CV} {b : Cf} (w : World) (h : RdCf w w.heap.size v b) (T T' U : TypeId) (l l' m : List Value) : ∃ w3, ((w.alloc (.cells l.toArray T)).alloc (.cells l'.toArray T')).alloc (.cells m.toArray U) = w3 ∧
  Below w.heap.size w w3 ∧ Bx w3 w.heap.size T l ∧ Bx w3 (w.heap.size + 1) T' l' ∧ Bx w3 (w.heap.size + 1 + 1) U m ∧ w3.heap.size = w.heap.size + 3 ∧ RdCf w3 w3.heap.size v b := by
 obtain ⟨w2, hw, hb, hx, hy, hs, hr⟩ := bx_two w h T T' l l'
 rw [hw]
 have B3 : Below w2.heap.size w2 (w2.alloc (.cells m.toArray U)) := (Below.refl _ _).alloc (Nat.le_refl _) _
 refine ⟨_, rfl, hb.trans (B3.mono hb.size), hx.to B3, hy.to B3, ?_, by simp [hs], hr.to B3⟩
 have h := Bx.new w2 U m
 rw [hs] at h
 exact h
theorem wFitC (v v' : CV) (a b : Cf) (w : World) (ha : RdCf w w.heap.size v a) (hb : RdCf w w.heap.size v' b) (da : Bd v) (db : Bd v') :
  Calls Tryz.prog 126 #[.agg #[.slice v.aw v.nw v.kw, .slice v.ap v.np v.kp, .slice v.ac v.nc v.kc], .agg #[.slice v'.aw v'.nw v'.kw, .slice v'.ap v'.np v'.kp, .slice v'.ac v'.nc v'.kc]] w fun x w' => x = .returned (.bool (mayB a b)) ∧ Below w.heap.size w w' := by
 obtain ⟨w2, hw2, hb2, hx, hy, hr, hs⟩ := two_boxC w ha hb
 have RA := qH hr
 have RB := qH hs
 have XA := qH hx
 have XB := qH hy
 have B := qH hb2
 have HW := qH hw2
 have DA := qH da
 have DB := qH db
 clear ha hb da db hw2 hb2 hx hy hr hs
 go_enter Tryz.func126, Tryz.ntmps126
 go_upto_region 1 with (fail)
 rw [show (w.alloc (.cells #[.slice v.aw v.nw v.kw, .slice v.ap v.np v.kp, .slice v.ac v.nc v.kc] 28)).alloc (.cells #[.slice v'.aw v'.nw v'.kw, .slice v'.ap v'.np v'.kp, .slice v'.ac v'.nc v'.kc] 28) = w2 from HW.out]
 clear HW
 obtain ⟨p0, p1, p2⟩ := cf_cells XA.out
 go_wp2_with fail
 refine (wFitsV v a w2 RA.out DA.out.1 DA.out.2.1 DA.out.2.2).mono ?_
 rintro e w3 ⟨rfl, hb⟩
 replace RB := qH (RB.out.to hb)
 replace XB := qH (XB.out.to hb)
 replace B := qH (B.out.trans (hb.mono B.out.size))
 clear hb p0 p1 p2
 cases hf : fitsV a
 ·have HF : Hid (false = mayB a b) := by (show _ = _); unfold mayB; rw [hf]; rfl
  clear hf
  go_wp2_with fail
  go_ret
  exact ⟨ret_bool HF.out, B.out⟩
 ·have HF : Hid (fitsV b = mayB a b) := by (show _ = _); unfold mayB; rw [hf]; rfl
  clear hf
  obtain ⟨p0, p1, p2⟩ := cf_cells XB.out
  go_wp2_with fail
  refine (wFitsV v' b w3 RB.out DB.out.1 DB.out.2.1 DB.out.2.2).mono ?_
  rintro e w4 ⟨rfl, hb⟩
  replace B := qH (B.out.trans (hb.mono B.out.size))
  rw [HF.out]
  clear hb p0 p1 p2
  go_wp2_with fail
  go_ret
  exact ⟨rfl, B.out⟩
def heirB (p : Pt) (b : Cf) : Bool := hasP b p.id && (p.keep && (ptI b p.id).keep)
def HeirR (p : Pt) (b : Cf) (w : World) (x : Ending) (w' : World) : Prop :=
 ∃ (q : Pt) (A : Option Addr) (m c : Nat), x = .returned (.tuple #[.agg #[.int .i64 q.id, .int .i64 q.base, .int .i64 q.size, .bool q.keep, .slice A m c], .bool (heirB p b)]) ∧ (heirB p b = true → q = ptI b p.id) ∧ Below w.heap.size w w'
theorem partV_eq {c : Cf} {id : Int} (h : hasP c id = true) : partV c id = ptI c id := by
 unfold partV
 rw [if_pos (of_decide_eq_true h)]
 rfl
theorem wHeir (p : Pt) (A : Option Addr) (m c : Nat) (v : CV) (b : Cf) (w : World) (hb : RdCf w w.heap.size v b) (db : Bd v) :
  Calls Tryz.prog 171 #[.agg #[.int .i64 p.id, .int .i64 p.base, .int .i64 p.size, .bool p.keep, .slice A m c], .agg #[.slice v.aw v.nw v.kw, .slice v.ap v.np v.kp, .slice v.ac v.nc v.kc]] w (HeirR p b w) := by
 obtain ⟨w3, hw3, hb3, hx, hy, hz, hs3, hr⟩ := bx_three w hb 58 28 58 [.int .i64 p.id, .int .i64 p.base, .int .i64 p.size, .bool p.keep, .slice A m c] (cfL v) [.int .i64 0, .int .i64 0, .int .i64 0, .bool false, .slice none 0 0]
 have R := qH hr
 have P := qH hx
 have X := qH hy
 have Z := qH hz
 have S3 := qH hs3
 have BW := qH hb3
 have HW := qH hw3
 have DB := qH db
 have HV : Hid (heirB p b = (hasP b p.id && (p.keep && (ptI b p.id).keep))) := rfl
 have HA : Hid (hasP b p.id = decide (0 ≤ findP b.ps p.id)) := rfl
 have HQ := qH (show hasP b p.id = true → partV b p.id = ptI b p.id from partV_eq)
 clear hb db hw3 hb3 hx hy hz hs3 hr
 go_enter Tryz.func171, Tryz.ntmps171
 go_upto_region 1 with (fail)
 rw [show ((w.alloc (.cells #[.int .i64 p.id, .int .i64 p.base, .int .i64 p.size, .bool p.keep, .slice A m c] 58)).alloc (.cells #[.slice v.aw v.nw v.kw, .slice v.ap v.np v.kp, .slice v.ac v.nc v.kc] 28)).alloc (.cells #[.int .i64 0, .int .i64 0, .int .i64 0, .bool false, .slice none 0 0] 58) = w3 from HW.out]
 clear HW
 obtain ⟨p0, p1, p2⟩ := cf_cells X.out
 have y0 := P.out.at (j := 0) rfl
 go_wp2_with fail
 refine (wPart v b p.id w3 R.out DB.out.2.1).mono ?_
 rintro e w4 ⟨A4, m4, c4, rfl, -, -, -, hb4⟩
 have HS4 : Hid (w.heap.size + 3 ≤ w4.heap.size) := by (show _ ≤ _); rw [← S3.out]; exact hb4.size
 replace P := qH (P.out.to hb4)
 replace Z := qH (Z.out.to hb4)
 replace BW := qH (BW.out.trans (hb4.mono BW.out.size))
 rw [← HA.out]
 clear hb4 p0 p1 p2 y0 X R HA
 generalize partV b p.id = q at *
 obtain ⟨ok, hok⟩ : ∃ x, hasP b p.id = x := ⟨_, rfl⟩
 rw [hok] at HV HQ ⊢
 clear hok
 go_upto_region 2 with (fail)
 have Q := qH (Bx.new w4 58 [.int .i64 q.id, .int .i64 q.base, .int .i64 q.size, .bool q.keep, .slice A4 m4 c4])
 have B5 : Below w4.heap.size w4 (w4.alloc (.cells #[.int .i64 q.id, .int .i64 q.base, .int .i64 q.size, .bool q.keep, .slice A4 m4 c4] 58)) := (Below.refl _ _).alloc (Nat.le_refl _) _
 replace P := qH (P.out.to B5)
 replace Z := qH (Z.out.to B5)
 replace BW := qH (BW.out.trans (B5.mono BW.out.size))
 generalize w4.alloc (.cells #[.int .i64 q.id, .int .i64 q.base, .int .i64 q.size, .bool q.keep, .slice A4 m4 c4] 58) = w5 at *
 generalize w4.heap.size = g at *
 clear B5 w4
 have z0 := Z.out.at (j := 0) rfl
 have z1 := Z.out.at (j := 1) rfl
 have z2 := Z.out.at (j := 2) rfl
 have z3 := Z.out.at (j := 3) rfl
 have z4 := Z.out.at (j := 4) rfl
 have f0 := Z.out.fz 0
 have f1 := Z.out.fz 1
 have f2 := Z.out.fz 2
 have f3 := Z.out.fz 3
 have f4 := Z.out.fz 4
 cases ok
 ·have KF : Hid (heirB p b = false) := by (show _ = _); rw [HV.out]; rfl
  go_wp2_with fail
  change bodyPost _ _ _ _ _ (setsC w5 (w.heap.size + 1 + 1) 0 [.int .i64 0, .int .i64 0, .int .i64 0, .bool false, .slice none 0 0])
  have P9 := Z.out.sets [.int .i64 0, .int .i64 0, .int .i64 0, .bool false, .slice none 0 0] rfl
  have B9 := below_sets (show w.heap.size ≤ w.heap.size + 1 + 1 by omega) [.int .i64 0, .int .i64 0, .int .i64 0, .bool false, .slice none 0 0] 0 BW.out
  refine bodyPost_ret (res_ptB rfl _ _ (w.heap.size + 1 + 1) _ _ _ _ _ (.bool false) rfl rfl P9) rfl ?_
  exact ⟨Pt.zero, none, 0, 0, by rw [KF.out]; rfl, fun h => (by rw [KF.out] at h; cases h), B9⟩
 replace HQ := qH (HQ.out rfl)
 rw [← HQ.out] at HV
 obtain ⟨ka, hka⟩ : ∃ x, p.keep = x := ⟨_, rfl⟩
 obtain ⟨kb, hkb⟩ : ∃ x, q.keep = x := ⟨_, rfl⟩
 rw [hka, hkb] at HV
 rw [hka] at P
 have y2 := P.out.at (j := 2) rfl
 have y3 := P.out.at (j := 3) rfl
 rw [hkb] at Q
 have x0 := Q.out.at (j := 0) rfl
 have x1 := Q.out.at (j := 1) rfl
 have x2 := Q.out.at (j := 2) rfl
 have x3 := Q.out.at (j := 3) rfl
 have x4 := Q.out.at (j := 4) rfl
 have HKB := qH hkb
 clear hka hkb y2
 cases ka
 ·have KF : Hid (heirB p b = false) := by (show _ = _); rw [HV.out]; rfl
  go_wp2_with fail
  change bodyPost _ _ _ _ _ (setsC w5 (w.heap.size + 1 + 1) 0 [.int .i64 0, .int .i64 0, .int .i64 0, .bool false, .slice none 0 0])
  have P9 := Z.out.sets [.int .i64 0, .int .i64 0, .int .i64 0, .bool false, .slice none 0 0] rfl
  have B9 := below_sets (show w.heap.size ≤ w.heap.size + 1 + 1 by omega) [.int .i64 0, .int .i64 0, .int .i64 0, .bool false, .slice none 0 0] 0 BW.out
  refine bodyPost_ret (res_ptB rfl _ _ (w.heap.size + 1 + 1) _ _ _ _ _ (.bool false) rfl rfl P9) rfl ?_
  exact ⟨Pt.zero, none, 0, 0, by rw [KF.out]; rfl, fun h => (by rw [KF.out] at h; cases h), B9⟩
 cases kb
 ·have KF : Hid (heirB p b = false) := by (show _ = _); rw [HV.out]; rfl
  go_wp2_with fail
  change bodyPost _ _ _ _ _ (setsC w5 (w.heap.size + 1 + 1) 0 [.int .i64 0, .int .i64 0, .int .i64 0, .bool false, .slice none 0 0])
  have P9 := Z.out.sets [.int .i64 0, .int .i64 0, .int .i64 0, .bool false, .slice none 0 0] rfl
  have B9 := below_sets (show w.heap.size ≤ w.heap.size + 1 + 1 by omega) [.int .i64 0, .int .i64 0, .int .i64 0, .bool false, .slice none 0 0] 0 BW.out
  refine bodyPost_ret (res_ptB rfl _ _ (w.heap.size + 1 + 1) _ _ _ _ _ (.bool false) rfl rfl P9) rfl ?_
  exact ⟨Pt.zero, none, 0, 0, by rw [KF.out]; rfl, fun h => (by rw [KF.out] at h; cases h), B9⟩
 have KT : Hid (heirB p b = true) := by (show _ = _); rw [HV.out]; rfl
 go_wp2_with fail
 change bodyPost _ _ _ _ _ (setsC w5 (w.heap.size + 1 + 1) 0 [.int .i64 q.id, .int .i64 q.base, .int .i64 q.size, .bool true, .slice A4 m4 c4])
 have P9 := Z.out.sets [.int .i64 q.id, .int .i64 q.base, .int .i64 q.size, .bool true, .slice A4 m4 c4] rfl
 have B9 := below_sets (show w.heap.size ≤ w.heap.size + 1 + 1 by omega) [.int .i64 q.id, .int .i64 q.base, .int .i64 q.size, .bool true, .slice A4 m4 c4] 0 BW.out
 refine bodyPost_ret (res_ptB rfl _ _ (w.heap.size + 1 + 1) _ _ _ _ _ (.bool true) rfl rfl P9) rfl ?_
 exact ⟨q, A4, m4, c4, by rw [KT.out, HKB.out], fun _ => HQ.out, B9⟩
def resB (b : Cf) (p : Pt) : Bool := heirB p b && decide (p.size ≠ (ptI b p.id).size)
theorem wResized (p : Pt) (A : Option Addr) (m c : Nat) (v : CV) (b : Cf) (w : World) (hb : RdCf w w.heap.size v b) (db : Bd v) :
  Calls Tryz.prog 128 #[.agg #[.int .i64 p.id, .int .i64 p.base, .int .i64 p.size, .bool p.keep, .slice A m c], .agg #[.slice v.aw v.nw v.kw, .slice v.ap v.np v.kp, .slice v.ac v.nc v.kc]] w fun x w' => x = .returned (.bool (resB b p)) ∧ Below w.heap.size w w' := by
 obtain ⟨w3, hw3, hb3, hx, hy, hs3, hr⟩ := bx_two w hb 58 28 [.int .i64 p.id, .int .i64 p.base, .int .i64 p.size, .bool p.keep, .slice A m c] (cfL v)
 have R := qH hr
 have P := qH hx
 have X := qH hy
 have BW := qH hb3
 have HW := qH hw3
 have DB := qH db
 have HV : Hid (resB b p = (heirB p b && decide (p.size ≠ (ptI b p.id).size))) := rfl
 clear hb db hw3 hb3 hx hy hs3 hr
 go_enter Tryz.func128, Tryz.ntmps128
 go_upto_region 1 with (fail)
 rw [show (w.alloc (.cells #[.int .i64 p.id, .int .i64 p.base, .int .i64 p.size, .bool p.keep, .slice A m c] 58)).alloc (.cells #[.slice v.aw v.nw v.kw, .slice v.ap v.np v.kp, .slice v.ac v.nc v.kc] 28) = w3 from HW.out]
 clear HW
 obtain ⟨p0, p1, p2⟩ := cf_cells X.out
 have y0 := P.out.at (j := 0) rfl
 have y1 := P.out.at (j := 1) rfl
 have y2 := P.out.at (j := 2) rfl
 have y3 := P.out.at (j := 3) rfl
 have y4 := P.out.at (j := 4) rfl
 go_wp2_with fail
 refine (wHeir p A m c v b w3 R.out DB.out).mono ?_
 rintro e w4 ⟨q, A4, m4, c4, rfl, hq, hb4⟩
 have HQ := qH hq
 replace P := qH (P.out.to hb4)
 replace BW := qH (BW.out.trans (hb4.mono BW.out.size))
 clear hq hb4 p0 p1 p2 y0 y1 y2 y3 y4 X R
 obtain ⟨ok, hok⟩ : ∃ x, heirB p b = x := ⟨_, rfl⟩
 rw [hok] at HV HQ ⊢
 clear hok
 go_upto_region 2 with (fail)
 have Q := qH (Bx.new w4 58 [.int .i64 q.id, .int .i64 q.base, .int .i64 q.size, .bool q.keep, .slice A4 m4 c4])
 have B5 : Below w4.heap.size w4 (w4.alloc (.cells #[.int .i64 q.id, .int .i64 q.base, .int .i64 q.size, .bool q.keep, .slice A4 m4 c4] 58)) := (Below.refl _ _).alloc (Nat.le_refl _) _
 replace P := qH (P.out.to B5)
 replace BW := qH (BW.out.trans (B5.mono BW.out.size))
 generalize w4.alloc (.cells #[.int .i64 q.id, .int .i64 q.base, .int .i64 q.size, .bool q.keep, .slice A4 m4 c4] 58) = w5 at *
 generalize w4.heap.size = g at *
 clear B5 w4
 cases ok
 ·have HF : Hid (false = resB b p) := by (show _ = _); rw [HV.out]; rfl
  go_wp2_with fail
  go_ret
  exact ⟨ret_bool HF.out, BW.out⟩
 ·have HF : Hid ((p.size != q.size) = resB b p) := by (show _ = _); rw [HV.out, HQ.out rfl, Bool.eq_iff_iff]; simp
  have y2 := P.out.at (j := 2) rfl
  have x2 := Q.out.at (j := 2) rfl
  clear HQ HV
  go_wp2_with fail
  go_ret
  exact ⟨ret_bool HF.out, BW.out⟩
theorem pRes (v : CV) (b : Cf) (g : Nat) (w : World) (n : Nat) (l : List Pt) (h : RdCf w w.heap.size v b) (hx : Bx w g 28 (cfL v)) (db : Bd v) :
  PredP w 127 #[.pointer (some ⟨g, 0, none⟩)] n l (fun k => resB b (ptAt l k)) := fun k hk A m cc W hb hr => by
 show Calls Tryz.prog 127 #[.agg #[.int .i64 (ptAt l k).id, .int .i64 (ptAt l k).base, .int .i64 (ptAt l k).size, .bool (ptAt l k).keep, .slice A m cc], .pointer (some ⟨g, 0, none⟩)] W fun e w' => e = .returned (.bool (resB b (ptAt l k))) ∧ Below W.heap.size W w'
 generalize ptAt l k = p at *
 have BA := qH ((Below.refl W.heap.size W).alloc (Nat.le_refl _) (.cells #[.int .i64 p.id, .int .i64 p.base, .int .i64 p.size, .bool p.keep, .slice A m cc] 58))
 have P := qH (show Bx (W.alloc (.cells #[.int .i64 p.id, .int .i64 p.base, .int .i64 p.size, .bool p.keep, .slice A m cc] 58)) W.heap.size 58 [.int .i64 p.id, .int .i64 p.base, .int .i64 p.size, .bool p.keep, .slice A m cc] from Bx.new W _ [.int .i64 p.id, .int .i64 p.base, .int .i64 p.size, .bool p.keep, .slice A m cc])
 have R := qH ((h.to hb).to BA.out)
 have X := qH ((hx.to hb).to BA.out)
 obtain ⟨w1, hw1⟩ : ∃ x, W.alloc (.cells #[.int .i64 p.id, .int .i64 p.base, .int .i64 p.size, .bool p.keep, .slice A m cc] 58) = x := ⟨_, rfl⟩
 rw [hw1] at BA P R X
 have HW := qH hw1
 have DB := qH db
 clear h hx db hr hb hw1
 go_enter Tryz.func127, Tryz.ntmps127
 go_upto_region 1 with (fail)
 rw [HW.out]
 clear HW
 obtain ⟨p0, p1, p2⟩ := cf_cells X.out
 have y0 := P.out.at (j := 0) rfl
 have y1 := P.out.at (j := 1) rfl
 have y2 := P.out.at (j := 2) rfl
 have y3 := P.out.at (j := 3) rfl
 have y4 := P.out.at (j := 4) rfl
 go_wp2_with fail
 refine (wResized p A m cc v b w1 R.out DB.out).mono ?_
 rintro e w2 ⟨rfl, hb⟩
 replace BA := qH (BA.out.trans (hb.mono BA.out.size))
 obtain ⟨d, hd⟩ : ∃ d, resB b p = d := ⟨_, rfl⟩
 rw [hd]
 have HD := qH hd
 clear hd hb p0 p1 p2 y0 y1 y2 y3 y4
 go_wp2_with fail
 go_ret
 exact ⟨ret_bool HD.out.symm, BA.out⟩
theorem ptI_id {c : Cf} {id : Int} (h : hasP c id = true) : (ptI c id).id = id := by
 unfold ptI
 rcases idxB_cases (fun k => (ptAt c.ps k).id == id) c.ps.length with ⟨k, hk, _, hp, e⟩ | ⟨hn, e⟩
 ·rw [← findP_idx] at e
  rw [e, Int.toNat_natCast]
  simpa using hp
 ·rw [← findP_idx] at e
  unfold hasP at h
  rw [e] at h
  cases h
theorem keep_heir {a b : Cf} {id : Int} (h : hasP a id = true) : keepB a b id = heirB (ptI a id) b := by
 unfold keepB heirB
 rw [ptI_id h, h]
 rfl
theorem check_any {a b : Cf} (hm : mayB a b = true) : decide (0 ≤ idxB (fun k => resB b (ptAt a.ps k)) a.ps.length) = anyN (fun j => keepB a b ((j : Int) + 1) && !sizeB a b ((j : Int) + 1)) 6 := by
 have va : Val a := val_of (by unfold mayB at hm; rw [Bool.and_eq_true] at hm; exact hm.1)
 have key : ∀ k, k < a.ps.length → resB b (ptAt a.ps k) = (keepB a b (ptAt a.ps k).id && !sizeB a b (ptAt a.ps k).id) := fun k hk => by
  rw [keep_heir (va.hasI hk)]
  unfold resB sizeB
  rw [va.ptI hk]
  simp
 rw [idx_any, Bool.eq_iff_iff, anyN_iff, anyN_iff]
 constructor
 ·rintro ⟨k, hk, h⟩
  have hi := va.ids k hk
  refine ⟨((ptAt a.ps k).id - 1).toNat, by omega, ?_⟩
  rw [show (((ptAt a.ps k).id - 1).toNat : Int) + 1 = (ptAt a.ps k).id by omega, ← key k hk]
  exact h
 ·rintro ⟨j, hj, h⟩
  have hh : hasP a ((j : Int) + 1) = true := by
   unfold keepB at h
   simp only [Bool.and_eq_true] at h
   exact h.1.1
  obtain ⟨i, hi, e⟩ := hasP_iff.1 hh
  refine ⟨i, hi, ?_⟩
  show resB b (ptAt a.ps i) = true
  rw [key i hi, e]
  exact h
theorem wCheckC (v v' : CV) (a b : Cf) (w : World) (ha : RdCf w w.heap.size v a) (hb : RdCf w w.heap.size v' b) (da : Bd v) (db : Bd v') :
  Calls Tryz.prog 67 #[.agg #[.slice v.aw v.nw v.kw, .slice v.ap v.np v.kp, .slice v.ac v.nc v.kc], .agg #[.slice v'.aw v'.nw v'.kw, .slice v'.ap v'.np v'.kp, .slice v'.ac v'.nc v'.kc]] w fun x w' => x = .returned (.int .i64 (checkC a b)) ∧ Below w.heap.size w w' := by
 obtain ⟨w2, hw2, hb2, hx, hy, hr, hs⟩ := two_boxC w ha hb
 have RA := qH hr
 have RB := qH hs
 have XA := qH hx
 have XB := qH hy
 have B := qH hb2
 have HW := qH hw2
 have DA := qH da
 have DB := qH db
 have LA : Hid (a.ps.length = v.np) := ha.pp.1
 have eg : ∀ args w, (callFunc 127 args).run Tryz.prog w = .ok (.enter 127 args) w := enters_of Tryz.func127 (by kernel_rfl) rfl
 have EG := qH eg
 clear ha hb da db hw2 hb2 hx hy hr hs eg
 go_enter Tryz.func67, Tryz.ntmps67
 go_upto_region 1 with (fail)
 rw [show (w.alloc (.cells #[.slice v.aw v.nw v.kw, .slice v.ap v.np v.kp, .slice v.ac v.nc v.kc] 28)).alloc (.cells #[.slice v'.aw v'.nw v'.kw, .slice v'.ap v'.np v'.kp, .slice v'.ac v'.nc v'.kc] 28) = w2 from HW.out]
 clear HW
 obtain ⟨p0, p1, p2⟩ := cf_cells XA.out
 obtain ⟨q0, q1, q2⟩ := cf_cells XB.out
 go_wp2_with fail
 refine (wFitC v v' a b w2 RA.out RB.out DA.out DB.out).mono ?_
 rintro e w3 ⟨rfl, hb⟩
 replace RA := qH (RA.out.to hb)
 replace RB := qH (RB.out.to hb)
 replace XA := qH (XA.out.to hb)
 replace XB := qH (XB.out.to hb)
 replace B := qH (B.out.trans (hb.mono B.out.size))
 clear hb p0 p1 p2 q0 q1 q2
 obtain ⟨mm, hm⟩ : ∃ x, mayB a b = x := ⟨_, rfl⟩
 rw [hm]
 cases mm
 ·have HF : Hid ((2 : Int) = checkC a b) := by (show _ = _); unfold checkC; rw [hm, if_neg (by decide)]
  clear hm
  go_wp2_with fail
  go_ret
  exact ⟨by rw [← HF.out]; rfl, B.out⟩
 have HF : Hid (checkC a b = if decide (0 ≤ idxB (fun k => resB b (ptAt a.ps k)) v.np) = true then 130 else 0) := by (show _ = _); unfold checkC; rw [if_pos hm, ← LA.out, check_any hm]
 clear hm
 obtain ⟨p0, p1, p2⟩ := cf_cells XA.out
 go_wp2_with fail
 refine (wContainsP _ _ EG.out _ v.ap v.np v.kp a.ps w3 (pRes v' b (w.heap.size + 1) w3 v.np a.ps RB.out XB.out DB.out) RA.out.pp DA.out.2.1).mono ?_
 rintro e w4 ⟨rfl, hb⟩
 replace B := qH (B.out.trans (hb.mono B.out.size))
 clear hb p0 p1 p2
 obtain ⟨d, hd⟩ : ∃ d, decide (0 ≤ idxB (fun k => resB b (ptAt a.ps k)) v.np) = d := ⟨_, rfl⟩
 rw [hd] at HF ⊢
 clear hd
 cases d
 ·go_wp2_with fail
  go_ret
  exact ⟨by rw [HF.out]; rfl, B.out⟩
 ·go_wp2_with fail
  go_ret
  exact ⟨by rw [HF.out]; rfl, B.out⟩
end
end Go.Proofs.YtlmdidblgeeplaaGreatDoor