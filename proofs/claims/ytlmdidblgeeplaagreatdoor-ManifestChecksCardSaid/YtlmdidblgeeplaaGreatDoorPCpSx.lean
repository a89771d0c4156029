/- Several texts in one (a claim has 60 files at most): VaB, CpS. -/
import Derived.Test.YtlmdidblgeeplaaGreatDoorTz
import Derived.Test.YtlmdidblgeeplaaGreatDoorPVaAy
import Derived.Test.YtlmdidblgeeplaaGreatDoorPSchDx
import Derived.Test.YtlmdidblgeeplaaGreatDoorPCpRy
import Derived.Test.YtlmdidblgeeplaaGreatDoorPChDx
namespace Go.Proofs.YtlmdidblgeeplaaGreatDoor
set_option maxRecDepth 1000000
set_option maxHeartbeats 8000000
set_option linter.unusedVariables false
set_option linter.unusedSimpArgs false
section
open Go.RowKit
theorem head_zat (l : List Int) : l.headD 0 = zat l 0 := by cases l <;> rfl
theorem rCheckV (v : CV) (c : Cf) (w : World) (h : RdCf w w.heap.size v c) (hw : v.nw ≤ 1000) (hp : v.np ≤ 1000) (hc : v.nc ≤ 1000) :
  Calls Tryz.prog 68 #[.agg #[.slice v.aw v.nw v.kw, .slice v.ap v.np v.kp, .slice v.ac v.nc v.kc]] w fun x w' => x = .returned (.int .i64 (checkV c)) ∧ Below w.heap.size w w' := by
 have hb1 := (Below.refl w.heap.size w).alloc (Nat.le_refl _) (.cells #[.slice v.aw v.nw v.kw, .slice v.ap v.np v.kp, .slice v.ac v.nc v.kc] 28)
 have hx : Bx (w.alloc (.cells #[.slice v.aw v.nw v.kw, .slice v.ap v.np v.kp, .slice v.ac v.nc v.kc] 28)) w.heap.size 28 (cfL v) := Bx.new w _ (cfL v)
 have R := qH (h.to hb1)
 have B := qH hb1
 have X := qH hx
 have HNW := qH hw
 have HNP := qH hp
 have HNC := qH hc
 clear h hw hp hc hb1 hx
 go_enter Tryz.func68, Tryz.ntmps68
 go_upto_region 1 with (fail)
 generalize w.alloc (.cells #[.slice v.aw v.nw v.kw, .slice v.ap v.np v.kp, .slice v.ac v.nc v.kc] 28) = w1 at *
 have p1 := X.out.at (j := 0) rfl
 have p2 := X.out.at (j := 1) rfl
 have p3 := X.out.at (j := 2) rfl
 go_wp2_with fail
 refine (rAllV v c w1 R.out HNW.out HNP.out HNC.out).mono ?_
 rintro e w2 ⟨A, n, k, rfl, ho, hb⟩
 replace B := qH (B.out.trans (hb.mono B.out.size))
 have HZ := qH (RdZ.of_own ho)
 clear ho hb p1 p2 p3
 by_cases h0 : n = 0
 ·have HF : Hid ((0 : Int) = checkV c) := by
   (show _ = _)
   have := HZ.out.1
   unfold checkV
   rw [List.eq_nil_of_length_eq_zero (this.trans h0)]
   rfl
  subst h0
  go_wp2_with fail
  go_ret
  exact ⟨ret_int HF.out, B.out⟩
 ·obtain ⟨b, o, rfl, _, hc⟩ := HZ.out.2 (by omega)
  have h1 : ((n : Int) == 0) = false := by rw [beq_eq_false_iff_ne]; omega
  have hnI : (0 : Int) < (n : Int) := by omega
  have hnN : 0 < n := by omega
  have c0 := hc 0 (by omega)
  have HF : Hid (zat (allV c) 0 = checkV c) := by (show _ = _); unfold checkV; rw [head_zat]
  clear hc h0
  generalize zat (allV c) 0 = z at *
  rw [Nat.add_zero] at c0
  go_wp2_with fail
  go_ret
  exact ⟨ret_int HF.out, B.out⟩
end
section
open Go.RowKit
theorem check_fits (c : Cf) : (checkV c == 0) = fitsV c := by rw [Bool.eq_iff_iff, beq_iff_eq, fitsV_check]
theorem rMayC (v v' : CV) (a b : Cf) (w : World) (ha : RdCf w w.heap.size v a) (hb : RdCf w w.heap.size v' b) (da : Bd v) (db : Bd v') :
  Calls Tryz.prog 130 #[.agg #[.slice v.aw v.nw v.kw, .slice v.ap v.np v.kp, .slice v.ac v.nc v.kc], .agg #[.slice v'.aw v'.nw v'.kw, .slice v'.ap v'.np v'.kp, .slice v'.ac v'.nc v'.kc]] w fun x w' => x = .returned (.bool (mayB a b)) ∧ Below w.heap.size w w' := by
 obtain ⟨w2, hw2, hb2, hx, hy, hr, hs⟩ := two_boxC w ha hb
 have RA := qH hr
 have RB := qH hs
 have XA := qH hx
 have XB := qH hy
 have B := qH hb2
 have HW := qH hw2
 have DA := qH da
 have DB := qH db
 clear ha hb da db hw2 hb2 hx hy hr hs
 go_enter Tryz.func130, Tryz.ntmps130
 go_upto_region 1 with (fail)
 rw [show (w.alloc (.cells #[.slice v.aw v.nw v.kw, .slice v.ap v.np v.kp, .slice v.ac v.nc v.kc] 28)).alloc (.cells #[.slice v'.aw v'.nw v'.kw, .slice v'.ap v'.np v'.kp, .slice v'.ac v'.nc v'.kc] 28) = w2 from HW.out]
 clear HW
 have p0 := XA.out.at (j := 0) rfl
 have p1 := XA.out.at (j := 1) rfl
 have p2 := XA.out.at (j := 2) rfl
 go_wp2_with fail
 refine (rCheckV v a w2 RA.out DA.out.1 DA.out.2.1 DA.out.2.2).mono ?_
 rintro e w3 ⟨rfl, hb⟩
 replace B := qH (B.out.trans (hb.mono B.out.size))
 replace RB := qH (RB.out.to hb)
 replace XB := qH (XB.out.to hb)
 have HF := qH (check_fits a)
 obtain ⟨z, hz⟩ : ∃ z, checkV a = z := ⟨_, rfl⟩
 rw [hz] at HF ⊢
 clear hb hz p0 p1 p2 XA RA
 cases hf : (z == 0)
 ·have HM : Hid (false = mayB a b) := by (show _ = _); unfold mayB; rw [← HF.out, hf]; rfl
  go_wp2_with fail
  go_ret
  exact ⟨ret_bool HM.out, B.out⟩
 ·have HA : Hid (fitsV a = true) := by (show _ = _); rw [← HF.out, hf]
  have p0 := XB.out.at (j := 0) rfl
  have p1 := XB.out.at (j := 1) rfl
  have p2 := XB.out.at (j := 2) rfl
  go_wp2_with fail
  refine (rCheckV v' b w3 RB.out DB.out.1 DB.out.2.1 DB.out.2.2).mono ?_
  rintro e w4 ⟨rfl, hb⟩
  replace B := qH (B.out.trans (hb.mono B.out.size))
  have HG := qH (check_fits b)
  obtain ⟨y, hy⟩ : ∃ z, checkV b = z := ⟨_, rfl⟩
  rw [hy] at HG ⊢
  clear hb hy p0 p1 p2
  go_wp2_with fail
  go_ret
  refine ⟨ret_bool ?_, B.out⟩
  unfold mayB
  rw [HA.out, HG.out]; rfl
theorem rCheckC (v v' : CV) (a b : Cf) (w : World) (ha : RdCf w w.heap.size v a) (hb : RdCf w w.heap.size v' b) (da : Bd v) (db : Bd v') :
  Calls Tryz.prog 69 #[.agg #[.slice v.aw v.nw v.kw, .slice v.ap v.np v.kp, .slice v.ac v.nc v.kc], .agg #[.slice v'.aw v'.nw v'.kw, .slice v'.ap v'.np v'.kp, .slice v'.ac v'.nc v'.kc]] w fun x w' => x = .returned (.int .i64 (checkC a b)) ∧ Below w.heap.size w w' := by
 obtain ⟨w2, hw2, hb2, hx, hy, hr, hs⟩ := two_boxC w ha hb
 have RA := qH hr
 have RB := qH hs
 have XA := qH hx
 have XB := qH hy
 have B := qH hb2
 have HW := qH hw2
 have DA := qH da
 have DB := qH db
 clear ha hb da db hw2 hb2 hx hy hr hs
 go_enter Tryz.func69, Tryz.ntmps69
 go_upto_region 1 with (fail)
 rw [show (w.alloc (.cells #[.slice v.aw v.nw v.kw, .slice v.ap v.np v.kp, .slice v.ac v.nc v.kc] 28)).alloc (.cells #[.slice v'.aw v'.nw v'.kw, .slice v'.ap v'.np v'.kp, .slice v'.ac v'.nc v'.kc] 28) = w2 from HW.out]
 clear HW
 obtain ⟨p0, p1, p2⟩ := cf_cells XA.out
 obtain ⟨q0, q1, q2⟩ := cf_cells XB.out
 go_wp2_with fail
 refine (rMayC v v' a b w2 RA.out RB.out DA.out DB.out).mono ?_
 rintro e w3 ⟨rfl, hb⟩
 replace RA := qH (RA.out.to hb)
 replace RB := qH (RB.out.to hb)
 replace XA := qH (XA.out.to hb)
 replace XB := qH (XB.out.to hb)
 replace B := qH (B.out.trans (hb.mono B.out.size))
 clear hb p0 p1 p2 q0 q1 q2
 obtain ⟨mb, hmb⟩ : ∃ k, mayB a b = k := ⟨_, rfl⟩
 have HM := qH hmb
 rw [hmb]
 clear hmb
 cases mb
 ·have HF : Hid ((2 : Int) = checkC a b) := by (show _ = _); unfold checkC; rw [HM.out]; rfl
  go_wp2_with fail
  go_ret
  exact ⟨ret_int HF.out, B.out⟩
 go_wp2_with fail
 go_loopw [5, 6, 7, 8] (fun s5 _ _ _ wr => ∃ k : Nat, k ≤ 6 ∧ s5 = .int .i64 ((k : Int) + 1) ∧ (∀ j, j < k → (keepB a b ((j : Int) + 1) && !sizeB a b ((j : Int) + 1)) = false) ∧ Below w3.heap.size w3 wr) (fun s5 _ _ _ _ => (7 - intOf s5).toNat)
 case atStart => exact ⟨0, Nat.zero_le _, rfl, fun j hj => absurd hj (Nat.not_lt_zero _), Below.refl _ _⟩
 case round =>
  obtain ⟨k, hk, rfl, hno, hbel⟩ := hrel
  have BD := qH hbel
  have NO := qH hno
  have HK := qH hk
  clear hbel hno hk
  obtain ⟨id, hid⟩ : ∃ i, (k : Int) + 1 = i := ⟨_, rfl⟩
  have HID := qH hid
  rw [hid]
  clear hid
  by_cases hlt : k < 6
  ·have hle : id ≤ 6 := by have := HID.out; omega
   have HLT := qH hlt
   have hwk : IntKind.i64.wrap (id + 1) = id + 1 := by have := HID.out; rw [IntKind.wrap_i64]; omega
   have RA4 := qH (RA.out.to BD.out)
   have RB4 := qH (RB.out.to BD.out)
   obtain ⟨p0, p1, p2⟩ := cf_cells (XA.out.to BD.out)
   obtain ⟨q0, q1, q2⟩ := cf_cells (XB.out.to BD.out)
   clear hlt
   go_wp2_with fail
   refine (rBoth v v' a b id wr RA4.out RB4.out DA.out DB.out).mono ?_
   rintro e w4 ⟨p, q, A, A', m, m', c, c', rfl, hpq, hb⟩
   replace BD := qH (BD.out.trans (hb.mono BD.out.size))
   clear hb p0 p1 p2 q0 q1 q2 RA4 RB4
   have hal := ((Below.refl w4.heap.size w4).alloc (Nat.le_refl _) (.cells #[.int .i64 p.id, .int .i64 p.base, .int .i64 p.size, .bool p.keep, .slice A m c] 58)).alloc (by simp) (.cells #[.int .i64 q.id, .int .i64 q.base, .int .i64 q.size, .bool q.keep, .slice A' m' c'] 58)
   have hP := (Bx.new w4 58 [.int .i64 p.id, .int .i64 p.base, .int .i64 p.size, .bool p.keep, .slice A m c]).to ((Below.refl _ _).alloc (Nat.le_refl _) (.cells #[.int .i64 q.id, .int .i64 q.base, .int .i64 q.size, .bool q.keep, .slice A' m' c'] 58))
   have hQ := Bx.new (w4.alloc (.cells #[.int .i64 p.id, .int .i64 p.base, .int .i64 p.size, .bool p.keep, .slice A m c] 58)) 58 [.int .i64 q.id, .int .i64 q.base, .int .i64 q.size, .bool q.keep, .slice A' m' c']
   rw [show (w4.alloc (.cells #[.int .i64 p.id, .int .i64 p.base, .int .i64 p.size, .bool p.keep, .slice A m c] 58)).heap.size = w4.heap.size + 1 from by simp] at hQ
   obtain ⟨w5, hw5⟩ : ∃ x, (w4.alloc (.cells #[.int .i64 p.id, .int .i64 p.base, .int .i64 p.size, .bool p.keep, .slice A m c] 58)).alloc (.cells #[.int .i64 q.id, .int .i64 q.base, .int .i64 q.size, .bool q.keep, .slice A' m' c'] 58) = x := ⟨_, rfl⟩
   have BP : Hid (Bx w5 w4.heap.size 58 [.int .i64 p.id, .int .i64 p.base, .int .i64 p.size, .bool p.keep, .slice A m c]) := by rw [← hw5]; exact hP
   have BQ : Hid (Bx w5 (w4.heap.size + 1) 58 [.int .i64 q.id, .int .i64 q.base, .int .i64 q.size, .bool q.keep, .slice A' m' c']) := by rw [← hw5]; exact hQ
   rw [hw5] at hal
   have HW5 := qH hw5
   have HPQ := qH hpq
   replace BD := qH (BD.out.trans (hal.mono BD.out.size))
   obtain ⟨kb, hkb⟩ : ∃ k, keepB a b id = k := ⟨_, rfl⟩
   have HKB := qH hkb
   rw [hkb]
   clear hP hQ hw5 hal hpq hkb
   go_upto_region 7 with (fail)
   rw [HW5.out]
   clear HW5
   have NX : Hid ((keepB a b id && !sizeB a b id) = false → ∀ j, j < k + 1 → (keepB a b ((j : Int) + 1) && !sizeB a b ((j : Int) + 1)) = false) := fun h j hj => by
    rcases Nat.lt_or_ge j k with g | g
    ·exact NO.out j g
    ·obtain rfl : j = k := by omega
     rw [HID.out]; exact h
   cases kb
   ·have NX2 := qH (NX.out (by rw [HKB.out]; rfl))
    go_wp2_with fail
    go_roundw
    case rel => exact ⟨k + 1, HLT.out, by rw [← HID.out]; go_num, NX2.out, BD.out⟩
    case measure => have := HID.out; simp [intOf]; omega
   ·obtain ⟨rfl, rfl⟩ := HPQ.out HKB.out
    have z2 := BP.out.at (j := 2) rfl
    have y2 := BQ.out.at (j := 2) rfl
    by_cases hs : (ptI a id).size = (ptI b id).size
    ·have hs2 : ((ptI a id).size != (ptI b id).size) = false := by simp [hs]
     have NX2 := qH (NX.out (by rw [HKB.out, sizeB, decide_eq_true hs]; rfl))
     clear hs
     go_wp2_with fail
     go_roundw
     case rel => exact ⟨k + 1, HLT.out, by rw [← HID.out]; go_num, NX2.out, BD.out⟩
     case measure => have := HID.out; simp [intOf]; omega
    ·have hs2 : ((ptI a id).size != (ptI b id).size) = true := bne_iff_ne.2 hs
     have HF : Hid ((130 : Int) = checkC a b) := by
      (show _ = _)
      unfold checkC
      rw [HM.out, if_pos rfl, if_pos]
      exact anyN_iff.2 ⟨k, HLT.out, by rw [HID.out, HKB.out, sizeB, decide_eq_false hs]; rfl⟩
     clear hs
     go_wp2_with fail
     go_ret
     exact ⟨ret_int HF.out, B.out.trans (BD.out.mono B.out.size)⟩
  ·obtain rfl : k = 6 := by have := HK.out; omega
   have hle : ¬ id ≤ 6 := by have := HID.out; omega
   have HF : Hid ((0 : Int) = checkC a b) := by
    (show _ = _)
    unfold checkC
    rw [HM.out, if_pos rfl, anyN_no.2 NO.out]; rfl
   clear hlt
   go_wp2_with fail
   go_ret
   exact ⟨ret_int HF.out, B.out.trans (BD.out.mono B.out.size)⟩
end
end Go.Proofs.YtlmdidblgeeplaaGreatDoor