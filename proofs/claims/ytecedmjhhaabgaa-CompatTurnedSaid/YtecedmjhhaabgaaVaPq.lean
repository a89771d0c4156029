/- Several texts in one (a claim has 60 files at most): VaPa, VaPb, VaPc, VaP. -/
import Derived.Test.YtecedmjhhaabgaaCfBq
import Derived.Test.YtecedmjhhaabgaaCfLq
import Derived.Test.YtecedmjhhaabgaaVaM
import Derived.Test.YtecedmjhhaabgaaSchWq
import Derived.Test.YtecedmjhhaabgaaChTq
import Derived.Test.YtecedmjhhaabgaaRegAq
import Derived.Test.YtecedmjhhaabgaaCfWq
import Derived.Test.YtecedmjhhaabgaaPairQ
import Derived.Test.YtecedmjhhaabgaaVaR
import Derived.Test.YtecedmjhhaabgaaVaB
namespace Go.Proofs.Ytecedmjhhaabgaa

/- The program's valid, part one: has; the faults of windows, partitions, regions, channels. -/
section
open Go.RowKit
set_option linter.unusedVariables false
set_option linter.unusedSimpArgs false

theorem any_rat (l : List Reg) (p : Reg → Bool) : l.any p = anyN (fun i => p (rat l i)) l.length := by
  rw [Bool.eq_iff_iff, List.any_eq_true, anyN_iff]
  constructor
  · rintro ⟨x, hx, hp⟩
    obtain ⟨i, hi, rfl⟩ := List.getElem_of_mem hx
    exact ⟨i, hi, by rw [rat_lt hi]; exact hp⟩
  · rintro ⟨i, hi, hp⟩
    exact ⟨rat l i, by rw [rat_lt hi]; exact List.getElem_mem _, hp⟩
theorem idx_any (p : Nat → Bool) (n : Nat) : decide (0 ≤ idxB p n) = anyN p n := by
  rcases idxB_cases p n with ⟨k, hk, _, hp, e⟩ | ⟨hn, e⟩
  · rw [e, anyN_iff.2 ⟨k, hk, hp⟩]; simp
  · rw [e, anyN_no.2 hn]; rfl
set_option maxRecDepth 1000000 in
set_option maxHeartbeats 1000000 in
theorem wHasV (v : CV) (c : Cf) (id : Int) (w : World) (h : RdCf w w.heap.size v c) (hp : v.np ≤ 1000) :
    Calls Try.prog 67 #[.agg #[.slice v.aw v.nw v.kw, .slice v.ap v.np v.kp, .slice v.ac v.nc v.kc], .int .i64 id] w fun x w' => x = .returned (.bool (hasP c id)) ∧ Below w.heap.size w w' := by
  obtain ⟨w1, hw1, hb1, hx, hr⟩ := one_box w h
  have R := Lib.hid hr
  have X := Lib.hid hx
  have B := Lib.hid hb1
  have HW := Lib.hid hw1
  have HP := Lib.hid hp
  clear h hp hw1 hb1 hx hr
  go_enter Try.func67, Try.ntmps67
  go_upto_region 1 with (fail)
  rw [show w.alloc (.cells #[.slice v.aw v.nw v.kw, .slice v.ap v.np v.kp, .slice v.ac v.nc v.kc] 26) = w1 from HW.out]
  clear HW
  have x0 := X.out.at (j := 0) rfl
  have x1 := X.out.at (j := 1) rfl
  have x2 := X.out.at (j := 2) rfl
  go_wp2_with fail
  refine (wPart v c id w1 R.out HP.out).mono ?_
  rintro e w2 ⟨A3, m3, c3, rfl, ho, hc1, hc2, hb⟩
  have B2 := Lib.hid (B.out.trans (hb.mono B.out.size))
  obtain ⟨d, hd⟩ : ∃ d, decide (0 ≤ findP c.ps id) = d := ⟨_, rfl⟩
  have HD : Hid (d = hasP c id) := by (show _ = _); rw [← hd]; rfl
  simp only [hd]
  generalize partV c id = p at *
  clear hd ho hc1 hc2 hb x0 x1 x2
  go_wp2_with fail
  go_ret
  exact ⟨ret_bool HD.out, B2.out.alloc B2.out.size _⟩
/-- 'func(w) bool { return w.Part != 0 && !has(c, w.Part) }', the configuration in a box. -/
theorem pWinV (v : CV) (c : Cf) (g : Nat) (w : World) (h : RdCf w w.heap.size v c) (hx : Bx w g 26 (cfL v)) (hp : v.np ≤ 1000) :
    PredBelow Try.prog 66 #[.pointer (some ⟨g, 0, none⟩)] winV (fun x => decide (x.2 ≠ 0) && !hasP c x.2) w := fun W x hb => by
  obtain ⟨a, s⟩ := x
  have BA := Lib.hid ((Below.refl W.heap.size W).alloc (Nat.le_refl _) (.cells #[.int .i64 a, .int .i64 s] 59))
  have R := Lib.hid ((h.to hb).to BA.out)
  have X := Lib.hid ((hx.to hb).to BA.out)
  have HB := Lib.hid (hb.trans (BA.out.mono hb.size))
  have HP := Lib.hid hp
  show Calls Try.prog 66 #[.agg #[.int .i64 a, .int .i64 s], .pointer (some ⟨g, 0, none⟩)] W _
  clear h hx hb hp
  go_enter Try.func66, Try.ntmps66
  have x0 := X.out.at (j := 0) rfl
  have x1 := X.out.at (j := 1) rfl
  have x2 := X.out.at (j := 2) rfl
  by_cases h0 : s = 0
  · subst h0
    go_wp2_with fail
    go_ret
    exact ⟨rfl, HB.out⟩
  · have hn : (s != 0) = true := bne_iff_ne.2 h0
    have HD : Hid (decide (s ≠ 0) = true) := by (show _ = _); exact decide_eq_true h0
    clear h0
    go_wp2_with fail
    refine (wHasV v c s _ R.out HP.out).mono ?_
    rintro e w2 ⟨rfl, hb⟩
    have B2 := Lib.hid (HB.out.trans (hb.mono HB.out.size))
    obtain ⟨d, hd⟩ : ∃ d, hasP c s = d := ⟨_, rfl⟩
    rw [hd]
    have HE := Lib.hid hd
    clear hd hb
    go_wp2_with fail
    go_ret
    exact ⟨ret_bool (by show _ = (decide (s ≠ 0) && !hasP c s); rw [HD.out, HE.out]; rfl), B2.out⟩
theorem fltW_eq {c : Cf} (h : mayW c.ws = true) : (c.ws.any fun x => decide (x.2 ≠ 0) && !hasP c x.2) = fltW c := by
  unfold fltW wrW
  rw [h, any_rat]; rfl
theorem fltW_no {c : Cf} (h : mayW c.ws = false) : fltW c = true := by
  unfold fltW
  rw [h]; rfl
set_option maxRecDepth 1000000 in
set_option maxHeartbeats 1000000 in
theorem wWrongW (v : CV) (c : Cf) (w : World) (h : RdCf w w.heap.size v c) (hw : v.nw ≤ 1000) (hp : v.np ≤ 1000) :
    Calls Try.prog 54 #[.agg #[.slice v.aw v.nw v.kw, .slice v.ap v.np v.kp, .slice v.ac v.nc v.kc]] w fun x w' => x = .returned (.bool (fltW c)) ∧ Below w.heap.size w w' := by
  obtain ⟨w1, hw1, hb1, hx, hr⟩ := one_box w h
  have R := Lib.hid hr
  have X := Lib.hid hx
  have B := Lib.hid hb1
  have HW := Lib.hid hw1
  have HP := Lib.hid hp
  have HN := Lib.hid hw
  have eg : ∀ args w, (callFunc 66 args).run Try.prog w = .ok (.enter 66 args) w := enters_of Try.func66 (by kernel_rfl) rfl
  have EG := Lib.hid eg
  clear h hw hp hw1 hb1 hx hr eg
  go_enter Try.func54, Try.ntmps54
  go_upto_region 1 with (fail)
  rw [show w.alloc (.cells #[.slice v.aw v.nw v.kw, .slice v.ap v.np v.kp, .slice v.ac v.nc v.kc] 26) = w1 from HW.out]
  clear HW
  have x0 := X.out.at (j := 0) rfl
  go_wp2_with fail
  refine (Sch.may v.aw v.nw v.kw c.ws w1 R.out.ww (by have := HN.out; omega)).mono ?_
  rintro e w2 ⟨rfl, hb⟩
  have B2 := Lib.hid (B.out.trans (hb.mono B.out.size))
  replace R := Lib.hid (R.out.to hb)
  replace X := Lib.hid (X.out.to hb)
  clear hb x0
  have x0 := X.out.at (j := 0) rfl
  cases hm : mayW c.ws
  · have HF := Lib.hid (fltW_no hm)
    clear hm
    go_wp2_with fail
    go_ret
    exact ⟨ret_bool HF.out.symm, B2.out⟩
  · have HF := Lib.hid (fltW_eq hm)
    clear hm
    go_wp2_with fail
    refine (Sch.contains _ _ EG.out _ v.aw v.nw v.kw c.ws w2 (pWinV v c w.heap.size w2 R.out X.out HP.out) R.out.ww (by have := HN.out; omega)).mono ?_
    rintro e w3 ⟨rfl, hb⟩
    have B3 := Lib.hid (B2.out.trans (hb.mono B2.out.size))
    rw [HF.out]
    clear hb
    go_wp2_with fail
    go_ret
    exact ⟨rfl, B3.out⟩
/-- 'func(p) bool { return !region.May(p.Region) || len(p.Image) > p.Region.Size }'. -/
theorem pRegV (c : Cf) (w : World) (n : Nat) : PredP w 68 #[] n c.ps (wrR c) := fun k hk A m cc W hb hr => by
  show Calls Try.prog 68 #[.agg #[.int .i64 (ptAt c.ps k).id, .int .i64 (ptAt c.ps k).base, .int .i64 (ptAt c.ps k).size, .bool (ptAt c.ps k).keep, .slice A m cc]] W fun e w' => e = .returned (.bool (wrR c k)) ∧ Below W.heap.size W w'
  have HV : Hid (wrR c k = (!mayR ((ptAt c.ps k).base, (ptAt c.ps k).size) || decide ((ptAt c.ps k).size < ((ptAt c.ps k).img.length : Int)))) := rfl
  rw [HV.out]
  clear HV
  generalize ptAt c.ps k = p at *
  have HL := Lib.hid hr.1
  have BA := Lib.hid ((Below.refl W.heap.size W).alloc (Nat.le_refl _) (.cells #[.int .i64 p.id, .int .i64 p.base, .int .i64 p.size, .bool p.keep, .slice A m cc] 43))
  have P1 : Bx (W.alloc (.cells #[.int .i64 p.id, .int .i64 p.base, .int .i64 p.size, .bool p.keep, .slice A m cc] 43)) W.heap.size 43 [.int .i64 p.id, .int .i64 p.base, .int .i64 p.size, .bool p.keep, .slice A m cc] := Bx.new W _ [.int .i64 p.id, .int .i64 p.base, .int .i64 p.size, .bool p.keep, .slice A m cc]
  have P := Lib.hid P1
  obtain ⟨w1, hw1⟩ : ∃ x, W.alloc (.cells #[.int .i64 p.id, .int .i64 p.base, .int .i64 p.size, .bool p.keep, .slice A m cc] 43) = x := ⟨_, rfl⟩
  rw [hw1] at BA P
  have HW := Lib.hid hw1
  clear hr hb hw1 P1
  go_enter Try.func68, Try.ntmps68
  go_upto_region 1 with (fail)
  rw [HW.out]
  clear HW
  have y1 := P.out.at (j := 1) rfl
  have y2 := P.out.at (j := 2) rfl
  go_wp2_with fail
  refine (wMayR p.base p.size w1).mono ?_
  rintro e w2 ⟨rfl, hb⟩
  replace BA := Lib.hid (BA.out.trans (hb.mono BA.out.size))
  replace P := Lib.hid (P.out.to hb)
  clear hb y1 y2
  have y2 := P.out.at (j := 2) rfl
  have y4 := P.out.at (j := 4) rfl
  cases hm : mayR (p.base, p.size)
  · have HM := Lib.hid hm
    clear hm
    go_wp2_with fail
    go_ret
    exact ⟨ret_bool (by rw [HM.out]; rfl), BA.out⟩
  · have HM := Lib.hid hm
    clear hm
    go_wp2_with fail
    go_ret
    exact ⟨ret_bool (by rw [HM.out, HL.out]; rfl), BA.out⟩
set_option maxRecDepth 1000000 in
set_option maxHeartbeats 1000000 in
theorem wWrongR (v : CV) (c : Cf) (w : World) (h : RdCf w w.heap.size v c) (hp : v.np ≤ 1000) :
    Calls Try.prog 56 #[.agg #[.slice v.aw v.nw v.kw, .slice v.ap v.np v.kp, .slice v.ac v.nc v.kc]] w fun x w' => x = .returned (.bool (fltR c)) ∧ Below w.heap.size w w' := by
  obtain ⟨w1, hw1, hb1, hx, hr⟩ := one_box w h
  have R := Lib.hid hr
  have X := Lib.hid hx
  have B := Lib.hid hb1
  have HW := Lib.hid hw1
  have HP := Lib.hid hp
  have HF : Hid (decide (0 ≤ idxB (wrR c) v.np) = fltR c) := by (show _ = _); rw [idx_any]; unfold fltR; rw [h.pp.1]
  have eg : ∀ args w, (callFunc 68 args).run Try.prog w = .ok (.enter 68 args) w := enters_of Try.func68 (by kernel_rfl) rfl
  have EG := Lib.hid eg
  clear h hp hw1 hb1 hx hr eg
  go_enter Try.func56, Try.ntmps56
  go_upto_region 1 with (fail)
  rw [show w.alloc (.cells #[.slice v.aw v.nw v.kw, .slice v.ap v.np v.kp, .slice v.ac v.nc v.kc] 26) = w1 from HW.out]
  clear HW
  have x1 := X.out.at (j := 1) rfl
  go_wp2_with fail
  refine (wContainsP _ _ EG.out _ v.ap v.np v.kp c.ps w1 (pRegV c w1 v.np) R.out.pp HP.out).mono ?_
  rintro e w2 ⟨rfl, hb⟩
  have B2 := Lib.hid (B.out.trans (hb.mono B.out.size))
  rw [HF.out]
  clear hb
  go_wp2_with fail
  go_ret
  exact ⟨rfl, B2.out⟩
/-- 'func(x) bool { return !has(c, x.From) || !has(c, x.To) }', the configuration in a box. -/
theorem pChanV (v : CV) (c : Cf) (g : Nat) (w : World) (n : Nat) (h : RdCf w w.heap.size v c) (hx : Bx w g 26 (cfL v)) (hp : v.np ≤ 1000) :
    PredC w 73 #[.pointer (some ⟨g, 0, none⟩)] n c.cs (wrC c) := fun k hk W hb => by
  show Calls Try.prog 73 #[.agg #[.int .i64 (chAt c.cs k).id, .int .i64 (chAt c.cs k).fr, .int .i64 (chAt c.cs k).dst, .int .i64 (chAt c.cs k).cap, .int .i64 (chAt c.cs k).size], .pointer (some ⟨g, 0, none⟩)] W fun e w' => e = .returned (.bool (wrC c k)) ∧ Below W.heap.size W w'
  have HV : Hid (wrC c k = (!hasP c (chAt c.cs k).fr || !hasP c (chAt c.cs k).dst)) := rfl
  rw [HV.out]
  clear HV
  generalize chAt c.cs k = p at *
  have BA := Lib.hid ((Below.refl W.heap.size W).alloc (Nat.le_refl _) (.cells #[.int .i64 p.id, .int .i64 p.fr, .int .i64 p.dst, .int .i64 p.cap, .int .i64 p.size] 47))
  have P1 : Bx (W.alloc (.cells #[.int .i64 p.id, .int .i64 p.fr, .int .i64 p.dst, .int .i64 p.cap, .int .i64 p.size] 47)) W.heap.size 47 [.int .i64 p.id, .int .i64 p.fr, .int .i64 p.dst, .int .i64 p.cap, .int .i64 p.size] := Bx.new W _ [.int .i64 p.id, .int .i64 p.fr, .int .i64 p.dst, .int .i64 p.cap, .int .i64 p.size]
  have P := Lib.hid P1
  have R := Lib.hid ((h.to hb).to BA.out)
  have X := Lib.hid ((hx.to hb).to BA.out)
  obtain ⟨w1, hw1⟩ : ∃ x, W.alloc (.cells #[.int .i64 p.id, .int .i64 p.fr, .int .i64 p.dst, .int .i64 p.cap, .int .i64 p.size] 47) = x := ⟨_, rfl⟩
  rw [hw1] at BA P R X
  have HW := Lib.hid hw1
  have HP := Lib.hid hp
  clear h hx hp hb hw1 P1
  go_enter Try.func73, Try.ntmps73
  go_upto_region 1 with (fail)
  rw [HW.out]
  clear HW
  have y1 := P.out.at (j := 1) rfl
  have x0 := X.out.at (j := 0) rfl
  have x1 := X.out.at (j := 1) rfl
  have x2 := X.out.at (j := 2) rfl
  go_wp2_with fail
  refine (wHasV v c p.fr w1 R.out HP.out).mono ?_
  rintro e w2 ⟨rfl, hb⟩
  replace BA := Lib.hid (BA.out.trans (hb.mono BA.out.size))
  replace P := Lib.hid (P.out.to hb)
  replace R := Lib.hid (R.out.to hb)
  replace X := Lib.hid (X.out.to hb)
  clear hb y1 x0 x1 x2
  cases hm : hasP c p.fr
  · have HM := Lib.hid hm
    clear hm
    go_wp2_with fail
    go_ret
    exact ⟨ret_bool (by rw [HM.out]; rfl), BA.out⟩
  · have HM := Lib.hid hm
    clear hm
    have y2 := P.out.at (j := 2) rfl
    have x0 := X.out.at (j := 0) rfl
    have x1 := X.out.at (j := 1) rfl
    have x2 := X.out.at (j := 2) rfl
    go_wp2_with fail
    refine (wHasV v c p.dst w2 R.out HP.out).mono ?_
    rintro e w3 ⟨rfl, hb⟩
    replace BA := Lib.hid (BA.out.trans (hb.mono BA.out.size))
    obtain ⟨d, hd⟩ : ∃ d, hasP c p.dst = d := ⟨_, rfl⟩
    rw [hd]
    have HD := Lib.hid hd
    clear hd hb
    go_wp2_with fail
    go_ret
    exact ⟨ret_bool (by rw [HM.out, HD.out]; rfl), BA.out⟩
set_option maxRecDepth 1000000 in
set_option maxHeartbeats 1000000 in
/-- slices.ContainsFunc at channels, any function. -/
theorem wContainsCh (g : FuncId) (lb : Array Value) (eg : ∀ args w, (callFunc g args).run Try.prog w = .ok (.enter g args) w) (p : Nat → Bool) (A : Option Addr) (n c : Nat) (l : List Ch) (w : World)
    (hp : PredC w g lb n l p) (h : RdC w w.heap.size A n l) (hn : n ≤ 1000) :
    Calls Try.prog 72 #[.slice A n c, .func (.func g) #[] lb] w fun e w' => e = .returned (.bool (decide (0 ≤ idxB p n))) ∧ Below w.heap.size w w' := by
  have W := Lib.hid (wIndexC g lb eg p A n c l w hp h hn)
  clear h hp hn
  go_enter Try.func72, Try.ntmps72
  go_wp2_with fail
  refine W.out.mono ?_
  rintro e w1 ⟨rfl, hb⟩
  have B := Lib.hid hb
  obtain ⟨x, hx⟩ : ∃ x, idxB p n = x := ⟨_, rfl⟩
  rw [hx]
  replace hx := Lib.hid hx
  go_wp2_with fail
  go_ret
  exact ⟨by rw [hx.out]; rfl, B.out⟩
set_option maxRecDepth 1000000 in
set_option maxHeartbeats 1000000 in
theorem wWrongC (v : CV) (c : Cf) (w : World) (h : RdCf w w.heap.size v c) (hp : v.np ≤ 1000) (hc : v.nc ≤ 1000) :
    Calls Try.prog 58 #[.agg #[.slice v.aw v.nw v.kw, .slice v.ap v.np v.kp, .slice v.ac v.nc v.kc]] w fun x w' => x = .returned (.bool (fltC c)) ∧ Below w.heap.size w w' := by
  obtain ⟨w1, hw1, hb1, hx, hr⟩ := one_box w h
  have R := Lib.hid hr
  have X := Lib.hid hx
  have B := Lib.hid hb1
  have HW := Lib.hid hw1
  have HP := Lib.hid hp
  have HN := Lib.hid hc
  have LC : Hid (c.cs.length = v.nc) := h.cc.1
  have eg : ∀ args w, (callFunc 73 args).run Try.prog w = .ok (.enter 73 args) w := enters_of Try.func73 (by kernel_rfl) rfl
  have EG := Lib.hid eg
  clear h hp hc hw1 hb1 hx hr eg
  go_enter Try.func58, Try.ntmps58
  go_upto_region 1 with (fail)
  rw [show w.alloc (.cells #[.slice v.aw v.nw v.kw, .slice v.ap v.np v.kp, .slice v.ac v.nc v.kc] 26) = w1 from HW.out]
  clear HW
  have x2 := X.out.at (j := 2) rfl
  by_cases h8 : 8 < v.nc
  · have hI : (8 : Int) < (v.nc : Int) := by omega
    have HF : Hid (fltC c = true) := by (show _ = _); unfold fltC; rw [LC.out, decide_eq_true h8]; rfl
    clear h8
    go_wp2_with fail
    go_ret
    exact ⟨ret_bool HF.out.symm, B.out⟩
  · have hI : ¬ (8 : Int) < (v.nc : Int) := by omega
    have H8 : Hid (decide (8 < v.nc) = false) := by (show _ = _); exact decide_eq_false h8
    clear h8
    go_wp2_with fail
    refine (wAll v.ac v.nc v.kc c.cs w1 R.out.cc HN.out).mono ?_
    rintro e w2 ⟨rfl, hb⟩
    replace B := Lib.hid (B.out.trans (hb.mono B.out.size))
    replace R := Lib.hid (R.out.to hb)
    replace X := Lib.hid (X.out.to hb)
    clear hb x2
    have x2 := X.out.at (j := 2) rfl
    by_cases ha : allE c.cs = 0
    · have HF : Hid (decide (0 ≤ idxB (wrC c) v.nc) = fltC c) := by (show _ = _); rw [idx_any]; unfold fltC; rw [LC.out, H8.out, decide_eq_false (not_not_intro ha)]; rfl
      rw [ha]
      clear ha
      go_wp2_with fail
      refine (wContainsCh _ _ EG.out _ v.ac v.nc v.kc c.cs w2 (pChanV v c w.heap.size w2 v.nc R.out X.out HP.out) R.out.cc HN.out).mono ?_
      rintro e w3 ⟨rfl, hb⟩
      have B3 := Lib.hid (B.out.trans (hb.mono B.out.size))
      rw [HF.out]
      clear hb
      go_wp2_with fail
      go_ret
      exact ⟨rfl, B3.out⟩
    · have HF : Hid (fltC c = true) := by (show _ = _); unfold fltC; rw [decide_eq_true ha, Bool.or_true]; rfl
      obtain ⟨z, hz⟩ : ∃ z, allE c.cs = z := ⟨_, rfl⟩
      rw [hz] at ha ⊢
      have hn : (z != 0) = true := bne_iff_ne.2 ha
      clear ha hz
      go_wp2_with fail
      go_ret
      exact ⟨ret_bool HF.out.symm, B.out⟩
end

/- The program's valid, part two: the faults of partitions, of memory that is two's. -/
section
open Go.RowKit
set_option linter.unusedVariables false
set_option linter.unusedSimpArgs false

/-- The ID that came last. -/
def lastP (c : Cf) (k : Nat) : Int := if k = 0 then 0 else (ptAt c.ps (k - 1)).id
theorem lastP_wr {c : Cf} {k : Nat} (h : ∀ j, j < k → wrP c j = false) : wrP c k = (decide ((ptAt c.ps k).id ≤ lastP c k) || decide (6 < (ptAt c.ps k).id)) := by
  rw [Bool.eq_iff_iff]
  cases k with
  | zero =>
    simp only [wrP, lastP, Bool.or_eq_true, Bool.and_eq_true, decide_eq_true_eq, if_true]
    omega
  | succ k =>
    have h1 := h k (Nat.lt_succ_self k)
    rw [Bool.eq_false_iff] at h1
    simp only [wrP, lastP, Bool.or_eq_true, Bool.and_eq_true, decide_eq_true_eq, ne_eq, not_or, not_and, Nat.succ_ne_zero, if_false, Nat.succ_sub_one, Nat.add_sub_cancel, Nat.add_one_ne_zero] at h1 ⊢
    omega
theorem fltP_no {c : Cf} (h : ∀ j, j < c.ps.length → wrP c j = false) (h0 : c.ps.length ≠ 0) (h6 : ¬ 6 < c.ps.length) : fltP c = false := by
  unfold fltP
  rw [anyN_no.2 h, decide_eq_false h0, decide_eq_false h6]; rfl
theorem fltP_at {c : Cf} {k : Nat} (hk : k < c.ps.length) (h : wrP c k = true) : fltP c = true := by
  unfold fltP
  rw [anyN_iff.2 ⟨k, hk, h⟩, Bool.or_true]
theorem fltP_len {c : Cf} (h : c.ps.length = 0 ∨ 6 < c.ps.length) : fltP c = true := by
  unfold fltP
  rcases h with h | h
  · rw [decide_eq_true h]; rfl
  · rw [decide_eq_true h, Bool.or_true]; rfl
set_option maxRecDepth 1000000 in
set_option maxHeartbeats 1000000 in
theorem wWrongP (v : CV) (c : Cf) (w : World) (h : RdCf w w.heap.size v c) (hp : v.np ≤ 1000) :
    Calls Try.prog 55 #[.agg #[.slice v.aw v.nw v.kw, .slice v.ap v.np v.kp, .slice v.ac v.nc v.kc]] w fun x w' => x = .returned (.bool (fltP c)) ∧ Below w.heap.size w w' := by
  obtain ⟨w1, hw1, hb1, hx, hr⟩ := one_box w h
  have R := Lib.hid hr
  have X := Lib.hid hx
  have B := Lib.hid hb1
  have HW := Lib.hid hw1
  have LP : Hid (c.ps.length = v.np) := h.pp.1
  clear h hp hw1 hb1 hx hr
  go_enter Try.func55, Try.ntmps55
  go_upto_region 1 with (fail)
  rw [show w.alloc (.cells #[.slice v.aw v.nw v.kw, .slice v.ap v.np v.kp, .slice v.ac v.nc v.kc] 26) = w1 from HW.out]
  clear HW
  have x1 := X.out.at (j := 1) rfl
  by_cases h0 : v.np = 0
  · have hI : ((v.np : Int) == 0) = true := by rw [beq_iff_eq]; omega
    have HF : Hid (true = fltP c) := (fltP_len (.inl (by rw [LP.out]; exact h0))).symm
    clear h0
    go_wp2_with fail
    go_ret
    exact ⟨ret_bool HF.out, B.out⟩
  have hI : ((v.np : Int) == 0) = false := by rw [beq_eq_false_iff_ne]; omega
  have H0 : Hid (c.ps.length ≠ 0) := by (show _ ≠ _); rw [LP.out]; exact h0
  clear h0
  by_cases h6 : 6 < v.np
  · have hJ : (6 : Int) < (v.np : Int) := by omega
    have HF : Hid (true = fltP c) := (fltP_len (.inr (by rw [LP.out]; exact h6))).symm
    clear h6
    go_wp2_with fail
    go_ret
    exact ⟨ret_bool HF.out, B.out⟩
  have hJ : ¬ (6 : Int) < (v.np : Int) := by omega
  have H6 : Hid (¬ 6 < c.ps.length) := by (show ¬ _); rw [LP.out]; exact h6
  have HN : Hid (v.np ≤ 6) := by (show _ ≤ _); omega
  clear h6
  go_wp2_with fail
  clear x1 hI hJ
  go_loopw [3, 5, 19] (fun s3 _ s19 wr => ∃ k : Nat, k ≤ v.np ∧ s19 = .int .i64 (k : Int) ∧ s3 = .int .i64 (lastP c k) ∧ (∀ j, j < k → wrP c j = false) ∧ Below w1.heap.size w1 wr) (fun _ _ s19 _ => v.np - (intOf s19).toNat)
  case atStart => exact ⟨0, Nat.zero_le _, rfl, rfl, fun j hj => absurd hj (Nat.not_lt_zero _), Below.refl _ _⟩
  case round =>
    obtain ⟨k, hk, rfl, rfl, hno, hbel⟩ := hrel
    have BD := Lib.hid hbel
    have NO := Lib.hid hno
    have HK := Lib.hid hk
    clear hbel hno hk
    by_cases hlt : k < v.np
    · have hltI : (k : Int) < (v.np : Int) := by omega
      have HLT := Lib.hid hlt
      have hwk : IntKind.i64.wrap ((k : Int) + 1) = (k : Int) + 1 := by have := HN.out; rw [IntKind.wrap_i64]; omega
      obtain ⟨b, o, A', m, c', hA, y0, y1, y2, y3, y4, _⟩ := (R.out.to BD.out).pp.at_ hlt
      rw [hA]
      obtain ⟨l, hl⟩ : ∃ l, lastP c k = l := ⟨_, rfl⟩
      obtain ⟨p, hp⟩ : ∃ p, ptAt c.ps k = p := ⟨_, rfl⟩
      have HWR : Hid (wrP c k = (decide (p.id ≤ l) || decide (6 < p.id))) := by (show _ = _); rw [lastP_wr NO.out, hl, hp]
      have HLS : Hid (lastP c (k + 1) = p.id) := by (show _ = _); rw [← hp]; rfl
      rw [hp] at y0 y1 y2 y3
      rw [hl]
      have hal := (Below.refl wr.heap.size wr).alloc (Nat.le_refl _) (.cells #[.int .i64 p.id, .int .i64 p.base, .int .i64 p.size, .bool p.keep, .slice A' m c'] 43)
      have B8 := Lib.hid (BD.out.trans (hal.mono BD.out.size))
      clear hl hp hA hlt hal
      by_cases h1 : p.id ≤ l
      · have HF : Hid (true = fltP c) := (fltP_at (by rw [LP.out]; exact HLT.out) (by rw [HWR.out, decide_eq_true h1]; rfl)).symm
        go_wp2_with fail
        go_ret
        exact ⟨ret_bool HF.out, B.out.trans (B8.out.mono B.out.size)⟩
      by_cases h2 : 6 < p.id
      · have HF : Hid (true = fltP c) := (fltP_at (by rw [LP.out]; exact HLT.out) (by rw [HWR.out, decide_eq_true h2, Bool.or_true])).symm
        go_wp2_with fail
        go_ret
        exact ⟨ret_bool HF.out, B.out.trans (B8.out.mono B.out.size)⟩
      have HF : Hid (wrP c k = false) := by (show _ = _); rw [HWR.out, decide_eq_false h1, decide_eq_false h2]; rfl
      go_wp2_with fail
      go_roundw
      case rel => exact ⟨k + 1, HLT.out, by go_num, by rw [HLS.out], fun j hj => by
        rcases Nat.lt_or_ge j k with g | g
        · exact NO.out j g
        · obtain rfl : j = k := by omega
          exact HF.out, B8.out⟩
      case measure => simp [intOf]; omega
    · obtain rfl : k = v.np := by have := HK.out; omega
      have HF : Hid (false = fltP c) := (fltP_no (by rw [LP.out]; exact NO.out) H0.out H6.out).symm
      clear hlt
      go_wp2_with fail
      go_ret
      exact ⟨ret_bool HF.out, B.out.trans (BD.out.mono B.out.size)⟩
theorem vtGr : VT Try.prog 87 40 2 16 (.agg #[.int .i64 0, .int .i64 0]) := ⟨Try.underlying87, by kernel_rfl, rfl, by decide⟩
/-- The regions that may be, of the first k partitions. -/
def ovl (c : Cf) (k : Nat) : List Reg := ((c.ps.take k).map regP).filter mayR
theorem ovl_succ {c : Cf} {k : Nat} (h : k < c.ps.length) : ovl c (k + 1) = ovl c k ++ (if mayR (regP (ptAt c.ps k)) = true then [regP (ptAt c.ps k)] else []) := by
  unfold ovl
  rw [List.take_succ_eq_append_getElem h, List.map_append, List.filter_append, ptAt_lt h]
  simp [List.filter_cons]
theorem ovl_len (c : Cf) (k : Nat) : (ovl c k).length ≤ k := by
  unfold ovl
  refine Nat.le_trans (List.length_filter_le _ _) ?_
  rw [List.length_map, List.length_take]; omega
theorem ovl_all (c : Cf) : decide (allR (ovl c c.ps.length) = 121) = fltO c := by
  have hm : (ovl c c.ps.length).any (fun r => !mayR r) = false := by
    rw [List.any_eq_false]
    intro x hx
    unfold ovl at hx
    rw [List.mem_filter] at hx
    rw [hx.2]; decide
  rw [allR_of hm]
  have hpw : (ovl c c.ps.length).Pairwise (fun a b => apartR a b = true) ↔ fltO c = false := by
    unfold ovl fltO
    rw [List.take_length, List.pairwise_filter, List.pairwise_map, List.pairwise_iff_getElem, anyN_no]
    constructor
    · intro h i hi
      rw [anyN_no]
      intro k hk
      have := h k i (Nat.lt_trans hk hi) hi hk
      rw [← ptAt_lt hi, ← ptAt_lt (Nat.lt_trans hk hi)] at this
      unfold wrO
      cases h1 : mayR (regP (ptAt c.ps i))
      · rfl
      cases h2 : mayR (regP (ptAt c.ps k))
      · rfl
      rw [apartR_symm, this h2 h1]; rfl
    · intro h k i hk hi hki h2 h1
      have := anyN_no.1 (h i hi) k hki
      rw [← ptAt_lt hi] at h1 ⊢
      rw [← ptAt_lt hk] at h2 ⊢
      unfold wrO at this
      rw [h1, h2, apartR_symm] at this
      simpa using this
  cases hf : fltO c
  · rw [if_pos (hpw.2 hf)]; rfl
  · rw [if_neg (fun h => by rw [hpw.1 h] at hf; cases hf)]; rfl
set_option maxRecDepth 1000000 in
set_option maxHeartbeats 1000000 in
theorem wOverlaps (v : CV) (c : Cf) (w : World) (h : RdCf w w.heap.size v c) (hp : v.np ≤ 1000) :
    Calls Try.prog 57 #[.agg #[.slice v.aw v.nw v.kw, .slice v.ap v.np v.kp, .slice v.ac v.nc v.kc]] w fun x w' => x = .returned (.bool (fltO c)) ∧ Below w.heap.size w w' := by
  obtain ⟨w1, hw1, hb1, hx, hr⟩ := one_box w h
  have R := Lib.hid hr
  have X := Lib.hid hx
  have B := Lib.hid hb1
  have HW := Lib.hid hw1
  have HN := Lib.hid hp
  have LP : Hid (c.ps.length = v.np) := h.pp.1
  clear h hp hw1 hb1 hx hr
  go_enter Try.func57, Try.ntmps57
  go_upto_region 1 with (fail)
  rw [show w.alloc (.cells #[.slice v.aw v.nw v.kw, .slice v.ap v.np v.kp, .slice v.ac v.nc v.kc] 26) = w1 from HW.out]
  clear HW
  have x1 := X.out.at (j := 1) rfl
  go_wp2_with fail
  clear x1
  go_loopw [3, 5, 9] (fun s3 _ s9 wr => ∃ k : Nat, k ≤ v.np ∧ s9 = .int .i64 (k : Int) ∧ wr.ownsRow w1.heap.size 40 2 s3 (ovl c k).length (winsV (ovl c k)) ∧ Below w1.heap.size w1 wr) (fun _ _ s9 _ => v.np - (intOf s9).toNat)
  case atStart => exact ⟨0, Nat.zero_le _, rfl, ⟨rfl, .inl ⟨rfl, rfl⟩⟩, Below.refl _ _⟩
  case round =>
    obtain ⟨k, hk, rfl, ho, hbel⟩ := hrel
    obtain ⟨A3, c3, rfl⟩ := own_slV ho
    have O3 := Lib.hid ho
    have BD := Lib.hid hbel
    have HK := Lib.hid hk
    clear hbel ho hk
    by_cases hlt : k < v.np
    · have hltI : (k : Int) < (v.np : Int) := by omega
      have HLT := Lib.hid hlt
      have hwk : IntKind.i64.wrap ((k : Int) + 1) = (k : Int) + 1 := by have := HN.out; rw [IntKind.wrap_i64]; omega
      obtain ⟨b, o, A', m, c', hA, y0, y1, y2, y3, y4, _⟩ := (R.out.to BD.out).pp.at_ hlt
      rw [hA]
      have HOV : Hid (ovl c (k + 1) = ovl c k ++ (if mayR ((ptAt c.ps k).base, (ptAt c.ps k).size) = true then [((ptAt c.ps k).base, (ptAt c.ps k).size)] else [])) := ovl_succ (by rw [LP.out]; exact hlt)
      generalize ptAt c.ps k = p at *
      have hal := (Below.refl wr.heap.size wr).alloc (Nat.le_refl _) (.cells #[.int .i64 p.id, .int .i64 p.base, .int .i64 p.size, .bool p.keep, .slice A' m c'] 43)
      have P1 : Bx (wr.alloc (.cells #[.int .i64 p.id, .int .i64 p.base, .int .i64 p.size, .bool p.keep, .slice A' m c'] 43)) wr.heap.size 43 [.int .i64 p.id, .int .i64 p.base, .int .i64 p.size, .bool p.keep, .slice A' m c'] := Bx.new wr _ [.int .i64 p.id, .int .i64 p.base, .int .i64 p.size, .bool p.keep, .slice A' m c']
      have P := Lib.hid P1
      have O4 := Lib.hid (own_bv O3.out hal)
      have B4 := Lib.hid (BD.out.trans (hal.mono BD.out.size))
      obtain ⟨gl, hgl⟩ : ∃ n, (ovl c k).length = n := ⟨_, rfl⟩
      have HGL : Hid (gl ≤ 1000) := by (show _ ≤ _); have := ovl_len c k; have := HN.out; omega
      have HGE := Lib.hid hgl
      rw [hgl] at O4 ⊢
      clear hA hlt hal P1 O3 hgl
      go_upto_region 5 with (fail)
      generalize wr.alloc (.cells #[.int .i64 p.id, .int .i64 p.base, .int .i64 p.size, .bool p.keep, .slice A' m c'] 43) = w4 at *
      clear y0 y1 y2 y3 y4
      have y1 := P.out.at (j := 1) rfl
      have y2 := P.out.at (j := 2) rfl
      go_wp2_with fail
      refine (wMayR p.base p.size w4).mono ?_
      rintro e w5 ⟨rfl, hb⟩
      replace P := Lib.hid (P.out.to hb)
      replace O4 := Lib.hid (own_bv O4.out hb)
      replace B4 := Lib.hid (B4.out.trans (hb.mono B4.out.size))
      clear hb y1 y2
      cases hm : mayR (p.base, p.size)
      · have HOE : Hid (ovl c (k + 1) = ovl c k) := by (show _ = _); rw [HOV.out, hm, if_neg (by decide), List.append_nil]
        clear hm
        go_wp2_with fail
        go_roundw
        case rel => exact ⟨k + 1, HLT.out, by go_num, by rw [HOE.out, HGE.out]; exact O4.out, B4.out⟩
        case measure => simp [intOf]; omega
      · have HOE : Hid (ovl c (k + 1) = ovl c k ++ [(p.base, p.size)]) := by (show _ = _); rw [HOV.out, hm, if_pos rfl]
        have y1 := P.out.at (j := 1) rfl
        have y2 := P.out.at (j := 2) rfl
        have hal := (Below.refl w5.heap.size w5).alloc (Nat.le_refl _) (.cells #[.int .i64 p.base, .int .i64 p.size] 40)
        have O7 := Lib.hid (own_bv O4.out hal)
        have N7 := Lib.hid (cells_newV w5 40 [.int .i64 p.base, .int .i64 p.size])
        have B8 := Lib.hid (B4.out.trans (hal.mono B4.out.size))
        clear hal hm
        go_wp2_with (at_builtin; refine wpList_pushV vtGr rfl (.tmp 16) (.tmp 19) rfl rfl rfl O7.out (m := 1) (news := winsV [(p.base, p.size)]) rfl (fun _ => ⟨_, rfl, N7.out⟩) (winsV_one _) B8.out.size (by have := HGL.out; omega) ?_; intro v9 w9 hown9 hk9 hv9; obtain ⟨A9, c9, rfl⟩ := own_slV hown9; have B9 := Lib.hid (hk9.below B8.out B8.out.size (fun k hk => (O7.out.lt k hk).1)); have O9 := Lib.hid hown9; clear hown9 hk9 hv9)
        have O10 : Hid (w9.ownsRow w1.heap.size 40 2 (.slice A9 (gl + 1) c9) (ovl c (k + 1)).length (winsV (ovl c (k + 1)))) := by (show World.ownsRow _ _ _ _ _ _ _); rw [HOE.out, List.length_append, winsV_app, HGE.out]; exact O9.out
        go_roundw
        case rel => exact ⟨k + 1, HLT.out, by go_num, O10.out, B9.out⟩
        case measure => simp [intOf]; omega
    · obtain rfl : k = v.np := by have := HK.out; omega
      have HF : Hid (decide (allR (ovl c v.np) = 121) = fltO c) := by (show _ = _); rw [← LP.out]; exact ovl_all c
      obtain ⟨gl, hgl⟩ : ∃ n, (ovl c v.np).length = n := ⟨_, rfl⟩
      rw [hgl] at O3 ⊢
      obtain ⟨_, hc1, hc2⟩ := own_capV O3.out
      have HC1 := Lib.hid hc1
      have HC2 := Lib.hid hc2
      clear hlt hgl hc1 hc2
      go_wp2_with fail
      refine (wAllR A3 gl c3 (ovl c v.np) wr (RdG.of_ownV O3.out) HC1.out HC2.out).mono ?_
      rintro e w2 ⟨rfl, hb⟩
      replace BD := Lib.hid (BD.out.trans (hb.mono BD.out.size))
      obtain ⟨z, hz⟩ : ∃ z, allR (ovl c v.np) = z := ⟨_, rfl⟩
      rw [hz] at HF ⊢
      clear hb hz
      go_wp2_with fail
      go_ret
      refine ⟨ret_bool ?_, B.out.trans (BD.out.mono B.out.size)⟩
      rw [← HF.out, Bool.eq_iff_iff, beq_iff_eq, decide_eq_true_eq]
end

/- The program's valid, part three: the array of faults; All, Check, Fits. -/
section
open Go.RowKit
set_option linter.unusedVariables false
set_option linter.unusedSimpArgs false

def fn_ (i : FuncId) : Value := .func (.func i) #[] #[]
/-- The five faults: a number and a function each. -/
def fltF : Array Value := #[.int .i64 90, fn_ 54, .int .i64 120, fn_ 55, .int .i64 80, fn_ 56, .int .i64 121, fn_ 57, .int .i64 100, fn_ 58]
def fltE (k : Nat) : Int := [90, 120, 80, 121, 100].getD k 0
noncomputable def fltB (c : Cf) (k : Nat) : Bool := [fltW c, fltP c, fltR c, fltO c, fltC c].getD k false
noncomputable def moreTo (c : Cf) : Nat → List Int
  | 0 => []
  | k + 1 => moreTo c k ++ more (fltB c k) (fltE k)
theorem moreTo_5 (c : Cf) : moreTo c 5 = allV c := rfl
theorem moreTo_len (c : Cf) : ∀ k, (moreTo c k).length ≤ k
  | 0 => Nat.le_refl _
  | k + 1 => by
    have := moreTo_len c k
    have := more_len (fltB c k) (fltE k)
    rw [moreTo, List.length_append]; omega
theorem checkV_at {c : Cf} {k : Nat} (hk : k < 5) (hb : ∀ j, j < k → fltB c j = false) (h : fltB c k = true) : checkV c = fltE k := by
  unfold checkV allV
  have h0 := hb 0; have h1 := hb 1; have h2 := hb 2; have h3 := hb 3
  match k, hk with
  | 0, _ => simp [fltB, fltE, more] at h ⊢; simp [h]
  | 1, _ => simp [fltB, fltE, more] at h h0 ⊢; simp [h, h0]
  | 2, _ => simp [fltB, fltE, more] at h h0 h1 ⊢; simp [h, h0, h1]
  | 3, _ => simp [fltB, fltE, more] at h h0 h1 h2 ⊢; simp [h, h0, h1, h2]
  | 4, _ => simp [fltB, fltE, more] at h h0 h1 h2 h3 ⊢; simp [h, h0, h1, h2, h3]
theorem checkV_no {c : Cf} (hb : ∀ j, j < 5 → fltB c j = false) : checkV c = 0 := by
  have h0 : fltW c = false := hb 0 (by decide)
  have h1 : fltP c = false := hb 1 (by decide)
  have h2 : fltR c = false := hb 2 (by decide)
  have h3 : fltO c = false := hb 3 (by decide)
  have h4 : fltC c = false := hb 4 (by decide)
  simp [checkV, allV, more, h0, h1, h2, h3, h4]
theorem index_flt (j : Nat) (hj : j < 5) (e f : Value) (h0 : fltF[j * 2]? = some e) (h1 : fltF[j * 2 + 1]? = some f) (w : World) :
    (Instr.index 76 (.agg fltF) (.int .i64 (j : Int))).run Try.prog w = .ok (.agg #[e, f]) w := by
  have hb : (0 : Int) ≤ (j : Int) ∧ (j : Int) < 5 := by omega
  have hs : ∀ w, (sizeOf 75).run Try.prog w = .ok 2 w := Try.sizeOf75
  have ha : ∀ w, (isAgg 75).run Try.prog w = .ok true w := Try.isAgg75
  have he : fltF.extract (j * 2) (j * 2 + 2) = #[e, f] := by
    match j, hj with
    | 0, _ => cases h0; cases h1; rfl
    | 1, _ => cases h0; cases h1; rfl
    | 2, _ => cases h0; cases h1; rfl
    | 3, _ => cases h0; cases h1; rfl
    | 4, _ => cases h0; cases h1; rfl
  have hp : ∀ w, (part 75 fltF (j * 2)).run Try.prog w = .ok (.agg #[e, f]) w := fun w => by simp [part, Sem.run_bind, ha, hs, Result.andThen, he]
  simp [Instr.index, Sem.run_bind, run_underlying Try.underlying76, Result.andThen, asIntOf, hb, hp, hs]
  intro h; omega
def fltZ : Array Value := #[.int .i64 0, .nilFunc, .int .i64 0, .nilFunc, .int .i64 0, .nilFunc, .int .i64 0, .nilFunc, .int .i64 0, .nilFunc]
theorem flt_info : (Try.prog.info? 76).map (fun i => (i.zero, i.size)) = some (some (.agg fltZ), 10) := by kernel_rfl
theorem flt_size : (Try.prog.info? 76).map (·.size) = some fltF.size := (zero_of_info flt_info).2
theorem fltF_one : fltF.all (·.oneCell') = true := by simp [fltF, fn_, Value.oneCell']
def oneZ : Array Value := #[.int .i64 0, .nilFunc]
theorem one_info : (Try.prog.info? 75).map (fun i => (i.zero, i.size)) = some (some (.agg oneZ), 2) := by kernel_rfl
theorem one_size (a b : Value) : (Try.prog.info? 75).map (·.size) = some (#[a, b] : Array Value).size := (zero_of_info one_info).2
set_option maxRecDepth 1000000 in
set_option maxHeartbeats 1000000 in
theorem wFaults (w : World) : Calls Try.prog 51 #[] w fun e w' => e = .returned (.agg fltF) ∧ Below w.heap.size w w' := by
  have hz := (zero_of_info flt_info).1
  go_enter Try.func51, Try.ntmps51
  go_wp2_with (refine wpList_store_row rfl 76 _ _ rfl w.heap.size fltF rfl rfl 76 fltZ (by simpa using heap_alloc_last w (.cells fltZ 76)) flt_size rfl fltF_one ?_; rw [World.setRow_alloc_new])
  refine bodyPost_ret (results_cell_row rfl _ _ w.heap.size 76 fltF (0, 0) _ rfl (by simpa using heap_alloc_last w (.cells fltF 76)) Try.underlying76 rfl flt_size) rfl ?_
  exact ⟨rfl, (Below.refl _ _).alloc (Nat.le_refl _) _⟩
/-- The k-th fault: how it comes out of the array, how its function is called, what it says. -/
theorem flt_at (k : Nat) (hk : k < 5) : ∃ i : FuncId, (∀ w, (Instr.index 76 (.agg fltF) (.int .i64 (k : Int))).run Try.prog w = .ok (.agg #[.int .i64 (fltE k), .func (.func i) #[] #[]]) w) ∧
    (∀ args w, (callFunc i args).run Try.prog w = .ok (.enter i args) w) ∧
    ∀ (v : CV) (c : Cf) (w : World), RdCf w w.heap.size v c → v.nw ≤ 1000 → v.np ≤ 1000 → v.nc ≤ 1000 →
      Calls Try.prog i #[.agg #[.slice v.aw v.nw v.kw, .slice v.ap v.np v.kp, .slice v.ac v.nc v.kc]] w fun x w' => x = .returned (.bool (fltB c k)) ∧ Below w.heap.size w w' := by
  match k, hk with
  | 0, h => exact ⟨54, index_flt 0 h _ _ rfl rfl, enters_of Try.func54 (by kernel_rfl) rfl, fun v c w h hw hp hc => wWrongW v c w h hw hp⟩
  | 1, h => exact ⟨55, index_flt 1 h _ _ rfl rfl, enters_of Try.func55 (by kernel_rfl) rfl, fun v c w h hw hp hc => wWrongP v c w h hp⟩
  | 2, h => exact ⟨56, index_flt 2 h _ _ rfl rfl, enters_of Try.func56 (by kernel_rfl) rfl, fun v c w h hw hp hc => wWrongR v c w h hp⟩
  | 3, h => exact ⟨57, index_flt 3 h _ _ rfl rfl, enters_of Try.func57 (by kernel_rfl) rfl, fun v c w h hw hp hc => wOverlaps v c w h hp⟩
  | 4, h => exact ⟨58, index_flt 4 h _ _ rfl rfl, enters_of Try.func58 (by kernel_rfl) rfl, fun v c w h hw hp hc => wWrongC v c w h hp hc⟩
set_option maxRecDepth 1000000 in
set_option maxHeartbeats 1000000 in
theorem wCheckV (v : CV) (c : Cf) (w : World) (h : RdCf w w.heap.size v c) (hw : v.nw ≤ 1000) (hp : v.np ≤ 1000) (hc : v.nc ≤ 1000) :
    Calls Try.prog 41 #[.agg #[.slice v.aw v.nw v.kw, .slice v.ap v.np v.kp, .slice v.ac v.nc v.kc]] w fun x w' => x = .returned (.int .i64 (checkV c)) ∧ Below w.heap.size w w' := by
  obtain ⟨w1, hw1, hb1, hx, hr⟩ := one_box w h
  have R := Lib.hid hr
  have X := Lib.hid hx
  have B := Lib.hid hb1
  have HW := Lib.hid hw1
  have HNW := Lib.hid hw
  have HNP := Lib.hid hp
  have HNC := Lib.hid hc
  have hz := (zero_of_info one_info).1
  clear h hw hp hc hw1 hb1 hx hr
  go_enter Try.func41, Try.ntmps41
  go_upto_region 1 with (fail)
  rw [show w.alloc (.cells #[.slice v.aw v.nw v.kw, .slice v.ap v.np v.kp, .slice v.ac v.nc v.kc] 26) = w1 from HW.out]
  clear HW
  go_wp2_with fail
  refine (wFaults w1).mono ?_
  rintro e w2 ⟨rfl, hb⟩
  replace R := Lib.hid (R.out.to hb)
  replace X := Lib.hid (X.out.to hb)
  replace B := Lib.hid (B.out.trans (hb.mono B.out.size))
  clear hb
  go_wp2_with fail
  go_loopw [4, 6] (fun _ s6 wr => ∃ k : Nat, k ≤ 5 ∧ s6 = .int .i64 (k : Int) ∧ (∀ j, j < k → fltB c j = false) ∧ Below w2.heap.size w2 wr) (fun _ s6 _ => 5 - (intOf s6).toNat)
  case atStart => exact ⟨0, Nat.zero_le _, rfl, fun j hj => absurd hj (Nat.not_lt_zero _), Below.refl _ _⟩
  case round =>
    obtain ⟨k, hk, rfl, hno, hbel⟩ := hrel
    have BD := Lib.hid hbel
    have NO := Lib.hid hno
    have HK := Lib.hid hk
    clear hbel hno hk
    by_cases hlt : k < 5
    · obtain ⟨i, hix, eg, hcall⟩ := flt_at k hlt
      have hltI : (k : Int) < 5 := by omega
      have HLT := Lib.hid hlt
      have HC := Lib.hid hcall
      obtain ⟨z, hzz⟩ : ∃ z, fltE k = z := ⟨_, rfl⟩
      rw [hzz] at hix
      have HZ := Lib.hid hzz
      have x0 := (X.out.to BD.out).at (j := 0) rfl
      have x1 := (X.out.to BD.out).at (j := 1) rfl
      have x2 := (X.out.to BD.out).at (j := 2) rfl
      have hal := (Below.refl wr.heap.size wr).alloc (Nat.le_refl _) (.cells #[.int .i64 z, .func (.func i) #[] #[]] 75)
      have P1 : Bx (wr.alloc (.cells #[.int .i64 z, .func (.func i) #[] #[]] 75)) wr.heap.size 75 [.int .i64 z, .func (.func i) #[] #[]] := Bx.new wr _ [.int .i64 z, .func (.func i) #[] #[]]
      obtain ⟨w4, hw4⟩ : ∃ x, wr.alloc (.cells #[.int .i64 z, .func (.func i) #[] #[]] 75) = x := ⟨_, rfl⟩
      rw [hw4] at hal P1
      have P := Lib.hid P1
      have B4 := Lib.hid (BD.out.trans (hal.mono BD.out.size))
      have HW := Lib.hid hw4
      clear hlt hcall hzz hal P1 hw4
      go_upto_region 4 with (refine wpList_store_row rfl 75 _ _ rfl wr.heap.size #[.int .i64 z, .func (.func i) #[] #[]] rfl rfl 75 oneZ (by simpa using heap_alloc_last wr (.cells oneZ 75)) (one_size _ _) rfl (by simp [Value.oneCell']) ?_; rw [World.setRow_alloc_new, HW.out])
      clear HW x0 x1 x2
      have R4 := Lib.hid (R.out.to B4.out)
      have X4 := Lib.hid (X.out.to B4.out)
      have x0 := X4.out.at (j := 0) rfl
      have x1 := X4.out.at (j := 1) rfl
      have x2 := X4.out.at (j := 2) rfl
      have y0 := P.out.at (j := 0) rfl
      have y1 := P.out.at (j := 1) rfl
      go_wp2_with fail
      refine (HC.out v c w4 R4.out HNW.out HNP.out HNC.out).mono ?_
      rintro e w5 ⟨rfl, hb⟩
      replace P := Lib.hid (P.out.to hb)
      replace B4 := Lib.hid (B4.out.trans (hb.mono B4.out.size))
      clear hb x0 x1 x2 y0 y1 hix eg
      have y0 := P.out.at (j := 0) rfl
      cases hf : fltB c k
      · have HF := Lib.hid hf
        clear hf
        go_wp2_with fail
        go_roundw
        case rel => exact ⟨k + 1, HLT.out, by go_num, fun j hj => by
          rcases Nat.lt_or_ge j k with g | g
          · exact NO.out j g
          · obtain rfl : j = k := by omega
            exact HF.out, B4.out⟩
        case measure => simp [intOf]; omega
      · have HF : Hid (z = checkV c) := by (show _ = _); rw [checkV_at HLT.out NO.out hf, HZ.out]
        clear hf
        go_wp2_with fail
        go_ret
        exact ⟨ret_int HF.out, B.out.trans (B4.out.mono B.out.size)⟩
    · obtain rfl : k = 5 := by have := HK.out; omega
      have HF : Hid ((0 : Int) = checkV c) := (checkV_no NO.out).symm
      clear hlt
      go_wp2_with fail
      go_ret
      exact ⟨ret_int HF.out, B.out.trans (BD.out.mono B.out.size)⟩
set_option maxRecDepth 1000000 in
set_option maxHeartbeats 1000000 in
theorem wFitsV (v : CV) (c : Cf) (w : World) (h : RdCf w w.heap.size v c) (hw : v.nw ≤ 1000) (hp : v.np ≤ 1000) (hc : v.nc ≤ 1000) :
    Calls Try.prog 22 #[.agg #[.slice v.aw v.nw v.kw, .slice v.ap v.np v.kp, .slice v.ac v.nc v.kc]] w fun x w' => x = .returned (.bool (fitsV c)) ∧ Below w.heap.size w w' := by
  obtain ⟨w1, hw1, hb1, hx, hr⟩ := one_box w h
  have R := Lib.hid hr
  have X := Lib.hid hx
  have B := Lib.hid hb1
  have HW := Lib.hid hw1
  have HNW := Lib.hid hw
  have HNP := Lib.hid hp
  have HNC := Lib.hid hc
  clear h hw hp hc hw1 hb1 hx hr
  go_enter Try.func22, Try.ntmps22
  go_upto_region 1 with (fail)
  rw [show w.alloc (.cells #[.slice v.aw v.nw v.kw, .slice v.ap v.np v.kp, .slice v.ac v.nc v.kc] 26) = w1 from HW.out]
  clear HW
  have x0 := X.out.at (j := 0) rfl
  have x1 := X.out.at (j := 1) rfl
  have x2 := X.out.at (j := 2) rfl
  go_wp2_with fail
  refine (wCheckV v c w1 R.out HNW.out HNP.out HNC.out).mono ?_
  rintro e w2 ⟨rfl, hb⟩
  replace B := Lib.hid (B.out.trans (hb.mono B.out.size))
  obtain ⟨z, hz⟩ : ∃ z, checkV c = z := ⟨_, rfl⟩
  have HF : Hid ((z == 0) = fitsV c) := by (show _ = _); rw [Bool.eq_iff_iff, beq_iff_eq, ← fitsV_check, hz]
  rw [hz]
  clear hb hz x0 x1 x2
  go_wp2_with fail
  go_ret
  exact ⟨ret_bool HF.out, B.out⟩
end

/- The program's contracts of layer 12, gathered. -/
section

end
end Go.Proofs.Ytecedmjhhaabgaa
