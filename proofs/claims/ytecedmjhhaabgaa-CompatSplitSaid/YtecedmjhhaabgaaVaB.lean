/- The document's layer 12: Check; what is told of a list of numbers. -/
import Derived.Test.YtecedmjhhaabgaaVaA
import Derived.Test.YtecedmjhhaabgaaPairQ
namespace Go.Proofs.Ytecedmjhhaabgaa
open Go.RowKit
set_option linter.unusedVariables false
set_option linter.unusedSimpArgs false

theorem head_zat (l : List Int) : l.headD 0 = zat l 0 := by cases l <;> rfl
set_option maxRecDepth 1000000 in
set_option maxHeartbeats 1000000 in
theorem rCheckV (v : CV) (c : Cf) (w : World) (h : RdCf w w.heap.size v c) (hw : v.nw ≤ 1000) (hp : v.np ≤ 1000) (hc : v.nc ≤ 1000) :
    Calls Try.prog 48 #[.agg #[.slice v.aw v.nw v.kw, .slice v.ap v.np v.kp, .slice v.ac v.nc v.kc]] w fun x w' => x = .returned (.int .i64 (checkV c)) ∧ Below w.heap.size w w' := by
  have hb1 := (Below.refl w.heap.size w).alloc (Nat.le_refl _) (.cells #[.slice v.aw v.nw v.kw, .slice v.ap v.np v.kp, .slice v.ac v.nc v.kc] 26)
  have hx : Bx (w.alloc (.cells #[.slice v.aw v.nw v.kw, .slice v.ap v.np v.kp, .slice v.ac v.nc v.kc] 26)) w.heap.size 26 (cfL v) := Bx.new w _ (cfL v)
  have R := Lib.hid (h.to hb1)
  have B := Lib.hid hb1
  have X := Lib.hid hx
  have HNW := Lib.hid hw
  have HNP := Lib.hid hp
  have HNC := Lib.hid hc
  clear h hw hp hc hb1 hx
  go_enter Try.func48, Try.ntmps48
  go_upto_region 1 with (fail)
  generalize w.alloc (.cells #[.slice v.aw v.nw v.kw, .slice v.ap v.np v.kp, .slice v.ac v.nc v.kc] 26) = w1 at *
  have p1 := X.out.at (j := 0) rfl
  have p2 := X.out.at (j := 1) rfl
  have p3 := X.out.at (j := 2) rfl
  go_wp2_with fail
  refine (rAllV v c w1 R.out HNW.out HNP.out HNC.out).mono ?_
  rintro e w2 ⟨A, n, k, rfl, ho, hb⟩
  replace B := Lib.hid (B.out.trans (hb.mono B.out.size))
  have HZ := Lib.hid (RdZ.of_own ho)
  clear ho hb p1 p2 p3
  by_cases h0 : n = 0
  · have HF : Hid ((0 : Int) = checkV c) := by
      (show _ = _)
      have := HZ.out.1
      unfold checkV
      rw [List.eq_nil_of_length_eq_zero (this.trans h0)]
      rfl
    subst h0
    go_wp2_with fail
    go_ret
    exact ⟨ret_int HF.out, B.out⟩
  · obtain ⟨b, o, rfl, _, hc⟩ := HZ.out.2 (by omega)
    have h1 : ((n : Int) == 0) = false := by rw [beq_eq_false_iff_ne]; omega
    have hnI : (0 : Int) < (n : Int) := by omega
    have hnN : 0 < n := by omega
    have c0 := hc 0 (by omega)
    have HF : Hid (zat (allV c) 0 = checkV c) := by (show _ = _); unfold checkV; rw [head_zat]
    clear hc h0
    generalize zat (allV c) 0 = z at *
    rw [Nat.add_zero] at c0
    go_wp2_with fail
    go_ret
    exact ⟨ret_int HF.out, B.out⟩
end Go.Proofs.Ytecedmjhhaabgaa
