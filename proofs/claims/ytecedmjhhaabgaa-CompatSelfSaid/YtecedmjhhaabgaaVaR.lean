/- The document's layer 12: has, All, Check. -/
import Derived.Test.YtecedmjhhaabgaaVaM
import Derived.Test.YtecedmjhhaabgaaCfWq
import Derived.Test.YtecedmjhhaabgaaCfT
import Derived.Test.YtecedmjhhaabgaaRegR
import Derived.Test.YtecedmjhhaabgaaSchD
import Derived.Test.YtecedmjhhaabgaaChD
import Derived.Deep.RegionHeld
import Derived.Deep.DeepCutAuto
namespace Go.Proofs.Ytecedmjhhaabgaa
open Go.RowKit
set_option linter.unusedVariables false
set_option linter.unusedSimpArgs false

theorem vtI : VT Try.prog 34 3 1 8 (.int .i64 0) := ⟨Try.underlying34, by kernel_rfl, rfl, by decide⟩
theorem one_int (x : Int) : ∀ u ∈ [Value.int .i64 x], u.oneCell' = true := by
  intro u hu
  rw [List.mem_singleton] at hu
  subst hu
  rfl
theorem more_no (e : Int) : more false e = [] := rfl
theorem more_yes (e : Int) : more true e = [e] := rfl
theorem any_step {b0 b b' : Bool} {f : Nat → Bool} {k : Nat} (h : b = (b0 || anyN f k)) (h' : b' = (b || f k)) : b' = (b0 || anyN f (k + 1)) := by
  rw [anyN, ← Bool.or_assoc, ← h]; exact h'
/-- A row of ints of the call's own, while All goes on. -/
structure VSt (w1 wx : World) (s : Value) (l : List Int) : Prop where
  row : wx.ownsRow w1.heap.size 3 1 s l.length (l.map iv)
  bel : Below w1.heap.size w1 wx
theorem VSt.step {w1 wx w' : World} {s : Value} {l : List Int} (h : VSt w1 wx s l) (hb : Below wx.heap.size wx w') : VSt w1 w' s l := ⟨own_bv h.row hb, h.bel.trans (hb.mono h.bel.size)⟩
theorem VSt.drew {w1 wx : World} {s : Value} {l : List Int} (h : VSt w1 wx s l) : VSt w1 wx.drew s l := h.step (Below.refl _ _).drew
set_option maxRecDepth 1000000 in
set_option maxHeartbeats 1000000 in
theorem rHasP (v : CV) (c : Cf) (id : Int) (w : World) (h : RdCf w w.heap.size v c) (hp : v.np ≤ 1000) :
    Calls Try.prog 60 #[.agg #[.slice v.aw v.nw v.kw, .slice v.ap v.np v.kp, .slice v.ac v.nc v.kc], .int .i64 id] w fun x w' => x = .returned (.bool (hasP c id)) ∧ Below w.heap.size w w' := by
  have hb1 := (Below.refl w.heap.size w).alloc (Nat.le_refl _) (.cells #[.slice v.aw v.nw v.kw, .slice v.ap v.np v.kp, .slice v.ac v.nc v.kc] 26)
  have hx : Bx (w.alloc (.cells #[.slice v.aw v.nw v.kw, .slice v.ap v.np v.kp, .slice v.ac v.nc v.kc] 26)) w.heap.size 26 (cfL v) := Bx.new w _ (cfL v)
  have R := Lib.hid (h.to hb1)
  have B := Lib.hid hb1
  have X := Lib.hid hx
  have HP := Lib.hid hp
  clear h hp hb1 hx
  go_enter Try.func60, Try.ntmps60
  go_upto_region 1 with (fail)
  generalize w.alloc (.cells #[.slice v.aw v.nw v.kw, .slice v.ap v.np v.kp, .slice v.ac v.nc v.kc] 26) = w1 at *
  have p1 := X.out.at (j := 0) rfl
  have p2 := X.out.at (j := 1) rfl
  have p3 := X.out.at (j := 2) rfl
  go_wp2_with fail
  refine (rPartOf v c id w1 R.out HP.out).mono ?_
  rintro e w2 ⟨rfl, hb⟩
  replace B := Lib.hid (B.out.trans (hb.mono B.out.size))
  obtain ⟨z, hz⟩ : ∃ z, findP c.ps id = z := ⟨_, rfl⟩
  have HF : Hid (decide (0 ≤ z) = hasP c id) := by (show _ = _); unfold hasP; rw [hz]
  rw [hz]
  clear hz hb p1 p2 p3
  go_wp2_with fail
  go_ret
  exact ⟨ret_bool HF.out, B.out⟩
end Go.Proofs.Ytecedmjhhaabgaa
