/- Contracts of the document's own functions of layer 11, part two: SamePart, Same. -/
import Derived.Test.YtecedmjhhaabgaaCfR
import Derived.Deep.RegionHeld
namespace Go.Proofs.Ytecedmjhhaabgaa
open Go.RowKit
set_option linter.unusedVariables false
set_option linter.unusedSimpArgs false

/-- Are two pairs of ints the same (windows, regions)? -/
def eqR (x y : Reg) : Bool := decide (x = y)
theorem eqR_iff {x y : Reg} : eqR x y = true ↔ x = y := by simp [eqR]
theorem cfWin_guard : Try.prog.eqGuardType Try.prog.depth 59 = false := by kernel_rfl
theorem cfWin_eq (a b a' b' : Int) (w : World) : (Op.equalIn 10000 59 (.agg #[.int .i64 a, .int .i64 b]) (.agg #[.int .i64 a', .int .i64 b'])).run Try.prog w = .ok (eqR (a, b) (a', b')) w := by
  unfold eqR
  have hS : Try.prog.underlying 59 = some (.struct (Try.prog.fieldsOf 59)) := by kernel_rfl
  have hp : Try.prog.stoodInHeld 59 = false := by kernel_rfl
  have u3 := Try.underlying3
  have a3 := Try.isAgg3
  have z3 := Try.sizeOf3
  rw [show (10000 : Nat) = 9999 + 1 from rfl, run_equalIn_agg w 9999 59 _ _ hS hp]
  simp only [Program.fieldsOf, Try.underlying59]
  go_simp
  by_cases h1 : a = a' <;> by_cases h2 : b = b' <;> simp [h1, h2]
theorem cfReg_guard : Try.prog.eqGuardType Try.prog.depth 40 = false := by kernel_rfl
theorem cfReg_eq (a b a' b' : Int) (w : World) : (Op.equalIn 10000 40 (.agg #[.int .i64 a, .int .i64 b]) (.agg #[.int .i64 a', .int .i64 b'])).run Try.prog w = .ok (eqR (a, b) (a', b')) w := by
  unfold eqR
  have hS : Try.prog.underlying 40 = some (.struct (Try.prog.fieldsOf 40)) := by kernel_rfl
  have hp : Try.prog.stoodInHeld 40 = false := by kernel_rfl
  have u3 := Try.underlying3
  have a3 := Try.isAgg3
  have z3 := Try.sizeOf3
  rw [show (10000 : Nat) = 9999 + 1 from rfl, run_equalIn_agg w 9999 40 _ _ hS hp]
  simp only [Program.fieldsOf, Try.underlying40]
  go_simp
  by_cases h1 : a = a' <;> by_cases h2 : b = b' <;> simp [h1, h2]
def eqCh (x y : Ch) : Bool := decide (x = y)
theorem eqCh_iff {x y : Ch} : eqCh x y = true ↔ x = y := by simp [eqCh]
theorem cfCh_guard : Try.prog.eqGuardType Try.prog.depth 47 = false := by kernel_rfl
theorem cfCh_eq (a b d e s a' b' d' e' s' : Int) (w : World) : (Op.equalIn 10000 47 (.agg #[.int .i64 a, .int .i64 b, .int .i64 d, .int .i64 e, .int .i64 s]) (.agg #[.int .i64 a', .int .i64 b', .int .i64 d', .int .i64 e', .int .i64 s'])).run Try.prog w = .ok (eqCh ⟨a, b, d, e, s⟩ ⟨a', b', d', e', s'⟩) w := by
  unfold eqCh
  have hS : Try.prog.underlying 47 = some (.struct (Try.prog.fieldsOf 47)) := by kernel_rfl
  have hp : Try.prog.stoodInHeld 47 = false := by kernel_rfl
  have u3 := Try.underlying3
  have a3 := Try.isAgg3
  have z3 := Try.sizeOf3
  rw [show (10000 : Nat) = 9999 + 1 from rfl, run_equalIn_agg w 9999 47 _ _ hS hp]
  simp only [Program.fieldsOf, Try.underlying47]
  go_simp
  by_cases h1 : a = a' <;> by_cases h2 : b = b' <;> by_cases h3 : d = d' <;> by_cases h4 : e = e' <;> by_cases h5 : s = s' <;> simp [h1, h2, h3, h4, h5]
def samePt (p q : Pt) : Bool := decide (p = q)
theorem samePt_iff {p q : Pt} : samePt p q = true ↔ p = q := by simp [samePt]
/-- A partition in a box. -/
structure Ptx (w : World) (g : Nat) (i b s : Int) (k : Bool) (A : Option Addr) (m c : Nat) : Prop where
  c0 : w.cell? ⟨g, 0, none⟩ = some (.int .i64 i)
  c1 : w.cell? ⟨g, 1, none⟩ = some (.int .i64 b)
  c2 : w.cell? ⟨g, 2, none⟩ = some (.int .i64 s)
  c3 : w.cell? ⟨g, 3, none⟩ = some (.bool k)
  c4 : w.cell? ⟨g, 4, none⟩ = some (.slice A m c)
  lt : g < w.heap.size
theorem Ptx.to {w w' : World} {g : Nat} {i b s : Int} {k : Bool} {A : Option Addr} {m c : Nat} (h : Ptx w g i b s k A m c) (hb : Below w.heap.size w w') : Ptx w' g i b s k A m c :=
  ⟨(hb.cell h.lt).trans h.c0, (hb.cell h.lt).trans h.c1, (hb.cell h.lt).trans h.c2, (hb.cell h.lt).trans h.c3, (hb.cell h.lt).trans h.c4, Nat.lt_of_lt_of_le h.lt hb.size⟩
theorem Ptx.new (w : World) (i b s : Int) (k : Bool) (A : Option Addr) (m c : Nat) (T : TypeId) : Ptx (w.alloc (.cells #[.int .i64 i, .int .i64 b, .int .i64 s, .bool k, .slice A m c] T)) w.heap.size i b s k A m c := ⟨by simp, by simp, by simp, by simp, by simp, by simp⟩
set_option maxRecDepth 1000000 in
set_option maxHeartbeats 1000000 in
theorem rSamePt (i b s i' b' s' : Int) (k k' : Bool) (A A' : Option Addr) (m c m' c' : Nat) (im im' : List UInt8) (w : World) (h : Rd w w.heap.size A m im) (h' : Rd w w.heap.size A' m' im') :
    Calls Try.prog 35 #[.agg #[.int .i64 i, .int .i64 b, .int .i64 s, .bool k, .slice A m c], .agg #[.int .i64 i', .int .i64 b', .int .i64 s', .bool k', .slice A' m' c']] w fun x w' =>
      x = .returned (.bool (samePt ⟨i, b, s, k, im⟩ ⟨i', b', s', k', im'⟩)) ∧ Below w.heap.size w w' := by
  have hgd := cfReg_guard
  have heq := cfReg_eq
  have B1 := (Below.refl w.heap.size w).alloc (Nat.le_refl _) (.cells #[.int .i64 i, .int .i64 b, .int .i64 s, .bool k, .slice A m c] 43)
  have P1 := Ptx.new w i b s k A m c 43
  have S1 : (w.alloc (.cells #[.int .i64 i, .int .i64 b, .int .i64 s, .bool k, .slice A m c] 43)).heap.size = w.heap.size + 1 := by simp
  generalize hw1 : (w.alloc (.cells #[.int .i64 i, .int .i64 b, .int .i64 s, .bool k, .slice A m c] 43)) = w1 at *
  have B2 := B1.alloc B1.size (.cells #[.int .i64 i', .int .i64 b', .int .i64 s', .bool k', .slice A' m' c'] 43)
  have P2 := Ptx.new w1 i' b' s' k' A' m' c' 43
  have P12 := P1.to ((Below.refl _ _).alloc (Nat.le_refl _) (.cells #[.int .i64 i', .int .i64 b', .int .i64 s', .bool k', .slice A' m' c'] 43))
  rw [S1] at P2
  have P := Lib.hid P12
  have Q := Lib.hid P2
  have R := Lib.hid (h.to B2)
  have R' := Lib.hid (h'.to B2)
  have B := Lib.hid B2
  have HW1 := Lib.hid hw1
  clear B1 P1 S1 B2 P2 P12 h h' hw1
  go_enter Try.func35, Try.ntmps35
  go_upto_region 1 with (fail)
  rw [HW1.out]
  generalize (w1.alloc (.cells #[.int .i64 i', .int .i64 b', .int .i64 s', .bool k', .slice A' m' c'] 43)) = w2 at *
  clear HW1
  obtain ⟨x0, x1, x2, x3, x4, _⟩ := P.out
  obtain ⟨y0, y1, y2, y3, y4, _⟩ := Q.out
  by_cases hi : i = i'
  rotate_left 1
  · have HF : Hid (false = samePt ⟨i, b, s, k, im⟩ ⟨i', b', s', k', im'⟩) := by show _ = _; unfold samePt; rw [decide_eq_false (fun e => hi (by injection e))]
    go_wp2_with fail
    go_ret
    exact ⟨ret_bool HF.out, B.out⟩
  subst hi
  cases hr : eqR (b, s) (b', s')
  · have HF : Hid (false = samePt ⟨i, b, s, k, im⟩ ⟨i, b', s', k', im'⟩) := by
      show _ = _
      unfold samePt
      rw [decide_eq_false (fun e => ?_)]
      injection e with _ e1 e2 _ _
      have := eqR_iff.2 (show (b, s) = (b', s') by rw [e1, e2])
      rw [hr] at this; cases this
    go_wp2_with fail
    go_ret
    exact ⟨ret_bool HF.out, B.out⟩
  have HR := Lib.hid (eqR_iff.1 hr)
  by_cases hk : k = k'
  rotate_left 1
  · have HF : Hid (false = samePt ⟨i, b, s, k, im⟩ ⟨i, b', s', k', im'⟩) := by show _ = _; unfold samePt; rw [decide_eq_false (fun e => hk (by injection e))]
    have hkb : (k == k') = false := by simpa using hk
    clear hk
    go_wp2_with fail
    go_ret
    exact ⟨ret_bool HF.out, B.out⟩
  subst hk
  have hc1 := R.out.conv c 41 5 9 Try.underlying41 Try.underlying5 Try.underlying9
  have hc2 := R'.out.conv c' 41 5 9 Try.underlying41 Try.underlying5 Try.underlying9
  have E1 : Hid ((strOfNums (numsOf im)).toList = im) := by show _ = _; rw [Lib.strOfNums_toList, bytesOf_numsOf]
  have E2 : Hid ((strOfNums (numsOf im')).toList = im') := by show _ = _; rw [Lib.strOfNums_toList, bytesOf_numsOf]
  generalize strOfNums (numsOf im) = s1 at *
  generalize strOfNums (numsOf im') = s2 at *
  have HF : Hid ((s1.toList == s2.toList) = samePt ⟨i, b, s, k, im⟩ ⟨i, b', s', k, im'⟩) := by
    show _ = _
    rw [E1.out, E2.out]
    have := HR.out
    simp only [Prod.mk.injEq] at this
    unfold samePt
    rw [this.1, this.2]
    by_cases he : im = im' <;> simp [he]
  go_wp2_with fail
  go_ret
  exact ⟨ret_bool HF.out, B.out⟩
end Go.Proofs.Ytecedmjhhaabgaa
