/- The laws' own helpers of layer 13: part, shown. -/
import Derived.Test.YtecedmjhhaabgaaCpM
import Derived.Test.YtecedmjhhaabgaaCpRq
import Derived.Test.YtecedmjhhaabgaaInvR
import Derived.Test.YtecedmjhhaabgaaCfBq
import Derived.Test.YtecedmjhhaabgaaCfLq
import Derived.Test.YtecedmjhhaabgaaCfOn
namespace Go.Proofs.Ytecedmjhhaabgaa
open Go.RowKit
set_option linter.unusedVariables false
set_option linter.unusedSimpArgs false

def ptV (id base size : Int) (keep : Bool) : Value := .agg #[.int .i64 id, .int .i64 base, .int .i64 size, .bool keep, .slice none 0 0]
set_option maxRecDepth 1000000 in
set_option maxHeartbeats 1000000 in
theorem lPart13 (id base size : Int) (keep : Bool) (w : World) :
    Calls Try.prog 49 #[.int .i64 id, .int .i64 base, .int .i64 size, .bool keep] w fun x w' => x = .returned (ptV id base size keep) ∧ Below w.heap.size w w' := by
  go_enter Try.func49, Try.ntmps49
  go_wp2_with fail
  have h := Bx.new w 43 [.int .i64 id, .int .i64 base, .int .i64 size, .bool keep, .slice none 0 0]
  exact bodyPost_ret (res_pt rfl _ _ w.heap.size _ _ _ _ _ rfl h) rfl ⟨rfl, (Below.refl _ _).alloc (Nat.le_refl _) _⟩
def cellsP (p q r : Int × Int × Int × Bool) : List Value := [.int .i64 p.1, .int .i64 p.2.1, .int .i64 p.2.2.1, .bool p.2.2.2, .slice none 0 0, .int .i64 q.1, .int .i64 q.2.1, .int .i64 q.2.2.1, .bool q.2.2.2, .slice none 0 0, .int .i64 r.1, .int .i64 r.2.1, .int .i64 r.2.2.1, .bool r.2.2.2, .slice none 0 0]
def qp (id base size : Int) (keep : Bool) : QP := ⟨⟨id, base, size, keep, []⟩, none, 0, 0⟩
def qsA : List QP := [qp 1 0 16 true, qp 2 16 32 true, qp 3 48 16 false]
def qsB : List QP := [qp 1 0 16 true, qp 2 16 32 false, qp 4 48 16 false]
theorem qsA_no : ∀ q ∈ qsA, q.m = 0 ∧ q.c = 0 ∧ q.p.img = [] := by
  intro q hq
  simp only [qsA, List.mem_cons, List.not_mem_nil, or_false] at hq
  rcases hq with rfl | rfl | rfl <;> exact ⟨rfl, rfl, rfl⟩
theorem qsB_no : ∀ q ∈ qsB, q.m = 0 ∧ q.c = 0 ∧ q.p.img = [] := by
  intro q hq
  simp only [qsB, List.mem_cons, List.not_mem_nil, or_false] at hq
  rcases hq with rfl | rfl | rfl <;> exact ⟨rfl, rfl, rfl⟩
theorem res_cc {fn : Func} {p q : Tmp} (h : fn.results = #[.cell p 26, .cell q 26]) (tmps : Array Value) (w : World) (g g' : Nat) (a b c a' b' c' : Value) (hp : tmps.getD p undef = .pointer (some ⟨g, 0, none⟩)) (hq : tmps.getD q undef = .pointer (some ⟨g', 0, none⟩))
    (hx : Bx w g 26 [a, b, c]) (hy : Bx w g' 26 [a', b', c']) :
    (results fn tmps).run Try.prog w = .ok (.tuple #[.agg #[a, b, c], .agg #[a', b', c']]) w := by
  have hp' : tmps[p]?.getD undef = .pointer (some ⟨g, 0, none⟩) := by simpa using hp
  have hq' : tmps[q]?.getD undef = .pointer (some ⟨g', 0, none⟩) := by simpa using hq
  have c0 := hx.at (j := 0) rfl
  have c1 := hx.at (j := 1) rfl
  have c2 := hx.at (j := 2) rfl
  have d0 := hy.at (j := 0) rfl
  have d1 := hy.at (j := 1) rfl
  have d2 := hy.at (j := 2) rfl
  simp [results, h, hp', hq', asAddr]
  go_simp
  try rfl
/-- What lies there ahead of shown's first configuration. -/
theorem shown_w13 (w : World) : ∃ w0, (((w.alloc (.cells #[.slice none 0 0, .slice none 0 0, .slice none 0 0] 26)).alloc (.cells #[.slice none 0 0, .slice none 0 0, .slice none 0 0] 26)).alloc (.cells #[.int .i64 1, .int .i64 1] 59)).alloc (.cells #[.int .i64 1, .int .i64 1, .int .i64 2, .int .i64 1, .int .i64 1] 47) = w0 ∧ Below w.heap.size w w0 ∧ w0.heap.size = w.heap.size + 1 + 1 + 1 + 1 ∧
    Bx w0 w.heap.size 26 [.slice none 0 0, .slice none 0 0, .slice none 0 0] ∧ Bx w0 (w.heap.size + 1) 26 [.slice none 0 0, .slice none 0 0, .slice none 0 0] ∧ Bx w0 (w.heap.size + 1 + 1) 59 [.int .i64 1, .int .i64 1] ∧ Bx w0 (w.heap.size + 1 + 1 + 1) 47 [.int .i64 1, .int .i64 1, .int .i64 2, .int .i64 1, .int .i64 1] := by
  refine ⟨_, rfl, ?_⟩
  have x1 := Bx.new w 26 [.slice none 0 0, .slice none 0 0, .slice none 0 0]
  have b1 := (Below.refl w.heap.size w).alloc (Nat.le_refl _) (.cells #[.slice none 0 0, .slice none 0 0, .slice none 0 0] 26)
  have e1 : (w.alloc (.cells #[.slice none 0 0, .slice none 0 0, .slice none 0 0] 26)).heap.size = w.heap.size + 1 := by simp
  generalize w.alloc (.cells #[.slice none 0 0, .slice none 0 0, .slice none 0 0] 26) = w1 at *
  have x2 := Bx.new w1 26 [.slice none 0 0, .slice none 0 0, .slice none 0 0]
  have b2 := (Below.refl w1.heap.size w1).alloc (Nat.le_refl _) (.cells #[.slice none 0 0, .slice none 0 0, .slice none 0 0] 26)
  have e2 : (w1.alloc (.cells #[.slice none 0 0, .slice none 0 0, .slice none 0 0] 26)).heap.size = w.heap.size + 1 + 1 := by simp [e1]
  rw [e1] at x2
  generalize w1.alloc (.cells #[.slice none 0 0, .slice none 0 0, .slice none 0 0] 26) = w2 at *
  have x3 := Bx.new w2 59 [.int .i64 1, .int .i64 1]
  have b3 := (Below.refl w2.heap.size w2).alloc (Nat.le_refl _) (.cells #[.int .i64 1, .int .i64 1] 59)
  have e3 : (w2.alloc (.cells #[.int .i64 1, .int .i64 1] 59)).heap.size = w.heap.size + 1 + 1 + 1 := by simp [e2]
  rw [e2] at x3
  generalize w2.alloc (.cells #[.int .i64 1, .int .i64 1] 59) = w3 at *
  have x4 := Bx.new w3 47 [.int .i64 1, .int .i64 1, .int .i64 2, .int .i64 1, .int .i64 1]
  have b4 := (Below.refl w3.heap.size w3).alloc (Nat.le_refl _) (.cells #[.int .i64 1, .int .i64 1, .int .i64 2, .int .i64 1, .int .i64 1] 47)
  rw [e3] at x4
  exact ⟨((b1.trans (b2.mono (by omega))).trans (b3.mono (by omega))).trans (b4.mono (by omega)), by simp [e3], ((x1.to b2).to b3).to b4, (x2.to b3).to b4, x3.to b4, x4⟩
/-- What each operation of the first configuration leaves. -/
def spA (B gw : Nat) : Nat → Value → World → Prop
  | 0, v, _ => v = .slice (some ⟨gw, 0, none⟩) 1 1
  | 1, v, _ => v = ptV 1 0 16 true
  | 2, v, _ => v = ptV 2 16 32 true
  | 3, v, _ => v = ptV 3 48 16 false
  | 4, v, w => ∃ g, v = .slice (some ⟨g, 0, none⟩) 3 3 ∧ B ≤ g ∧ Bx w g 43 (cellsP (1, 0, 16, true) (2, 16, 32, true) (3, 48, 16, false))
  | 5, v, _ => v = .agg #[.int .i64 1, .int .i64 1, .int .i64 2, .int .i64 1, .int .i64 1]
  | 6, v, _ => v = .agg #[.int .i64 2, .int .i64 1, .int .i64 3, .int .i64 1, .int .i64 1]
  | 7, v, w => ∃ g, v = .slice (some ⟨g, 0, none⟩) 2 2 ∧ B ≤ g ∧ Bx w g 47 [.int .i64 1, .int .i64 1, .int .i64 2, .int .i64 1, .int .i64 1, .int .i64 2, .int .i64 1, .int .i64 3, .int .i64 1, .int .i64 1]
  | 8, v, w => ∃ g g', v = .agg #[.slice (some ⟨gw, 0, none⟩) 1 1, .slice (some ⟨g, 0, none⟩) 3 3, .slice (some ⟨g', 0, none⟩) 2 2] ∧ (B ≤ g ∧ Bx w g 43 (cellsP (1, 0, 16, true) (2, 16, 32, true) (3, 48, 16, false))) ∧ B ≤ g' ∧ Bx w g' 47 [.int .i64 1, .int .i64 1, .int .i64 2, .int .i64 1, .int .i64 1, .int .i64 2, .int .i64 1, .int .i64 3, .int .i64 1, .int .i64 1]
  | 9, v, w => ∃ g, v = .pointer (some ⟨g, 0, none⟩) ∧ B ≤ g ∧ Bx w g 26 [.slice none 0 0, .slice none 0 0, .slice none 0 0]
  | _, _, _ => True
theorem spA_to (B gw : Nat) (i : Nat) (v : Value) (w w1 : World) (hi : i < 10) (h : spA B gw i v w) (hb : Below w.heap.size w w1) : spA B gw i v w1 := by
  match i, hi with
  | 0, _ => exact h
  | 1, _ => exact h
  | 2, _ => exact h
  | 3, _ => exact h
  | 4, _ => obtain ⟨g, e, h1, h2⟩ := h; exact ⟨g, e, h1, h2.to hb⟩
  | 5, _ => exact h
  | 6, _ => exact h
  | 7, _ => obtain ⟨g, e, h1, h2⟩ := h; exact ⟨g, e, h1, h2.to hb⟩
  | 8, _ => obtain ⟨g, g', e, ⟨h1, h2⟩, h3, h4⟩ := h; exact ⟨g, g', e, ⟨h1, h2.to hb⟩, h3, h4.to hb⟩
  | 9, _ => obtain ⟨g, e, h1, h2⟩ := h; exact ⟨g, e, h1, h2.to hb⟩
/-- What each operation of the second configuration leaves. -/
def spB (B gw : Nat) : Nat → Value → World → Prop
  | 0, v, _ => v = .slice (some ⟨gw, 0, none⟩) 1 1
  | 1, v, _ => v = ptV 1 0 16 true
  | 2, v, _ => v = ptV 2 16 32 false
  | 3, v, _ => v = ptV 4 48 16 false
  | 4, v, w => ∃ g, v = .slice (some ⟨g, 0, none⟩) 3 3 ∧ B ≤ g ∧ Bx w g 43 (cellsP (1, 0, 16, true) (2, 16, 32, false) (4, 48, 16, false))
  | 5, v, _ => v = .agg #[.int .i64 1, .int .i64 1, .int .i64 2, .int .i64 1, .int .i64 1]
  | 6, v, w => ∃ g, v = .slice (some ⟨g, 0, none⟩) 1 1 ∧ B ≤ g ∧ Bx w g 47 [.int .i64 1, .int .i64 1, .int .i64 2, .int .i64 1, .int .i64 1]
  | 7, v, w => ∃ g g', v = .agg #[.slice (some ⟨gw, 0, none⟩) 1 1, .slice (some ⟨g, 0, none⟩) 3 3, .slice (some ⟨g', 0, none⟩) 1 1] ∧ (B ≤ g ∧ Bx w g 43 (cellsP (1, 0, 16, true) (2, 16, 32, false) (4, 48, 16, false))) ∧ B ≤ g' ∧ Bx w g' 47 [.int .i64 1, .int .i64 1, .int .i64 2, .int .i64 1, .int .i64 1]
  | 8, v, w => ∃ g, v = .pointer (some ⟨g, 0, none⟩) ∧ B ≤ g ∧ Bx w g 26 [.slice none 0 0, .slice none 0 0, .slice none 0 0]
  | _, _, _ => True
theorem spB_to (B gw : Nat) (i : Nat) (v : Value) (w w1 : World) (hi : i < 9) (h : spB B gw i v w) (hb : Below w.heap.size w w1) : spB B gw i v w1 := by
  match i, hi with
  | 0, _ => exact h
  | 1, _ => exact h
  | 2, _ => exact h
  | 3, _ => exact h
  | 4, _ => obtain ⟨g, e, h1, h2⟩ := h; exact ⟨g, e, h1, h2.to hb⟩
  | 5, _ => exact h
  | 6, _ => obtain ⟨g, e, h1, h2⟩ := h; exact ⟨g, e, h1, h2.to hb⟩
  | 7, _ => obtain ⟨g, g', e, ⟨h1, h2⟩, h3, h4⟩ := h; exact ⟨g, g', e, ⟨h1, h2.to hb⟩, h3, h4.to hb⟩
  | 8, _ => obtain ⟨g, e, h1, h2⟩ := h; exact ⟨g, e, h1, h2.to hb⟩
set_option maxRecDepth 1000000 in
set_option maxHeartbeats 1000000 in
theorem lShown13 (w : World) : Calls Try.prog 36 #[] w fun x w' => ∃ (v v' : CV), x = .returned (.tuple #[v.val, v'.val]) ∧ RdCf w' w'.heap.size v shA ∧ RdCf w' w'.heap.size v' shB ∧ v.np = 3 ∧ Below w.heap.size w w' := by
  go_enter Try.func36, Try.ntmps36
  go_upto_region 3 with (fail)
  obtain ⟨w0, hw0, hb0, hs0, hx0, hy0, hw, hq⟩ := shown_w13 w
  rw [hw0]
  have B := Lib.hid hb0
  have X0 := Lib.hid hx0
  have Y0 := Lib.hid hy0
  have W0 := Lib.hid hw
  have Q0 := Lib.hid hq
  have S0 := Lib.hid hs0
  clear hw0 hb0 hx0 hy0 hw hq hs0
  refine region_inv (n := 10) (ds := [9, 10, 11, 12, 13, 14, 15, 16, 17, 4]) (S := fun w' => Below w0.heap.size w0 w') (spA w0.heap.size (w.heap.size + 1 + 1)) #[true, true, true, true, true, true, true, true, true, true, false] [undef, undef, undef, undef, undef, undef, undef, undef, undef, undef] (by kernel_rfl) (Nat.le_of_ble_eq_true (by kernel_rfl)) rfl (by kernel_rfl) (by kernel_rfl) (by kernel_rfl) (by simp only [Xs, List.setIfInBounds_toArray, List.set_cons_zero, List.set_cons_succ]) rfl (Below.refl _ _).drew (fun i v u u1 hi h hb => spA_to _ _ i v u u1 hi h hb) ?_ ?_
  · refine lt_cases (lt_cases (lt_cases (lt_cases (lt_cases (lt_cases (lt_cases (lt_cases (lt_cases (lt_cases lt_none ?_) ?_) ?_) ?_) ?_) ?_) ?_) ?_) ?_) ?_
    · refine StepI.mk rfl (fun xs w1 hl hS hd K hK => ?_)
      obtain ⟨x0, x1, x2, x3, x4, x5, x6, x7, x8, x9, rfl⟩ := len10 hl
      simp only [Xs, List.setIfInBounds_toArray, List.set_cons_zero, List.set_cons_succ]
      go_simp
      have hK2 := hK.out
      simp only [Xs, List.setIfInBounds_toArray, List.set_cons_zero, List.set_cons_succ] at hK2
      exact hK2 _ w1 hS rfl (Below.refl _ _)
    · refine StepI.mk rfl (fun xs w1 hl hS hd K hK => ?_)
      obtain ⟨x0, x1, x2, x3, x4, x5, x6, x7, x8, x9, rfl⟩ := len10 hl
      simp only [Xs, List.setIfInBounds_toArray, List.set_cons_zero, List.set_cons_succ]
      go_simp
      refine (lPart13 1 0 16 true _).mono ?_
      rintro e w2 ⟨rfl, hb⟩
      go_wp2_with fail
      have hK2 := hK.out
      simp only [Xs, List.setIfInBounds_toArray, List.set_cons_zero, List.set_cons_succ] at hK2
      exact hK2 _ w2 (hS.trans (hb.mono hS.size)) rfl hb
    · refine StepI.mk rfl (fun xs w1 hl hS hd K hK => ?_)
      obtain ⟨x0, x1, x2, x3, x4, x5, x6, x7, x8, x9, rfl⟩ := len10 hl
      simp only [Xs, List.setIfInBounds_toArray, List.set_cons_zero, List.set_cons_succ]
      go_simp
      refine (lPart13 2 16 32 true _).mono ?_
      rintro e w2 ⟨rfl, hb⟩
      go_wp2_with fail
      have hK2 := hK.out
      simp only [Xs, List.setIfInBounds_toArray, List.set_cons_zero, List.set_cons_succ] at hK2
      exact hK2 _ w2 (hS.trans (hb.mono hS.size)) rfl hb
    · refine StepI.mk rfl (fun xs w1 hl hS hd K hK => ?_)
      obtain ⟨x0, x1, x2, x3, x4, x5, x6, x7, x8, x9, rfl⟩ := len10 hl
      simp only [Xs, List.setIfInBounds_toArray, List.set_cons_zero, List.set_cons_succ]
      go_simp
      refine (lPart13 3 48 16 false _).mono ?_
      rintro e w2 ⟨rfl, hb⟩
      go_wp2_with fail
      have hK2 := hK.out
      simp only [Xs, List.setIfInBounds_toArray, List.set_cons_zero, List.set_cons_succ] at hK2
      exact hK2 _ w2 (hS.trans (hb.mono hS.size)) rfl hb
    · refine StepI.mk rfl (fun xs w1 hl hS hd K hK => ?_)
      obtain ⟨x0, x1, x2, x3, x4, x5, x6, x7, x8, x9, rfl⟩ := len10 hl
      obtain rfl : x1 = ptV 1 0 16 true := hd ⟨1, .data⟩ (by simp) rfl
      obtain rfl : x2 = ptV 2 16 32 true := hd ⟨2, .data⟩ (by simp) rfl
      obtain rfl : x3 = ptV 3 48 16 false := hd ⟨3, .data⟩ (by simp) rfl
      simp only [ptV]
      simp only [Xs, List.setIfInBounds_toArray, List.set_cons_zero, List.set_cons_succ]
      go_simp
      have hal := (Below.refl w1.heap.size w1).alloc (Nat.le_refl _) (.cells #[.int .i64 1, .int .i64 0, .int .i64 16, .bool true, .slice none 0 0, .int .i64 2, .int .i64 16, .int .i64 32, .bool true, .slice none 0 0, .int .i64 3, .int .i64 48, .int .i64 16, .bool false, .slice none 0 0] 43)
      have hx := Bx.new w1 43 [.int .i64 1, .int .i64 0, .int .i64 16, .bool true, .slice none 0 0, .int .i64 2, .int .i64 16, .int .i64 32, .bool true, .slice none 0 0, .int .i64 3, .int .i64 48, .int .i64 16, .bool false, .slice none 0 0]
      have hK2 := hK.out
      simp only [Xs, List.setIfInBounds_toArray, List.set_cons_zero, List.set_cons_succ] at hK2
      exact hK2 _ _ (hS.trans (hal.mono hS.size)) ⟨w1.heap.size, rfl, hS.size, hx⟩ hal
    · refine StepI.mk rfl (fun xs w1 hl hS hd K hK => ?_)
      obtain ⟨x0, x1, x2, x3, x4, x5, x6, x7, x8, x9, rfl⟩ := len10 hl
      simp only [Xs, List.setIfInBounds_toArray, List.set_cons_zero, List.set_cons_succ]
      have c0 := (Q0.out.to hS).at (j := 0) rfl
      have c1 := (Q0.out.to hS).at (j := 1) rfl
      have c2 := (Q0.out.to hS).at (j := 2) rfl
      have c3 := (Q0.out.to hS).at (j := 3) rfl
      have c4 := (Q0.out.to hS).at (j := 4) rfl
      go_simp
      have hK2 := hK.out
      simp only [Xs, List.setIfInBounds_toArray, List.set_cons_zero, List.set_cons_succ] at hK2
      exact hK2 _ w1 hS rfl (Below.refl _ _)
    · refine StepI.mk rfl (fun xs w1 hl hS hd K hK => ?_)
      obtain ⟨x0, x1, x2, x3, x4, x5, x6, x7, x8, x9, rfl⟩ := len10 hl
      simp only [Xs, List.setIfInBounds_toArray, List.set_cons_zero, List.set_cons_succ]
      go_simp
      have hK2 := hK.out
      simp only [Xs, List.setIfInBounds_toArray, List.set_cons_zero, List.set_cons_succ] at hK2
      exact hK2 _ w1 hS rfl (Below.refl _ _)
    · refine StepI.mk rfl (fun xs w1 hl hS hd K hK => ?_)
      obtain ⟨x0, x1, x2, x3, x4, x5, x6, x7, x8, x9, rfl⟩ := len10 hl
      obtain rfl : x5 = _ := hd ⟨5, .data⟩ (by simp) rfl
      obtain rfl : x6 = _ := hd ⟨6, .data⟩ (by simp) rfl
      simp only [Xs, List.setIfInBounds_toArray, List.set_cons_zero, List.set_cons_succ]
      go_simp
      have hal := (Below.refl w1.heap.size w1).alloc (Nat.le_refl _) (.cells #[.int .i64 1, .int .i64 1, .int .i64 2, .int .i64 1, .int .i64 1, .int .i64 2, .int .i64 1, .int .i64 3, .int .i64 1, .int .i64 1] 47)
      have hx := Bx.new w1 47 [.int .i64 1, .int .i64 1, .int .i64 2, .int .i64 1, .int .i64 1, .int .i64 2, .int .i64 1, .int .i64 3, .int .i64 1, .int .i64 1]
      have hK2 := hK.out
      simp only [Xs, List.setIfInBounds_toArray, List.set_cons_zero, List.set_cons_succ] at hK2
      exact hK2 _ _ (hS.trans (hal.mono hS.size)) ⟨w1.heap.size, rfl, hS.size, hx⟩ hal
    · refine StepI.mk rfl (fun xs w1 hl hS hd K hK => ?_)
      obtain ⟨x0, x1, x2, x3, x4, x5, x6, x7, x8, x9, rfl⟩ := len10 hl
      obtain rfl : x0 = _ := hd ⟨0, .data⟩ (by simp) rfl
      obtain ⟨g, rfl, h1, h2⟩ := (show spA _ _ 4 x4 _ from hd ⟨4, .data⟩ (by simp) rfl)
      obtain ⟨g2, rfl, h3, h4⟩ := (show spA _ _ 7 x7 _ from hd ⟨7, .data⟩ (by simp) rfl)
      simp only [Xs, List.setIfInBounds_toArray, List.set_cons_zero, List.set_cons_succ]
      go_simp
      have hK2 := hK.out
      simp only [Xs, List.setIfInBounds_toArray, List.set_cons_zero, List.set_cons_succ] at hK2
      exact hK2 _ w1 hS ⟨g, g2, rfl, ⟨h1, h2⟩, h3, h4⟩ (Below.refl _ _)
    · refine StepI.mk rfl (fun xs w1 hl hS hd K hK => ?_)
      obtain ⟨x0, x1, x2, x3, x4, x5, x6, x7, x8, x9, rfl⟩ := len10 hl
      simp only [Xs, List.setIfInBounds_toArray, List.set_cons_zero, List.set_cons_succ]
      go_simp
      have hal := (Below.refl w1.heap.size w1).alloc (Nat.le_refl _) (.cells #[.slice none 0 0, .slice none 0 0, .slice none 0 0] 26)
      have hx := Bx.new w1 26 [.slice none 0 0, .slice none 0 0, .slice none 0 0]
      have hK2 := hK.out
      simp only [Xs, List.setIfInBounds_toArray, List.set_cons_zero, List.set_cons_succ] at hK2
      exact hK2 _ _ (hS.trans (hal.mono hS.size)) ⟨w1.heap.size, rfl, hS.size, hx⟩ hal
  · intro xs w1 hl hS hd
    obtain ⟨x0, x1, x2, x3, x4, x5, x6, x7, x8, x9, rfl⟩ := len10 hl
    obtain ⟨g, g', hcf, ⟨h1, h2⟩, h3, h4⟩ := (show spA w0.heap.size (w.heap.size + 1 + 1) 8 x8 _ from hd 8 (by decide))
    obtain ⟨gx, hbx, h5, h6⟩ := (show spA w0.heap.size (w.heap.size + 1 + 1) 9 x9 _ from hd 9 (by decide))
    subst hcf hbx
    clear hd hl
    simp only [Xs, List.setIfInBounds_toArray, List.set_cons_zero, List.set_cons_succ]
    change wpAny _ _ _ _ 1 _ _ _
    refine wpAny_of_held (S := fun _ => True) _ _ _ _ ?_
    have z0 := h6.at (j := 0) rfl
    have z1 := h6.at (j := 1) rfl
    have z2 := h6.at (j := 2) rfl
    have f0 := h6.fz 0
    have f1 := h6.fz 1
    have f2 := h6.fz 2
    refine wpAnyH_ready (rs := [10]) (by kernel_rfl) (by simp) ?_
    refine AllReadyH.cons rfl (fun K hK => ?_) AllReadyH.nil
    go_simp
    refine hK.out _ _ (trivial) (fun hHeld => ?_)
    clear hK K
    refine wpAnyH_done (by kernel_rfl) ?_ _
    clear z0 z1 z2 f0 f1 f2 hHeld
    have n1 : g ≠ gx := h2.ne h6 (by decide)
    have n2 : g' ≠ gx := h4.ne h6 (by decide)
    have KX := Keep.sets (R := (· = gx)) rfl [.slice (some ⟨w.heap.size + 1 + 1, 0, none⟩) 1 1, .slice (some ⟨g, 0, none⟩) 3 3, .slice (some ⟨g', 0, none⟩) 2 2] 0 (Keep.refl _ w1)
    have XA := Lib.hid (h6.sets [.slice (some ⟨w.heap.size + 1 + 1, 0, none⟩) 1 1, .slice (some ⟨g, 0, none⟩) 3 3, .slice (some ⟨g', 0, none⟩) 2 2] rfl)
    have PA := Lib.hid (h2.kept KX n1)
    have QA := Lib.hid (h4.kept KX n2)
    have BA := Lib.hid (below_sets h5 [.slice (some ⟨w.heap.size + 1 + 1, 0, none⟩) 1 1, .slice (some ⟨g, 0, none⟩) 3 3, .slice (some ⟨g', 0, none⟩) 2 2] 0 hS)
    have HGX := Lib.hid h5
    have HGA := Lib.hid (And.intro h1 h3)
    clear h1 h2 h3 h4 h5 h6 n1 n2 KX hS
    go_upto_region 4 with (fail)
    change Code.wp _ _ _ _ (setsC w1 gx 0 [.slice (some ⟨w.heap.size + 1 + 1, 0, none⟩) 1 1, .slice (some ⟨g, 0, none⟩) 3 3, .slice (some ⟨g', 0, none⟩) 2 2])
    generalize setsC w1 gx 0 [.slice (some ⟨w.heap.size + 1 + 1, 0, none⟩) 1 1, .slice (some ⟨g, 0, none⟩) 3 3, .slice (some ⟨g', 0, none⟩) 2 2] = wa at *
    have W1 := Lib.hid (W0.out.to BA.out)
    have Q1 := Lib.hid (Q0.out.to BA.out)
    have X1 := Lib.hid (X0.out.to BA.out)
    have Y1 := Lib.hid (Y0.out.to BA.out)
    refine region_inv (n := 9) (ds := [18, 19, 20, 21, 22, 23, 24, 25, 5]) (S := fun w' => Below wa.heap.size wa w') (spB wa.heap.size (w.heap.size + 1 + 1)) #[true, true, true, true, true, true, true, true, true, false] [undef, undef, undef, undef, undef, undef, undef, undef, undef] (by kernel_rfl) (Nat.le_of_ble_eq_true (by kernel_rfl)) rfl (by kernel_rfl) (by kernel_rfl) (by kernel_rfl) (by simp only [Xs, List.setIfInBounds_toArray, List.set_cons_zero, List.set_cons_succ]) rfl (Below.refl _ _).drew (fun i v u u1 hi h hb => spB_to _ _ i v u u1 hi h hb) ?_ ?_
    · refine lt_cases (lt_cases (lt_cases (lt_cases (lt_cases (lt_cases (lt_cases (lt_cases (lt_cases lt_none ?_) ?_) ?_) ?_) ?_) ?_) ?_) ?_) ?_
      · refine StepI.mk rfl (fun xs u1 hl hS hd K hK => ?_)
        obtain ⟨x0, x1, x2, x3, x4, x5, x6, x7, x8, rfl⟩ := len9 hl
        simp only [Xs, List.setIfInBounds_toArray, List.set_cons_zero, List.set_cons_succ]
        go_simp
        have hK2 := hK.out
        simp only [Xs, List.setIfInBounds_toArray, List.set_cons_zero, List.set_cons_succ] at hK2
        exact hK2 _ u1 hS rfl (Below.refl _ _)
      · refine StepI.mk rfl (fun xs u1 hl hS hd K hK => ?_)
        obtain ⟨x0, x1, x2, x3, x4, x5, x6, x7, x8, rfl⟩ := len9 hl
        simp only [Xs, List.setIfInBounds_toArray, List.set_cons_zero, List.set_cons_succ]
        go_simp
        refine (lPart13 1 0 16 true _).mono ?_
        rintro e u2w ⟨rfl, hb⟩
        go_wp2_with fail
        have hK2 := hK.out
        simp only [Xs, List.setIfInBounds_toArray, List.set_cons_zero, List.set_cons_succ] at hK2
        exact hK2 _ u2w (hS.trans (hb.mono hS.size)) rfl hb
      · refine StepI.mk rfl (fun xs u1 hl hS hd K hK => ?_)
        obtain ⟨x0, x1, x2, x3, x4, x5, x6, x7, x8, rfl⟩ := len9 hl
        simp only [Xs, List.setIfInBounds_toArray, List.set_cons_zero, List.set_cons_succ]
        go_simp
        refine (lPart13 2 16 32 false _).mono ?_
        rintro e u2w ⟨rfl, hb⟩
        go_wp2_with fail
        have hK2 := hK.out
        simp only [Xs, List.setIfInBounds_toArray, List.set_cons_zero, List.set_cons_succ] at hK2
        exact hK2 _ u2w (hS.trans (hb.mono hS.size)) rfl hb
      · refine StepI.mk rfl (fun xs u1 hl hS hd K hK => ?_)
        obtain ⟨x0, x1, x2, x3, x4, x5, x6, x7, x8, rfl⟩ := len9 hl
        simp only [Xs, List.setIfInBounds_toArray, List.set_cons_zero, List.set_cons_succ]
        go_simp
        refine (lPart13 4 48 16 false _).mono ?_
        rintro e u2w ⟨rfl, hb⟩
        go_wp2_with fail
        have hK2 := hK.out
        simp only [Xs, List.setIfInBounds_toArray, List.set_cons_zero, List.set_cons_succ] at hK2
        exact hK2 _ u2w (hS.trans (hb.mono hS.size)) rfl hb
      · refine StepI.mk rfl (fun xs u1 hl hS hd K hK => ?_)
        obtain ⟨x0, x1, x2, x3, x4, x5, x6, x7, x8, rfl⟩ := len9 hl
        obtain rfl : x1 = ptV 1 0 16 true := hd ⟨1, .data⟩ (by simp) rfl
        obtain rfl : x2 = ptV 2 16 32 false := hd ⟨2, .data⟩ (by simp) rfl
        obtain rfl : x3 = ptV 4 48 16 false := hd ⟨3, .data⟩ (by simp) rfl
        simp only [ptV]
        simp only [Xs, List.setIfInBounds_toArray, List.set_cons_zero, List.set_cons_succ]
        go_simp
        have hal := (Below.refl u1.heap.size u1).alloc (Nat.le_refl _) (.cells #[.int .i64 1, .int .i64 0, .int .i64 16, .bool true, .slice none 0 0, .int .i64 2, .int .i64 16, .int .i64 32, .bool false, .slice none 0 0, .int .i64 4, .int .i64 48, .int .i64 16, .bool false, .slice none 0 0] 43)
        have hx := Bx.new u1 43 [.int .i64 1, .int .i64 0, .int .i64 16, .bool true, .slice none 0 0, .int .i64 2, .int .i64 16, .int .i64 32, .bool false, .slice none 0 0, .int .i64 4, .int .i64 48, .int .i64 16, .bool false, .slice none 0 0]
        have hK2 := hK.out
        simp only [Xs, List.setIfInBounds_toArray, List.set_cons_zero, List.set_cons_succ] at hK2
        exact hK2 _ _ (hS.trans (hal.mono hS.size)) ⟨u1.heap.size, rfl, hS.size, hx⟩ hal
      · refine StepI.mk rfl (fun xs u1 hl hS hd K hK => ?_)
        obtain ⟨x0, x1, x2, x3, x4, x5, x6, x7, x8, rfl⟩ := len9 hl
        simp only [Xs, List.setIfInBounds_toArray, List.set_cons_zero, List.set_cons_succ]
        have c0 := (Q1.out.to hS).at (j := 0) rfl
        have c1 := (Q1.out.to hS).at (j := 1) rfl
        have c2 := (Q1.out.to hS).at (j := 2) rfl
        have c3 := (Q1.out.to hS).at (j := 3) rfl
        have c4 := (Q1.out.to hS).at (j := 4) rfl
        go_simp
        have hK2 := hK.out
        simp only [Xs, List.setIfInBounds_toArray, List.set_cons_zero, List.set_cons_succ] at hK2
        exact hK2 _ u1 hS rfl (Below.refl _ _)
      · refine StepI.mk rfl (fun xs u1 hl hS hd K hK => ?_)
        obtain ⟨x0, x1, x2, x3, x4, x5, x6, x7, x8, rfl⟩ := len9 hl
        obtain rfl : x5 = _ := hd ⟨5, .data⟩ (by simp) rfl
        simp only [Xs, List.setIfInBounds_toArray, List.set_cons_zero, List.set_cons_succ]
        go_simp
        have hal := (Below.refl u1.heap.size u1).alloc (Nat.le_refl _) (.cells #[.int .i64 1, .int .i64 1, .int .i64 2, .int .i64 1, .int .i64 1] 47)
        have hx := Bx.new u1 47 [.int .i64 1, .int .i64 1, .int .i64 2, .int .i64 1, .int .i64 1]
        have hK2 := hK.out
        simp only [Xs, List.setIfInBounds_toArray, List.set_cons_zero, List.set_cons_succ] at hK2
        exact hK2 _ _ (hS.trans (hal.mono hS.size)) ⟨u1.heap.size, rfl, hS.size, hx⟩ hal
      · refine StepI.mk rfl (fun xs u1 hl hS hd K hK => ?_)
        obtain ⟨x0, x1, x2, x3, x4, x5, x6, x7, x8, rfl⟩ := len9 hl
        obtain rfl : x0 = _ := hd ⟨0, .data⟩ (by simp) rfl
        obtain ⟨u, rfl, h1, h2⟩ := (show spB _ _ 4 x4 _ from hd ⟨4, .data⟩ (by simp) rfl)
        obtain ⟨u2, rfl, h3, h4⟩ := (show spB _ _ 6 x6 _ from hd ⟨6, .data⟩ (by simp) rfl)
        simp only [Xs, List.setIfInBounds_toArray, List.set_cons_zero, List.set_cons_succ]
        go_simp
        have hK2 := hK.out
        simp only [Xs, List.setIfInBounds_toArray, List.set_cons_zero, List.set_cons_succ] at hK2
        exact hK2 _ u1 hS ⟨u, u2, rfl, ⟨h1, h2⟩, h3, h4⟩ (Below.refl _ _)
      · refine StepI.mk rfl (fun xs u1 hl hS hd K hK => ?_)
        obtain ⟨x0, x1, x2, x3, x4, x5, x6, x7, x8, rfl⟩ := len9 hl
        simp only [Xs, List.setIfInBounds_toArray, List.set_cons_zero, List.set_cons_succ]
        go_simp
        have hal := (Below.refl u1.heap.size u1).alloc (Nat.le_refl _) (.cells #[.slice none 0 0, .slice none 0 0, .slice none 0 0] 26)
        have hx := Bx.new u1 26 [.slice none 0 0, .slice none 0 0, .slice none 0 0]
        have hK2 := hK.out
        simp only [Xs, List.setIfInBounds_toArray, List.set_cons_zero, List.set_cons_succ] at hK2
        exact hK2 _ _ (hS.trans (hal.mono hS.size)) ⟨u1.heap.size, rfl, hS.size, hx⟩ hal
    · intro xs wb hl hS hd
      obtain ⟨x0, x1, x2, x3, x4, x5, x6, x7, x8, rfl⟩ := len9 hl
      obtain ⟨h, h', hcf, ⟨h1, h2⟩, h3, h4⟩ := (show spB wa.heap.size (w.heap.size + 1 + 1) 7 x7 _ from hd 7 (by decide))
      obtain ⟨gy, hby, h5, h6⟩ := (show spB wa.heap.size (w.heap.size + 1 + 1) 8 x8 _ from hd 8 (by decide))
      subst hcf hby
      clear hd hl
      simp only [Xs, List.setIfInBounds_toArray, List.set_cons_zero, List.set_cons_succ]
      change wpAny _ _ _ _ 1 _ _ _
      refine wpAny_of_held (S := fun _ => True) _ _ _ _ ?_
      have z0 := h6.at (j := 0) rfl
      have z1 := h6.at (j := 1) rfl
      have z2 := h6.at (j := 2) rfl
      have f0 := h6.fz 0
      have f1 := h6.fz 1
      have f2 := h6.fz 2
      refine wpAnyH_ready (rs := [9]) (by kernel_rfl) (by simp) ?_
      refine AllReadyH.cons rfl (fun K hK => ?_) AllReadyH.nil
      go_simp
      refine hK.out _ _ (trivial) (fun hHeld => ?_)
      clear hK K
      refine wpAnyH_done (by kernel_rfl) ?_ _
      clear z0 z1 z2 f0 f1 f2 hHeld
      have n1 : h ≠ gy := h2.ne h6 (by decide)
      have n2 : h' ≠ gy := h4.ne h6 (by decide)
      have KX := Keep.sets (R := (· = gy)) rfl [.slice (some ⟨w.heap.size + 1 + 1, 0, none⟩) 1 1, .slice (some ⟨h, 0, none⟩) 3 3, .slice (some ⟨h', 0, none⟩) 1 1] 0 (Keep.refl _ wb)
      have XB := Lib.hid (h6.sets [.slice (some ⟨w.heap.size + 1 + 1, 0, none⟩) 1 1, .slice (some ⟨h, 0, none⟩) 3 3, .slice (some ⟨h', 0, none⟩) 1 1] rfl)
      have PBB := Lib.hid (h2.kept KX n1)
      have QBB := Lib.hid (h4.kept KX n2)
      have BB := Lib.hid (below_sets h5 [.slice (some ⟨w.heap.size + 1 + 1, 0, none⟩) 1 1, .slice (some ⟨h, 0, none⟩) 3 3, .slice (some ⟨h', 0, none⟩) 1 1] 0 hS)
      have HGY := Lib.hid h5
      have HGB := Lib.hid (And.intro h1 h3)
      clear h1 h2 h3 h4 h5 h6 n1 n2 KX hS
      go_upto_region 5 with (fail)
      change Code.wp _ _ _ _ (setsC wb gy 0 [.slice (some ⟨w.heap.size + 1 + 1, 0, none⟩) 1 1, .slice (some ⟨h, 0, none⟩) 3 3, .slice (some ⟨h', 0, none⟩) 1 1])
      generalize setsC wb gy 0 [.slice (some ⟨w.heap.size + 1 + 1, 0, none⟩) 1 1, .slice (some ⟨h, 0, none⟩) 3 3, .slice (some ⟨h', 0, none⟩) 1 1] = wc at *
      replace XA := Lib.hid (XA.out.to BB.out)
      replace PA := Lib.hid (PA.out.to BB.out)
      replace QA := Lib.hid (QA.out.to BB.out)
      replace W1 := Lib.hid (W1.out.to BB.out)
      replace X1 := Lib.hid (X1.out.to BB.out)
      replace Y1 := Lib.hid (Y1.out.to BB.out)
      have N1 : Hid (w.heap.size + 1 + 1 + 1 + 1 ≤ gx ∧ w.heap.size + 1 + 1 + 1 + 1 ≤ gy) := by (show _ ∧ _); have h1 := HGX.out; have h2 := HGY.out; have h3 := BA.out.size; have h4 := S0.out; constructor <;> omega
      have N2 : Hid ((w.heap.size + 1 + 1 + 1 + 1 ≤ g ∧ w.heap.size + 1 + 1 + 1 + 1 ≤ g') ∧ w.heap.size + 1 + 1 + 1 + 1 ≤ h ∧ w.heap.size + 1 + 1 + 1 + 1 ≤ h') := by (show _ ∧ _); have h1 := HGA.out; have h2 := HGB.out; have h3 := BA.out.size; have h4 := S0.out; refine ⟨⟨?_, ?_⟩, ?_, ?_⟩ <;> omega
      have BC := Lib.hid (B.out.trans ((BA.out.trans (BB.out.mono BA.out.size)).mono B.out.size))
      obtain ⟨wd, hwd⟩ : ∃ x, wc.drew = x := ⟨_, rfl⟩
      replace XA := Lib.hid (XA.out.to (Below.refl _ _).drew)
      replace XB := Lib.hid (XB.out.to (Below.refl _ _).drew)
      replace PA := Lib.hid (PA.out.to (Below.refl _ _).drew)
      replace QA := Lib.hid (QA.out.to (Below.refl _ _).drew)
      replace PBB := Lib.hid (PBB.out.to (Below.refl _ _).drew)
      replace QBB := Lib.hid (QBB.out.to (Below.refl _ _).drew)
      replace W1 := Lib.hid (W1.out.to (Below.refl _ _).drew)
      replace X1 := Lib.hid (X1.out.to (Below.refl _ _).drew)
      replace Y1 := Lib.hid (Y1.out.to (Below.refl _ _).drew)
      replace BC := Lib.hid BC.out.drew
      rw [hwd] at XA XB PA QA PBB QBB W1 X1 Y1 BC
      refine wp_region_held_drew (S := (fun w' => Bx w' gx 26 [.slice (some ⟨w.heap.size + 1 + 1, 0, none⟩) 1 1, .slice (some ⟨g, 0, none⟩) 3 3, .slice (some ⟨g', 0, none⟩) 2 2] ∧ Bx w' gy 26 [.slice (some ⟨w.heap.size + 1 + 1, 0, none⟩) 1 1, .slice (some ⟨h, 0, none⟩) 3 3, .slice (some ⟨h', 0, none⟩) 1 1])) (by kernel_rfl) ((by rw [hwd]; exact ⟨XA.out, XB.out⟩)) (fun hHeld => ?_)
      rw [hwd] at hHeld ⊢
      clear hwd
      have z0 := X1.out.at (j := 0) rfl
      have z1 := X1.out.at (j := 1) rfl
      have z2 := X1.out.at (j := 2) rfl
      have f0 := X1.out.fz 0
      have f1 := X1.out.fz 1
      have f2 := X1.out.fz 2
      refine wpAnyH_take (i := 0) (v := ?_) rfl (by kernel_rfl) (by kernel_rfl) (by kernel_rfl) (fun _ _ _ h => h) (Or.inl ⟨by rfl, ?_⟩) (by assumption) ?_
      rotate_left 1
      · intro w hSw; (try dsimp only at hSw); have t0 := hSw.1.at (j := 0) rfl; have t1 := hSw.1.at (j := 1) rfl; have t2 := hSw.1.at (j := 2) rfl; go_simp; (try with_reducible rfl)
      simp only [Act.put, List.getElem_toArray, List.getElem_cons_zero, List.getElem_cons_succ, List.setIfInBounds_toArray, List.set_cons_zero, List.set_cons_succ]
      refine wpAnyH_take (i := 1) (v := ?_) rfl (by kernel_rfl) (by kernel_rfl) (by kernel_rfl) (fun _ _ _ h => h) (Or.inl ⟨by rfl, ?_⟩) (by assumption) ?_
      rotate_left 1
      · intro w hSw; (try dsimp only at hSw); have t0 := hSw.2.at (j := 0) rfl; have t1 := hSw.2.at (j := 1) rfl; have t2 := hSw.2.at (j := 2) rfl; go_simp; (try with_reducible rfl)
      simp only [Act.put, List.getElem_toArray, List.getElem_cons_zero, List.getElem_cons_succ, List.setIfInBounds_toArray, List.set_cons_zero, List.set_cons_succ]
      have KX := Keep.sets (R := (· = w.heap.size)) rfl [.slice (some ⟨w.heap.size + 1 + 1, 0, none⟩) 1 1, .slice (some ⟨g, 0, none⟩) 3 3, .slice (some ⟨g', 0, none⟩) 2 2] 0 (Keep.refl _ wd)
      have S1 : Hid (Bx (setsC wd w.heap.size 0 [.slice (some ⟨w.heap.size + 1 + 1, 0, none⟩) 1 1, .slice (some ⟨g, 0, none⟩) 3 3, .slice (some ⟨g', 0, none⟩) 2 2]) gx 26 [.slice (some ⟨w.heap.size + 1 + 1, 0, none⟩) 1 1, .slice (some ⟨g, 0, none⟩) 3 3, .slice (some ⟨g', 0, none⟩) 2 2] ∧ Bx (setsC wd w.heap.size 0 [.slice (some ⟨w.heap.size + 1 + 1, 0, none⟩) 1 1, .slice (some ⟨g, 0, none⟩) 3 3, .slice (some ⟨g', 0, none⟩) 2 2]) gy 26 [.slice (some ⟨w.heap.size + 1 + 1, 0, none⟩) 1 1, .slice (some ⟨h, 0, none⟩) 3 3, .slice (some ⟨h', 0, none⟩) 1 1]) := ⟨XA.out.kept KX (by have := N1.out; omega), XB.out.kept KX (by have := N1.out; omega)⟩
      have Y2 := Lib.hid (Y1.out.kept KX (by omega))
      have X2 := Lib.hid (X1.out.sets [.slice (some ⟨w.heap.size + 1 + 1, 0, none⟩) 1 1, .slice (some ⟨g, 0, none⟩) 3 3, .slice (some ⟨g', 0, none⟩) 2 2] rfl)
      replace PA := Lib.hid (PA.out.kept KX (by have := N2.out; omega))
      replace QA := Lib.hid (QA.out.kept KX (by have := N2.out; omega))
      replace PBB := Lib.hid (PBB.out.kept KX (by have := N2.out; omega))
      replace QBB := Lib.hid (QBB.out.kept KX (by have := N2.out; omega))
      replace W1 := Lib.hid (W1.out.kept KX (by omega))
      replace BC := Lib.hid (below_sets (Nat.le_refl _) [.slice (some ⟨w.heap.size + 1 + 1, 0, none⟩) 1 1, .slice (some ⟨g, 0, none⟩) 3 3, .slice (some ⟨g', 0, none⟩) 2 2] 0 BC.out)
      refine wpAnyH_ready (rs := [2]) (by kernel_rfl) (by simp) ?_
      refine AllReadyH.cons rfl (fun K hK => ?_) AllReadyH.nil
      go_simp
      refine hK.out _ _ (S1.out) (fun hHeld => ?_)
      clear hK K
      clear z0 z1 z2 f0 f1 f2 hHeld KX
      change wpAnyH _ _ _ _ _ _ _ _ (setsC wd w.heap.size 0 [.slice (some ⟨w.heap.size + 1 + 1, 0, none⟩) 1 1, .slice (some ⟨g, 0, none⟩) 3 3, .slice (some ⟨g', 0, none⟩) 2 2])
      have z0 := Y2.out.at (j := 0) rfl
      have z1 := Y2.out.at (j := 1) rfl
      have z2 := Y2.out.at (j := 2) rfl
      have f0 := Y2.out.fz 0
      have f1 := Y2.out.fz 1
      have f2 := Y2.out.fz 2
      have KY := Keep.sets (R := (· = w.heap.size + 1)) rfl [.slice (some ⟨w.heap.size + 1 + 1, 0, none⟩) 1 1, .slice (some ⟨h, 0, none⟩) 3 3, .slice (some ⟨h', 0, none⟩) 1 1] 0 (Keep.refl _ (setsC wd w.heap.size 0 [.slice (some ⟨w.heap.size + 1 + 1, 0, none⟩) 1 1, .slice (some ⟨g, 0, none⟩) 3 3, .slice (some ⟨g', 0, none⟩) 2 2]))
      have S2 : Hid (Bx (setsC (setsC wd w.heap.size 0 [.slice (some ⟨w.heap.size + 1 + 1, 0, none⟩) 1 1, .slice (some ⟨g, 0, none⟩) 3 3, .slice (some ⟨g', 0, none⟩) 2 2]) (w.heap.size + 1) 0 [.slice (some ⟨w.heap.size + 1 + 1, 0, none⟩) 1 1, .slice (some ⟨h, 0, none⟩) 3 3, .slice (some ⟨h', 0, none⟩) 1 1]) gx 26 [.slice (some ⟨w.heap.size + 1 + 1, 0, none⟩) 1 1, .slice (some ⟨g, 0, none⟩) 3 3, .slice (some ⟨g', 0, none⟩) 2 2] ∧ Bx (setsC (setsC wd w.heap.size 0 [.slice (some ⟨w.heap.size + 1 + 1, 0, none⟩) 1 1, .slice (some ⟨g, 0, none⟩) 3 3, .slice (some ⟨g', 0, none⟩) 2 2]) (w.heap.size + 1) 0 [.slice (some ⟨w.heap.size + 1 + 1, 0, none⟩) 1 1, .slice (some ⟨h, 0, none⟩) 3 3, .slice (some ⟨h', 0, none⟩) 1 1]) gy 26 [.slice (some ⟨w.heap.size + 1 + 1, 0, none⟩) 1 1, .slice (some ⟨h, 0, none⟩) 3 3, .slice (some ⟨h', 0, none⟩) 1 1]) := ⟨S1.out.1.kept KY (by have := N1.out; omega), S1.out.2.kept KY (by have := N1.out; omega)⟩
      have Y3 := Lib.hid (Y2.out.sets [.slice (some ⟨w.heap.size + 1 + 1, 0, none⟩) 1 1, .slice (some ⟨h, 0, none⟩) 3 3, .slice (some ⟨h', 0, none⟩) 1 1] rfl)
      have X3 := Lib.hid (X2.out.kept KY (by omega))
      replace PA := Lib.hid (PA.out.kept KY (by have := N2.out; omega))
      replace QA := Lib.hid (QA.out.kept KY (by have := N2.out; omega))
      replace PBB := Lib.hid (PBB.out.kept KY (by have := N2.out; omega))
      replace QBB := Lib.hid (QBB.out.kept KY (by have := N2.out; omega))
      replace W1 := Lib.hid (W1.out.kept KY (by omega))
      replace BC := Lib.hid (below_sets (Nat.le_succ _) [.slice (some ⟨w.heap.size + 1 + 1, 0, none⟩) 1 1, .slice (some ⟨h, 0, none⟩) 3 3, .slice (some ⟨h', 0, none⟩) 1 1] 0 BC.out)
      clear KY
      generalize setsC wd w.heap.size 0 [.slice (some ⟨w.heap.size + 1 + 1, 0, none⟩) 1 1, .slice (some ⟨g, 0, none⟩) 3 3, .slice (some ⟨g', 0, none⟩) 2 2] = we at *
      refine wpAnyH_ready (rs := [3]) (by kernel_rfl) (by simp) ?_
      refine AllReadyH.cons rfl (fun K hK => ?_) AllReadyH.nil
      go_simp
      refine hK.out _ _ (S2.out) (fun hHeld => ?_)
      clear hK K
      clear z0 z1 z2 f0 f1 f2 hHeld
      change wpAnyH _ _ _ _ _ _ _ _ (setsC we (w.heap.size + 1) 0 [.slice (some ⟨w.heap.size + 1 + 1, 0, none⟩) 1 1, .slice (some ⟨h, 0, none⟩) 3 3, .slice (some ⟨h', 0, none⟩) 1 1])
      generalize setsC we (w.heap.size + 1) 0 [.slice (some ⟨w.heap.size + 1 + 1, 0, none⟩) 1 1, .slice (some ⟨h, 0, none⟩) 3 3, .slice (some ⟨h', 0, none⟩) 1 1] = wf at *
      refine wpAnyH_done (by kernel_rfl) ?_ _
      go_wp2_with fail
      refine bodyPost_ret (res_cc rfl _ _ w.heap.size (w.heap.size + 1) _ _ _ _ _ _ rfl rfl X3.out Y3.out) rfl ?_
      refine ⟨⟨some ⟨w.heap.size + 1 + 1, 0, none⟩, 1, 1, some ⟨g, 0, none⟩, 3, 3, some ⟨g', 0, none⟩, 2, 2⟩, ⟨some ⟨w.heap.size + 1 + 1, 0, none⟩, 1, 1, some ⟨h, 0, none⟩, 3, 3, some ⟨h', 0, none⟩, 1, 1⟩, rfl, ?_, ?_, rfl, BC.out⟩
      · exact ⟨rd_wws (l := [(1, 1)]) W1.out rfl (show 1 ≤ 1000 by decide), rd_pps (qs := qsA) PA.out (by decide) qsA_no, rd_ccs (l := [⟨1, 1, 2, 1, 1⟩, ⟨2, 1, 3, 1, 1⟩]) QA.out rfl (show 2 ≤ 1000 by decide), Nat.le_refl _, Nat.le_refl _, Nat.le_refl _⟩
      · exact ⟨rd_wws (l := [(1, 1)]) W1.out rfl (show 1 ≤ 1000 by decide), rd_pps (qs := qsB) PBB.out (by decide) qsB_no, rd_ccs (l := [⟨1, 1, 2, 1, 1⟩]) QBB.out rfl (show 1 ≤ 1000 by decide), Nat.le_refl _, Nat.le_refl _, Nat.le_refl _⟩
end Go.Proofs.Ytecedmjhhaabgaa
