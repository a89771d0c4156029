/- Contracts of the document's own regions (citadelref08): May, Has, Apart, Holder. -/
import Derived.Test.YtecedmjhhaabgaaRegP
namespace Go.Proofs.Ytecedmjhhaabgaa
open Go.RowKit
set_option linter.unusedVariables false
set_option linter.unusedSimpArgs false

set_option maxRecDepth 1000000 in
set_option maxHeartbeats 1000000 in
theorem rMayR (b s : Int) (w : World) :
    Calls Try.prog 61 #[.agg #[.int .i64 b, .int .i64 s]] w fun e w' => e = .returned (.bool (mayR (b, s))) ∧ Below w.heap.size w w' := by
  go_enter Try.func61, Try.ntmps61
  go_wp2
  all_goals (go_ret; refine ⟨ret_bool ?_, (Below.refl _ _).alloc (Nat.le_refl _) _⟩; rw [Bool.eq_iff_iff, mayR_iff]; simp only [bne_iff_ne, ne_eq, bne_eq_false_iff_eq, beq_iff_eq, decide_eq_true_eq, tmod4, Bool.false_eq_true, false_iff] at *; omega)

set_option maxRecDepth 1000000 in
set_option maxHeartbeats 1000000 in
theorem rHas (b s t : Int) (w : World) (ht : (Lit.int .i64 t).wf = true) :
    Calls Try.prog 74 #[.agg #[.int .i64 b, .int .i64 s], .int .i64 t] w fun e w' => e = .returned (.bool (hasR (b, s) t)) ∧ Below w.heap.size w w' := by
  have BX := Lib.hid (Box.new w b s)
  have B := Lib.hid ((Below.refl w.heap.size w).alloc (Nat.le_refl _) (.cells #[.int .i64 b, .int .i64 s] 40))
  have HT := Lib.hid (wf_i64 ht)
  clear ht
  go_enter Try.func74, Try.ntmps74
  go_wp2_with fail
  refine (rMayR b s _).mono ?_
  rintro e w1 ⟨rfl, hb⟩
  replace BX := Lib.hid (BX.out.to hb)
  replace B := Lib.hid (B.out.trans (hb.mono B.out.size))
  clear hb
  obtain ⟨c0, c1, _⟩ := BX.out
  cases hm : mayR (b, s)
  · have HE : Hid (hasR (b, s) t = false) := by show _ = _; unfold hasR; rw [hm]; rfl
    clear hm
    go_wp2_with fail
    go_ret
    exact ⟨by rw [HE.out]; rfl, B.out⟩
  · have HM := Lib.hid hm
    have hm1 := mayR_iff.1 hm
    dsimp only at hm1
    clear hm
    by_cases hge : b ≤ t
    · have hgI : t ≥ b := hge
      have hw : IntKind.i64.wrap (t - b) = t - b := by
        have := HT.out
        rw [IntKind.wrap_i64]; omega
      have HG := Lib.hid hge
      clear hge hm1
      go_wp2_with fail
      all_goals (go_ret; refine ⟨ret_bool ?_, B.out⟩; unfold hasR; rw [HM.out, decide_eq_true HG.out])
      all_goals (rw [Bool.eq_iff_iff]; simp only [Bool.true_and, decide_eq_true_eq, Bool.false_eq_true, false_iff, true_iff]; omega)
    · have hgI : ¬ t ≥ b := hge
      have HF : Hid (hasR (b, s) t = false) := by show _ = _; unfold hasR; rw [decide_eq_false hge]; simp
      clear hge hm1
      go_wp2_with fail
      go_ret
      exact ⟨by rw [HF.out]; rfl, B.out⟩

/-- Two regions that may be, of which no fourth byte of the one is in the other, are apart. -/
theorem apart_of_steps {b s c r : Int} (h1 : mayR (b, s) = true) (h2 : mayR (c, r) = true) (h : ∀ k : Nat, 4 * (k : Int) < s → hasR (c, r) (b + 4 * (k : Int)) = false) : apartR (b, s) (c, r) = true := by
  refine apartR_iff.2 ⟨h1, h2, ?_⟩
  have m1 := mayR_iff.1 h1
  have m2 := mayR_iff.1 h2
  dsimp only at m1 m2 ⊢
  have no : ∀ x : Int, b ≤ x → x < b + s → x % 4 = 0 → ¬ (c ≤ x ∧ x < c + r) := fun x ha hb hc hd => by
    have := h ((x - b) / 4).toNat (by omega)
    rw [show b + 4 * (((x - b) / 4).toNat : Int) = x from by omega, hasR_iff.2 ⟨h2, hd⟩] at this
    cases this
  rcases Int.le_total b c with g | g
  · have := no c
    omega
  · have := no b
    omega
theorem not_apart_of {b s c r : Int} {k : Nat} (hk : 4 * (k : Int) < s) (h : hasR (c, r) (b + 4 * (k : Int)) = true) : apartR (b, s) (c, r) = false := by
  rw [Bool.eq_false_iff]
  intro ha
  obtain ⟨_, _, h3⟩ := apartR_iff.1 ha
  obtain ⟨_, h4⟩ := hasR_iff.1 h
  dsimp only at h3 h4
  omega
def StepR (g b s c r : Int) (gg : Nat) (wb : World) (i : Value) (wr : World) : Prop :=
  ∃ k : Nat, i = .int .i64 (b + 4 * (k : Int)) ∧ 4 * (k : Int) ≤ s ∧ Below wb.heap.size wb wr ∧ ∀ j : Nat, j < k → hasR (c, r) (b + 4 * (j : Int)) = false

set_option maxRecDepth 1000000 in
set_option maxHeartbeats 1000000 in
theorem rApart (b s c r : Int) (w : World) :
    Calls Try.prog 62 #[.agg #[.int .i64 b, .int .i64 s], .agg #[.int .i64 c, .int .i64 r]] w fun e w' => e = .returned (.bool (apartR (b, s) (c, r))) ∧ Below w.heap.size w w' := by
  have BX := Lib.hid ((Box.new w b s).to ((Below.refl _ _).alloc (Nat.le_refl _) (.cells #[.int .i64 c, .int .i64 r] 40)))
  have BY := Lib.hid (Box.new (w.alloc (.cells #[.int .i64 b, .int .i64 s] 40)) c r)
  have B := Lib.hid (((Below.refl w.heap.size w).alloc (Nat.le_refl _) (.cells #[.int .i64 b, .int .i64 s] 40)).alloc (by simp) (.cells #[.int .i64 c, .int .i64 r] 40))
  rw [World.size_alloc] at BY
  go_enter Try.func62, Try.ntmps62
  go_wp2_with fail
  generalize (w.alloc (.cells #[.int .i64 b, .int .i64 s] 40)).alloc (.cells #[.int .i64 c, .int .i64 r] 40) = wb at *
  refine (rMayR b s wb).mono ?_
  rintro e w1 ⟨rfl, hb⟩
  replace BX := Lib.hid (BX.out.to hb)
  replace BY := Lib.hid (BY.out.to hb)
  replace B := Lib.hid (B.out.trans (hb.mono B.out.size))
  clear hb
  obtain ⟨x0, x1, _⟩ := BX.out
  obtain ⟨y0, y1, _⟩ := BY.out
  cases h1 : mayR (b, s)
  · have HF : Hid (apartR (b, s) (c, r) = false) := by show _ = _; unfold apartR; rw [h1]; rfl
    clear h1
    go_wp2_with fail
    go_ret
    exact ⟨by rw [HF.out]; rfl, B.out⟩
  have H1 := Lib.hid h1
  clear h1
  go_wp2_with fail
  refine (rMayR c r w1).mono ?_
  clear x0 x1 y0 y1
  rintro e w2 ⟨rfl, hb⟩
  replace BX := Lib.hid (BX.out.to hb)
  replace BY := Lib.hid (BY.out.to hb)
  replace B := Lib.hid (B.out.trans (hb.mono B.out.size))
  clear hb
  obtain ⟨x0, x1, _⟩ := BX.out
  obtain ⟨y0, y1, _⟩ := BY.out
  cases h2 : mayR (c, r)
  · have HF : Hid (apartR (b, s) (c, r) = false) := by show _ = _; unfold apartR; rw [h2]; simp
    clear h2
    go_wp2_with fail
    go_ret
    exact ⟨by rw [HF.out]; rfl, B.out⟩
  have H2 := Lib.hid h2
  have HM := Lib.hid (mayR_iff.1 H1.out)
  clear h2
  go_wp2_with fail
  clear x0 x1 y0 y1
  go_loopw [5] (fun i wr => StepR b b s c r 0 w2 i wr) (fun i _ => (b + s - intOf i).toNat)
  case atStart => exact ⟨0, by simp, by have := HM.out; (try dsimp only at this); omega, Below.refl _ _, fun j hj => absurd hj (Nat.not_lt_zero _)⟩
  case round =>
    obtain ⟨k, rfl, hk, hb, hno⟩ := hrel
    have hm := HM.out
    (try dsimp only at hm)
    obtain ⟨x0, x1, _⟩ := BX.out.to hb
    obtain ⟨y0, y1, _⟩ := BY.out.to hb
    have BB := Lib.hid hb
    have HNO := Lib.hid hno
    clear hb hno
    have hw : IntKind.i64.wrap (b + s) = b + s := by rw [IntKind.wrap_i64]; omega
    have hw4 : IntKind.i64.wrap (b + 4 * (k : Int) + 4) = b + 4 * (k : Int) + 4 := by rw [IntKind.wrap_i64]; omega
    have HWF : Hid ((Lit.int .i64 (b + 4 * (k : Int))).wf = true) := by
      show _ = _
      have e1 : IntKind.i64.min = -9223372036854775808 := rfl
      have e2 : IntKind.i64.max = 9223372036854775807 := rfl
      simp only [Lit.wf, Bool.and_eq_true, decide_eq_true_eq, e1, e2]; omega
    by_cases hlt : 4 * (k : Int) < s
    · have hltI : b + 4 * (k : Int) < b + s := by omega
      have HLT := Lib.hid hlt
      have HM2 := Lib.hid hm
      clear hm hk hlt
      go_wp2_with fail
      refine (rHas c r (b + 4 * (k : Int)) wr HWF.out).mono ?_
      rintro e w3 ⟨rfl, hb⟩
      clear x0 x1 y0 y1
      replace BB := Lib.hid (BB.out.trans (hb.mono BB.out.size))
      clear hb
      cases hq : hasR (c, r) (b + 4 * (k : Int))
      · have HQ := Lib.hid hq
        clear hq
        go_wp2_with fail
        go_roundw
        case rel =>
          refine ⟨k + 1, by congr 1; push_cast; omega, by have := HLT.out; have := HM2.out; push_cast; omega, BB.out, fun j hj => ?_⟩
          rcases Nat.lt_or_ge j k with g | g
          · exact HNO.out j g
          · obtain rfl : j = k := by omega
            exact HQ.out
        case measure => have := HLT.out; simp [intOf]; omega
      · have HF := Lib.hid (not_apart_of HLT.out hq)
        clear hq
        go_wp2_with fail
        go_ret
        exact ⟨by rw [HF.out]; rfl, B.out.trans (BB.out.mono B.out.size)⟩
    · have hltI : ¬ b + 4 * (k : Int) < b + s := by omega
      have HF : Hid (apartR (b, s) (c, r) = true) := apart_of_steps H1.out H2.out fun j hj => HNO.out j (by omega)
      clear hm hk hlt
      go_wp2_with fail
      go_ret
      exact ⟨by rw [HF.out]; rfl, B.out.trans (BB.out.mono B.out.size)⟩
end Go.Proofs.Ytecedmjhhaabgaa
