/- The laws' own helpers of layer 11: Great, spoil. -/
import Derived.Test.YtljgliagciblbaaCfW
import Derived.Test.YtljgliagciblbaaCfU
import Derived.Test.YtljgliagciblbaaBx
namespace Go.Proofs.Ytljgliagciblbaa
open Go.RowKit
set_option linter.unusedVariables false
set_option linter.unusedSimpArgs false

def sumI (l : List Pt) : Nat := (l.map (fun p => p.img.length)).sum
theorem sumI_snoc {l : List Pt} {k : Nat} (h : k < l.length) : sumI (l.take (k + 1)) = sumI (l.take k) + (ptAt l k).img.length := by
  unfold sumI
  rw [List.take_succ_eq_append_getElem h, List.map_append, List.sum_append, ptAt_lt h]
  simp
theorem sumI_mem : ∀ {l : List Pt} {p : Pt}, p ∈ l → p.img.length ≤ sumI l
  | q :: l, p, h => by
    unfold sumI
    rw [List.map_cons, List.sum_cons]
    rcases List.mem_cons.1 h with rfl | h
    · omega
    · have := sumI_mem h
      unfold sumI at this
      omega
def greatC (c : Cf) : Bool := decide (40 < c.ws.length) || decide (20 < c.ps.length) || decide (40 < c.cs.length) || decide (8000 < sumI c.ps)
theorem greatC_no {c : Cf} (h : greatC c = false) : c.ws.length ≤ 40 ∧ c.ps.length ≤ 20 ∧ c.cs.length ≤ 40 ∧ sumI c.ps ≤ 8000 := by
  unfold greatC at h
  simp only [Bool.or_eq_false_iff, decide_eq_false_iff_not] at h
  omega
theorem greatC_yes {c : Cf} (h : 40 < c.ws.length ∨ 20 < c.ps.length ∨ 40 < c.cs.length) : greatC c = true := by
  unfold greatC
  rcases h with h | h | h <;> simp [h]
set_option maxRecDepth 1000000 in
set_option maxHeartbeats 1000000 in
theorem lGreat (v : CV) (c : Cf) (w : World) (h : RdCf w w.heap.size v c) :
    Calls Try.prog 9 #[.agg #[.slice v.aw v.nw v.kw, .slice v.ap v.np v.kp, .slice v.ac v.nc v.kc]] w fun x w' => x = .returned (.bool (greatC c)) ∧ Below w.heap.size w w' := by
  have hb := (Below.refl w.heap.size w).alloc (Nat.le_refl _) (.cells #[.slice v.aw v.nw v.kw, .slice v.ap v.np v.kp, .slice v.ac v.nc v.kc] 26)
  have B := Lib.hid hb
  have X := Lib.hid (Cfx.new w v 26)
  have R := Lib.hid (h.to hb)
  have LW : Hid (c.ws.length = v.nw) := h.ww.1
  have LP : Hid (c.ps.length = v.np) := h.pp.1
  have LC : Hid (c.cs.length = v.nc) := h.cc.1
  clear h hb
  obtain ⟨x0, x1, x2, _⟩ := X.out
  go_enter Try.func9, Try.ntmps9
  by_cases h1 : 40 < v.nw
  · have hI : (40 : Int) < (v.nw : Int) := by omega
    have HF : Hid (true = greatC c) := (greatC_yes (.inl (by rw [LW.out]; exact h1))).symm
    go_wp2_with fail
    go_ret
    exact ⟨ret_bool HF.out, B.out⟩
  have hI : ¬ (40 : Int) < (v.nw : Int) := by omega
  replace h1 := Lib.hid h1
  by_cases h2 : 20 < v.np
  · have hJ : (20 : Int) < (v.np : Int) := by omega
    have HF : Hid (true = greatC c) := (greatC_yes (.inr (.inl (by rw [LP.out]; exact h2)))).symm
    go_wp2_with fail
    go_ret
    exact ⟨ret_bool HF.out, B.out⟩
  have hJ : ¬ (20 : Int) < (v.np : Int) := by omega
  replace h2 := Lib.hid h2
  by_cases h3 : 40 < v.nc
  · have hK : (40 : Int) < (v.nc : Int) := by omega
    have HF : Hid (true = greatC c) := (greatC_yes (.inr (.inr (by rw [LC.out]; exact h3)))).symm
    go_wp2_with fail
    go_ret
    exact ⟨ret_bool HF.out, B.out⟩
  have hK : ¬ (40 : Int) < (v.nc : Int) := by omega
  replace h3 := Lib.hid h3
  go_upto_region 3 with (fail)
  clear hI hJ hK
  generalize w.alloc (.cells #[.slice v.aw v.nw v.kw, .slice v.ap v.np v.kp, .slice v.ac v.nc v.kc] 26) = w1 at *
  go_wp2_with fail
  go_loopw [3, 4] (fun s3 s4 wr => ∃ k : Nat, k ≤ v.np ∧ s4 = .int .i64 (k : Int) ∧ s3 = .int .i64 (sumI (c.ps.take k) : Int) ∧ sumI (c.ps.take k) ≤ k * 140737488351232 ∧ wr = w1) (fun _ s4 _ => v.np - (intOf s4).toNat)
  case atStart => exact ⟨0, Nat.zero_le _, rfl, rfl, by simp [sumI], rfl⟩
  case round =>
    obtain ⟨k, hk, rfl, rfl, hs, rfl⟩ := hrel
    by_cases hlt : k < v.np
    · have hltI : (k : Int) < (v.np : Int) := by omega
      have HLT : Hid (k < v.np) := hlt
      have hwk : IntKind.i64.wrap ((k : Int) + 1) = (k : Int) + 1 := by have := h2.out; rw [IntKind.wrap_i64]; omega
      obtain ⟨bb, o, A', m, c', hA, y0, y1, y2, y3, y4, hr, _, _, hm⟩ := R.out.pp.at_ hlt
      have hs1 := sumI_snoc (l := c.ps) (k := k) (by rw [LP.out]; exact hlt)
      rw [hr.1] at hs1
      have HS : Hid (sumI (c.ps.take (k + 1)) ≤ (k + 1) * 140737488351232) := by (show _ ≤ _); rw [hs1, Nat.add_mul]; omega
      have hws : IntKind.i64.wrap ((sumI (c.ps.take k) : Int) + (m : Int)) = (sumI (c.ps.take (k + 1)) : Int) := by
        have := h2.out
        have hk20 : k * 140737488351232 ≤ 20 * 140737488351232 := Nat.mul_le_mul_right _ (by omega)
        rw [hs1, IntKind.wrap_i64]
        omega
      rw [hA] at x1 ⊢
      clear hr hk y0 y1 y2 y3 hs hs1 hm
      generalize sumI (c.ps.take k) = sk at *
      generalize hs2 : sumI (c.ps.take (k + 1)) = sk2 at *
      replace hs2 := Lib.hid hs2
      go_wp2_with fail
      go_roundw
      case rel => exact ⟨k + 1, HLT.out, by go_num, by rw [hs2.out], by rw [hs2.out]; exact HS.out, by first | rfl | trivial⟩
      case measure => simp [intOf]; omega
    · obtain rfl : k = v.np := by omega
      have HF : Hid (decide (8000 < sumI c.ps) = greatC c) := by
        (show _ = _)
        unfold greatC
        rw [LW.out, LP.out, LC.out, decide_eq_false h1.out, decide_eq_false h2.out, decide_eq_false h3.out]
        rfl
      have e : c.ps.take v.np = c.ps := by rw [← LP.out, List.take_length]
      rw [e]
      generalize hsk : sumI c.ps = sk at *
      replace hsk := Lib.hid hsk
      clear hk hs
      have hd : decide ((8000 : Int) < (sk : Int)) = decide (8000 < sk) := by
        rw [Bool.eq_iff_iff, decide_eq_true_eq, decide_eq_true_eq]; omega
      have HD := Lib.hid hd
      clear hd hlt
      go_wp2_with fail
      go_ret
      exact ⟨by rw [← HF.out, ← HD.out]; rfl, B.out⟩
end Go.Proofs.Ytljgliagciblbaa
