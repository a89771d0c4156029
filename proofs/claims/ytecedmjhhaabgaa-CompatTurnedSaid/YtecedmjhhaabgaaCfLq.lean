/- Several texts in one (a claim has 60 files at most): CfLa, CfLg. -/
import Derived.Test.YtecedmjhhaabgaaCfWq
import Derived.Deep.Cut
import Derived.Test.YtecedmjhhaabgaaCfR
namespace Go.Proofs.Ytecedmjhhaabgaa

/- The laws' own helpers of layer 11: Great, spoil. -/
section
open Go.RowKit
set_option linter.unusedVariables false
set_option linter.unusedSimpArgs false

def sumI (l : List Pt) : Nat := (l.map (fun p => p.img.length)).sum
theorem sumI_snoc {l : List Pt} {k : Nat} (h : k < l.length) : sumI (l.take (k + 1)) = sumI (l.take k) + (ptAt l k).img.length := by
  unfold sumI
  rw [List.take_succ_eq_append_getElem h, List.map_append, List.sum_append, ptAt_lt h]
  simp
theorem sumI_mem : ∀ {l : List Pt} {p : Pt}, p ∈ l → p.img.length ≤ sumI l
  | q :: l, p, h => by
    unfold sumI
    rw [List.map_cons, List.sum_cons]
    rcases List.mem_cons.1 h with rfl | h
    · omega
    · have := sumI_mem h
      unfold sumI at this
      omega
def greatC (c : Cf) : Bool := decide (40 < c.ws.length) || decide (20 < c.ps.length) || decide (40 < c.cs.length) || decide (8000 < sumI c.ps)
theorem greatC_no {c : Cf} (h : greatC c = false) : c.ws.length ≤ 40 ∧ c.ps.length ≤ 20 ∧ c.cs.length ≤ 40 ∧ sumI c.ps ≤ 8000 := by
  unfold greatC at h
  simp only [Bool.or_eq_false_iff, decide_eq_false_iff_not] at h
  omega
theorem greatC_yes {c : Cf} (h : 40 < c.ws.length ∨ 20 < c.ps.length ∨ 40 < c.cs.length) : greatC c = true := by
  unfold greatC
  rcases h with h | h | h <;> simp [h]
set_option maxRecDepth 1000000 in
set_option maxHeartbeats 1000000 in
theorem lGreat (v : CV) (c : Cf) (w : World) (h : RdCf w w.heap.size v c) :
    Calls Try.prog 8 #[.agg #[.slice v.aw v.nw v.kw, .slice v.ap v.np v.kp, .slice v.ac v.nc v.kc]] w fun x w' => x = .returned (.bool (greatC c)) ∧ Below w.heap.size w w' := by
  have hb := (Below.refl w.heap.size w).alloc (Nat.le_refl _) (.cells #[.slice v.aw v.nw v.kw, .slice v.ap v.np v.kp, .slice v.ac v.nc v.kc] 26)
  have B := Lib.hid hb
  have X := Lib.hid (Cfx.new w v 26)
  have R := Lib.hid (h.to hb)
  have LW : Hid (c.ws.length = v.nw) := h.ww.1
  have LP : Hid (c.ps.length = v.np) := h.pp.1
  have LC : Hid (c.cs.length = v.nc) := h.cc.1
  clear h hb
  obtain ⟨x0, x1, x2, _⟩ := X.out
  go_enter Try.func8, Try.ntmps8
  by_cases h1 : 40 < v.nw
  · have hI : (40 : Int) < (v.nw : Int) := by omega
    have HF : Hid (true = greatC c) := (greatC_yes (.inl (by rw [LW.out]; exact h1))).symm
    go_wp2_with fail
    go_ret
    exact ⟨ret_bool HF.out, B.out⟩
  have hI : ¬ (40 : Int) < (v.nw : Int) := by omega
  replace h1 := Lib.hid h1
  by_cases h2 : 20 < v.np
  · have hJ : (20 : Int) < (v.np : Int) := by omega
    have HF : Hid (true = greatC c) := (greatC_yes (.inr (.inl (by rw [LP.out]; exact h2)))).symm
    go_wp2_with fail
    go_ret
    exact ⟨ret_bool HF.out, B.out⟩
  have hJ : ¬ (20 : Int) < (v.np : Int) := by omega
  replace h2 := Lib.hid h2
  by_cases h3 : 40 < v.nc
  · have hK : (40 : Int) < (v.nc : Int) := by omega
    have HF : Hid (true = greatC c) := (greatC_yes (.inr (.inr (by rw [LC.out]; exact h3)))).symm
    go_wp2_with fail
    go_ret
    exact ⟨ret_bool HF.out, B.out⟩
  have hK : ¬ (40 : Int) < (v.nc : Int) := by omega
  replace h3 := Lib.hid h3
  go_upto_region 3 with (fail)
  clear hI hJ hK
  generalize w.alloc (.cells #[.slice v.aw v.nw v.kw, .slice v.ap v.np v.kp, .slice v.ac v.nc v.kc] 26) = w1 at *
  go_wp2_with fail
  go_loopw [3, 4] (fun s3 s4 wr => ∃ k : Nat, k ≤ v.np ∧ s4 = .int .i64 (k : Int) ∧ s3 = .int .i64 (sumI (c.ps.take k) : Int) ∧ sumI (c.ps.take k) ≤ k * 140737488351232 ∧ wr = w1) (fun _ s4 _ => v.np - (intOf s4).toNat)
  case atStart => exact ⟨0, Nat.zero_le _, rfl, rfl, by simp [sumI], rfl⟩
  case round =>
    obtain ⟨k, hk, rfl, rfl, hs, rfl⟩ := hrel
    by_cases hlt : k < v.np
    · have hltI : (k : Int) < (v.np : Int) := by omega
      have HLT : Hid (k < v.np) := hlt
      have hwk : IntKind.i64.wrap ((k : Int) + 1) = (k : Int) + 1 := by have := h2.out; rw [IntKind.wrap_i64]; omega
      obtain ⟨bb, o, A', m, c', hA, y0, y1, y2, y3, y4, hr, _, _, hm⟩ := R.out.pp.at_ hlt
      have hs1 := sumI_snoc (l := c.ps) (k := k) (by rw [LP.out]; exact hlt)
      rw [hr.1] at hs1
      have HS : Hid (sumI (c.ps.take (k + 1)) ≤ (k + 1) * 140737488351232) := by (show _ ≤ _); rw [hs1, Nat.add_mul]; omega
      have hws : IntKind.i64.wrap ((sumI (c.ps.take k) : Int) + (m : Int)) = (sumI (c.ps.take (k + 1)) : Int) := by
        have := h2.out
        have hk20 : k * 140737488351232 ≤ 20 * 140737488351232 := Nat.mul_le_mul_right _ (by omega)
        rw [hs1, IntKind.wrap_i64]
        omega
      rw [hA] at x1 ⊢
      clear hr hk y0 y1 y2 y3 hs hs1 hm
      generalize sumI (c.ps.take k) = sk at *
      generalize hs2 : sumI (c.ps.take (k + 1)) = sk2 at *
      replace hs2 := Lib.hid hs2
      go_wp2_with fail
      go_roundw
      case rel => exact ⟨k + 1, HLT.out, by go_num, by rw [hs2.out], by rw [hs2.out]; exact HS.out, by first | rfl | trivial⟩
      case measure => simp [intOf]; omega
    · obtain rfl : k = v.np := by omega
      have HF : Hid (decide (8000 < sumI c.ps) = greatC c) := by
        (show _ = _)
        unfold greatC
        rw [LW.out, LP.out, LC.out, decide_eq_false h1.out, decide_eq_false h2.out, decide_eq_false h3.out]
        rfl
      have e : c.ps.take v.np = c.ps := by rw [← LP.out, List.take_length]
      rw [e]
      generalize hsk : sumI c.ps = sk at *
      replace hsk := Lib.hid hsk
      clear hk hs
      have hd : decide ((8000 : Int) < (sk : Int)) = decide (8000 < sk) := by
        rw [Bool.eq_iff_iff, decide_eq_true_eq, decide_eq_true_eq]; omega
      have HD := Lib.hid hd
      clear hd hlt
      go_wp2_with fail
      go_ret
      exact ⟨by rw [← HF.out, ← HD.out]; rfl, B.out⟩
end

/- Small words that the laws of the layers from 11 on share. -/
section
open Go.RowKit
set_option linter.unusedVariables false
set_option linter.unusedSimpArgs false

theorem wrap64_mid {x : Int} (h0 : 0 ≤ x) (h1 : x < 100000) : wrap64 x = x := by
  unfold wrap64; omega
theorem idx_ofC (a : Int) {n : Nat} (hn : 0 < n) (h : n ≤ 100000) : ∃ x : Nat, x < n ∧ wrap64 ((IntKind.u64.wrap a).tmod (n : Int)) = (x : Int) := by
  have hu : 0 ≤ IntKind.u64.wrap a := by rw [IntKind.wrap_u64]; omega
  rw [Int.tmod_eq_emod_of_nonneg hu]
  have h1 := Int.emod_nonneg (IntKind.u64.wrap a) (show (n : Int) ≠ 0 by omega)
  have h2 := Int.emod_lt_of_pos (IntKind.u64.wrap a) (show (0 : Int) < n by omega)
  obtain ⟨x, hx⟩ := Int.eq_ofNat_of_zero_le h1
  rw [hx] at h2 ⊢
  exact ⟨x, by omega, wrap64_mid (by omega) (by omega)⟩
/-- A configuration in a box of the call's own. -/
theorem one_box {v : CV} {c : Cf} (w : World) (h : RdCf w w.heap.size v c) : ∃ w1, w.alloc (.cells #[.slice v.aw v.nw v.kw, .slice v.ap v.np v.kp, .slice v.ac v.nc v.kc] 26) = w1 ∧
    Below w.heap.size w w1 ∧ Bx w1 w.heap.size 26 (cfL v) ∧ RdCf w1 w1.heap.size v c := by
  have hb := (Below.refl w.heap.size w).alloc (Nat.le_refl _) (.cells #[.slice v.aw v.nw v.kw, .slice v.ap v.np v.kp, .slice v.ac v.nc v.kc] 26)
  exact ⟨_, rfl, hb, Bx.new w _ (cfL v), h.to hb⟩
theorem two_boxC {v v' : CV} {c c' : Cf} (w : World) (h : RdCf w w.heap.size v c) (h' : RdCf w w.heap.size v' c') : ∃ w2, (w.alloc (.cells #[.slice v.aw v.nw v.kw, .slice v.ap v.np v.kp, .slice v.ac v.nc v.kc] 26)).alloc (.cells #[.slice v'.aw v'.nw v'.kw, .slice v'.ap v'.np v'.kp, .slice v'.ac v'.nc v'.kc] 26) = w2 ∧
    Below w.heap.size w w2 ∧ Bx w2 w.heap.size 26 (cfL v) ∧ Bx w2 (w.heap.size + 1) 26 (cfL v') ∧ RdCf w2 w2.heap.size v c ∧ RdCf w2 w2.heap.size v' c' := by
  have hb := ((Below.refl w.heap.size w).alloc (Nat.le_refl _) (.cells #[.slice v.aw v.nw v.kw, .slice v.ap v.np v.kp, .slice v.ac v.nc v.kc] 26)).alloc (by simp) (.cells #[.slice v'.aw v'.nw v'.kw, .slice v'.ap v'.np v'.kp, .slice v'.ac v'.nc v'.kc] 26)
  refine ⟨_, rfl, hb, ?_, ?_, h.to hb, h'.to hb⟩
  · exact (Bx.new w 26 (cfL v)).to ((Below.refl _ _).alloc (Nat.le_refl _) _)
  · have h := Bx.new (w.alloc (.cells #[.slice v.aw v.nw v.kw, .slice v.ap v.np v.kp, .slice v.ac v.nc v.kc] 26)) 26 (cfL v')
    rw [show (w.alloc (.cells #[.slice v.aw v.nw v.kw, .slice v.ap v.np v.kp, .slice v.ac v.nc v.kc] 26)).heap.size = w.heap.size + 1 from by simp] at h
    exact h
/-- The bounds that a configuration has that is not great. -/
theorem bounds_of {w : World} {B : Nat} {v : CV} {c : Cf} (h : RdCf w B v c) (hg : greatC c = false) : v.nw ≤ 1000 ∧ v.np ≤ 1000 ∧ v.nc ≤ 1000 ∧ ∀ p ∈ c.ps, p.img.length ≤ 100000 := by
  obtain ⟨h1, h2, h3, h4⟩ := greatC_no hg
  have e1 := h.ww.1
  have e2 := h.pp.1
  have e3 := h.cc.1
  exact ⟨by omega, by omega, by omega, fun p hp => by have := sumI_mem hp; omega⟩
theorem bounds_can {w : World} {B : Nat} {v : CV} {c : Cf} (h : RdCf w B v c) (hc : canC c = true) : v.nw ≤ 1000 ∧ v.np ≤ 1000 ∧ v.nc ≤ 1000 := by
  obtain ⟨_, h1, h2, h3⟩ := canC_iff.1 hc
  have e1 := h.ww.1
  have e2 := h.pp.1
  have e3 := h.cc.1
  exact ⟨by omega, by omega, by omega⟩
/-- Bytes as a string, under a name. -/
theorem Rd.strC {w : World} {B n c : Nat} {A : Option Addr} {bs : List UInt8} {s : ByteArray} (h : Rd w B A n bs) (hs : strOfNums (numsOf bs) = s) : (convert 41 9 (.slice A n c)).run Try.prog w = .ok (.string s) w := by
  rw [← hs]
  exact h.conv c 41 5 9 Try.underlying41 Try.underlying5 Try.underlying9
theorem str_is (bs : List UInt8) : ∃ s : ByteArray, strOfNums (numsOf bs) = s ∧ s.toList = bs := ⟨_, rfl, by rw [Lib.strOfNums_toList, bytesOf_numsOf]⟩
theorem str_eq {s t : ByteArray} {a b : List UInt8} (hs : s.toList = a) (ht : t.toList = b) : (s.toList == t.toList) = decide (a = b) := by
  rw [hs, ht]
  by_cases h : a = b <;> simp [h]
end
end Go.Proofs.Ytecedmjhhaabgaa
