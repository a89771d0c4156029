/- Small words that the laws of layer 11 share. -/
import Derived.Test.YtljgliagciblbaaCfLe
import Derived.Test.YtljgliagciblbaaCfLa
namespace Go.Proofs.Ytljgliagciblbaa
open Go.RowKit
set_option linter.unusedVariables false
set_option linter.unusedSimpArgs false

theorem wrap64_mid {x : Int} (h0 : 0 ≤ x) (h1 : x < 100000) : wrap64 x = x := by
  unfold wrap64; omega
theorem idx_ofC (a : Int) {n : Nat} (hn : 0 < n) (h : n ≤ 100000) : ∃ x : Nat, x < n ∧ wrap64 ((IntKind.u64.wrap a).tmod (n : Int)) = (x : Int) := by
  have hu : 0 ≤ IntKind.u64.wrap a := by rw [IntKind.wrap_u64]; omega
  rw [Int.tmod_eq_emod_of_nonneg hu]
  have h1 := Int.emod_nonneg (IntKind.u64.wrap a) (show (n : Int) ≠ 0 by omega)
  have h2 := Int.emod_lt_of_pos (IntKind.u64.wrap a) (show (0 : Int) < n by omega)
  obtain ⟨x, hx⟩ := Int.eq_ofNat_of_zero_le h1
  rw [hx] at h2 ⊢
  exact ⟨x, by omega, wrap64_mid (by omega) (by omega)⟩
theorem formC_ge (c : Cf) : 24 ≤ (formC c).length := by
  rw [formC_eq]
  simp only [List.length_append, countB_len]
  omega
/-- A configuration in a box of the call's own. -/
theorem one_box {v : CV} {c : Cf} (w : World) (h : RdCf w w.heap.size v c) : ∃ w1, w.alloc (.cells #[.slice v.aw v.nw v.kw, .slice v.ap v.np v.kp, .slice v.ac v.nc v.kc] 26) = w1 ∧
    Below w.heap.size w w1 ∧ Bx w1 w.heap.size 26 (cfL v) ∧ RdCf w1 w1.heap.size v c := by
  have hb := (Below.refl w.heap.size w).alloc (Nat.le_refl _) (.cells #[.slice v.aw v.nw v.kw, .slice v.ap v.np v.kp, .slice v.ac v.nc v.kc] 26)
  exact ⟨_, rfl, hb, Bx.new w _ (cfL v), h.to hb⟩
theorem two_boxC {v v' : CV} {c c' : Cf} (w : World) (h : RdCf w w.heap.size v c) (h' : RdCf w w.heap.size v' c') : ∃ w2, (w.alloc (.cells #[.slice v.aw v.nw v.kw, .slice v.ap v.np v.kp, .slice v.ac v.nc v.kc] 26)).alloc (.cells #[.slice v'.aw v'.nw v'.kw, .slice v'.ap v'.np v'.kp, .slice v'.ac v'.nc v'.kc] 26) = w2 ∧
    Below w.heap.size w w2 ∧ Bx w2 w.heap.size 26 (cfL v) ∧ Bx w2 (w.heap.size + 1) 26 (cfL v') ∧ RdCf w2 w2.heap.size v c ∧ RdCf w2 w2.heap.size v' c' := by
  have hb := ((Below.refl w.heap.size w).alloc (Nat.le_refl _) (.cells #[.slice v.aw v.nw v.kw, .slice v.ap v.np v.kp, .slice v.ac v.nc v.kc] 26)).alloc (by simp) (.cells #[.slice v'.aw v'.nw v'.kw, .slice v'.ap v'.np v'.kp, .slice v'.ac v'.nc v'.kc] 26)
  refine ⟨_, rfl, hb, ?_, ?_, h.to hb, h'.to hb⟩
  · exact (Bx.new w 26 (cfL v)).to ((Below.refl _ _).alloc (Nat.le_refl _) _)
  · have h := Bx.new (w.alloc (.cells #[.slice v.aw v.nw v.kw, .slice v.ap v.np v.kp, .slice v.ac v.nc v.kc] 26)) 26 (cfL v')
    rw [show (w.alloc (.cells #[.slice v.aw v.nw v.kw, .slice v.ap v.np v.kp, .slice v.ac v.nc v.kc] 26)).heap.size = w.heap.size + 1 from by simp] at h
    exact h
/-- The bounds that a configuration has that is not great. -/
theorem bounds_of {w : World} {B : Nat} {v : CV} {c : Cf} (h : RdCf w B v c) (hg : greatC c = false) : v.nw ≤ 1000 ∧ v.np ≤ 1000 ∧ v.nc ≤ 1000 ∧ ∀ p ∈ c.ps, p.img.length ≤ 100000 := by
  obtain ⟨h1, h2, h3, h4⟩ := greatC_no hg
  have e1 := h.ww.1
  have e2 := h.pp.1
  have e3 := h.cc.1
  exact ⟨by omega, by omega, by omega, fun p hp => by have := sumI_mem hp; omega⟩
theorem bounds_can {w : World} {B : Nat} {v : CV} {c : Cf} (h : RdCf w B v c) (hc : canC c = true) : v.nw ≤ 1000 ∧ v.np ≤ 1000 ∧ v.nc ≤ 1000 := by
  obtain ⟨_, h1, h2, h3⟩ := canC_iff.1 hc
  have e1 := h.ww.1
  have e2 := h.pp.1
  have e3 := h.cc.1
  exact ⟨by omega, by omega, by omega⟩
/-- Bytes as a string, under a name. -/
theorem Rd.strC {w : World} {B n c : Nat} {A : Option Addr} {bs : List UInt8} {s : ByteArray} (h : Rd w B A n bs) (hs : strOfNums (numsOf bs) = s) : (convert 29 9 (.slice A n c)).run Try.prog w = .ok (.string s) w := by
  rw [← hs]
  exact h.conv c 29 5 9 Try.underlying29 Try.underlying5 Try.underlying9
theorem str_is (bs : List UInt8) : ∃ s : ByteArray, strOfNums (numsOf bs) = s ∧ s.toList = bs := ⟨_, rfl, by rw [Lib.strOfNums_toList, bytesOf_numsOf]⟩
theorem str_eq {s t : ByteArray} {a b : List UInt8} (hs : s.toList = a) (ht : t.toList = b) : (s.toList == t.toList) = decide (a = b) := by
  rw [hs, ht]
  by_cases h : a = b <;> simp [h]
theorem same_forms {c d : Cf} (hc : canC c = true) (hi : inC c) (hd : canC d = true) (hj : inC d) : decide (formC c = formC d) = sameCf c d := by
  unfold sameCf
  rw [Bool.eq_iff_iff, decide_eq_true_eq, decide_eq_true_eq]
  exact formC_inj hc hi hd hj
end Go.Proofs.Ytljgliagciblbaa
