/- What survives from a valid configuration to itself, in plain words. No program is named here. -/
import Derived.Test.YtecedmjhhaabgaaCpM
namespace Go.Proofs.Ytecedmjhhaabgaa
open Go.RowKit
set_option linter.unusedVariables false
set_option linter.unusedSimpArgs false

theorem sizeB_self (c : Cf) (id : Int) : sizeB c c id = true := decide_eq_true rfl
theorem Val.may2 {c : Cf} (v : Val c) : mayB c c = true := by unfold mayB; rw [fits_of v]; rfl
theorem Val.check_self {c : Cf} (v : Val c) : checkC c c = 0 := by
  unfold checkC
  rw [v.may2, if_pos rfl, if_neg]
  rw [anyN_iff]
  rintro ⟨k, _, h⟩
  rw [sizeB_self] at h
  simp at h
theorem Val.surv_self {c : Cf} (v : Val c) (id : Int) : survB c c id = (hasP c id && (ptI c id).keep) := by
  unfold survB keepB
  rw [v.may2, sizeB_self]
  cases hasP c id <;> simp
theorem Val.ptI {c : Cf} (v : Val c) {i : Nat} (hi : i < c.ps.length) : ptI c (ptAt c.ps i).id = ptAt c.ps i := by
  unfold Proofs.Ytecedmjhhaabgaa.ptI
  rw [v.find hi, Int.toNat_natCast]
theorem Val.hasI {c : Cf} (v : Val c) {i : Nat} (hi : i < c.ps.length) : hasP c (ptAt c.ps i).id = true := by
  unfold hasP
  rw [v.find hi]
  exact decide_eq_true (by omega)
theorem asc_map {α : Type} (f : α → Int) : ∀ {l : List α}, (∀ i j, i < j → (hj : j < l.length) → (hi : i < l.length) → f l[i] < f l[j]) → ascI (l.map f)
  | [], _ => List.Pairwise.nil
  | x :: l, h => by
    refine List.pairwise_cons.2 ⟨fun y hy => ?_, asc_map f (l := l) (fun i j hij hj hi => h (i + 1) (j + 1) (by omega) (by simpa using hj) (by simpa using hi))⟩
    obtain ⟨z, hz, rfl⟩ := List.mem_map.1 hy
    obtain ⟨k, hk, rfl⟩ := List.getElem_of_mem hz
    exact h 0 (k + 1) (by omega) (by simpa using hk) (by simp)
theorem asc_filter {α : Type} (f : α → Int) (p : α → Bool) {l : List α} (h : ascI (l.map f)) : ascI ((l.filter p).map f) :=
  List.Pairwise.sublist (List.Sublist.map f List.filter_sublist) h
theorem Val.ascP {c : Cf} (v : Val c) : ascI (c.ps.map Pt.id) := asc_map Pt.id fun i j hij hj hi => by
  have := v.lt hij hj
  rwa [ptAt_lt hi, ptAt_lt hj] at this
theorem Val.ascK {c : Cf} (v : Val c) : ascI (c.cs.map Ch.id) := asc_map Ch.id fun i j hij hj hi => by
  have := asc_lt (allE_iff.1 v.ce).2 hij hj
  rwa [chAt_lt hi, chAt_lt hj] at this
theorem Val.parts_self {c : Cf} (v : Val c) (lv : Bool) : partsC c c lv = (c.ps.filter (fun p => p.keep != lv)).map Pt.id := by
  refine asc_ext (listTo_asc _ _) (asc_filter _ _ v.ascP) fun x => ?_
  unfold partsC
  rw [listTo_mem, List.mem_map]
  unfold partB
  rw [v.may2, v.surv_self]
  constructor
  · rintro ⟨h1, h2, h3⟩
    simp only [Bool.true_and, Bool.and_eq_true] at h3
    obtain ⟨i, hi, e⟩ := hasP_iff.1 h3.1
    have h4 := h3.2
    rw [h3.1, Bool.true_and, ← e, v.ptI hi] at h4
    exact ⟨c.ps[i], List.mem_filter.2 ⟨List.getElem_mem hi, by rw [← ptAt_lt hi]; exact h4⟩, by rw [← ptAt_lt hi]; exact e⟩
  · rintro ⟨p, hp, rfl⟩
    obtain ⟨hp, hk⟩ := List.mem_filter.1 hp
    obtain ⟨i, hi, rfl⟩ := List.getElem_of_mem hp
    rw [← ptAt_lt hi] at hk ⊢
    have := v.ids i hi
    refine ⟨this.1, by push_cast; omega, ?_⟩
    rw [v.hasI hi, v.ptI hi]
    simpa using hk
theorem Val.findC {c : Cf} (v : Val c) {i : Nat} (hi : i < c.cs.length) : findC c.cs (chAt c.cs i).id = (i : Int) :=
  findC_at hi (fun j hj e => by have := asc_lt (allE_iff.1 v.ce).2 hj hi; omega) rfl
theorem Val.chI {c : Cf} (v : Val c) {i : Nat} (hi : i < c.cs.length) : chI c (chAt c.cs i).id = chAt c.cs i := by
  unfold Proofs.Ytecedmjhhaabgaa.chI
  rw [v.findC hi, Int.toNat_natCast]
theorem Val.hasCI {c : Cf} (v : Val c) {i : Nat} (hi : i < c.cs.length) : hasC c (chAt c.cs i).id = true := by
  unfold hasC
  rw [v.findC hi]
  exact decide_eq_true (by omega)
theorem hasC_iff {c : Cf} {id : Int} (h : hasC c id = true) : ∃ i, i < c.cs.length ∧ (chAt c.cs i).id = id := by
  unfold hasC at h
  have h0 := of_decide_eq_true h
  unfold Proofs.Ytecedmjhhaabgaa.findC at h0
  cases e : c.cs.findIdx? (fun p => p.id == id) with
  | none => rw [e] at h0; simp at h0
  | some k =>
    obtain ⟨hk, h1, _⟩ := List.findIdx?_eq_some_iff_getElem.1 e
    exact ⟨k, hk, by rw [chAt_lt hk]; simpa using h1⟩
/-- Does a channel stay between such as have Keep? -/
def betw (c : Cf) (x : Ch) : Bool := (ptI c x.fr).keep && (ptI c x.dst).keep
theorem Val.chans_self {c : Cf} (v : Val c) : chansC c c = (c.cs.filter (betw c)).map Ch.id := by
  refine asc_ext (listTo_asc _ _) (asc_filter _ _ v.ascK) fun x => ?_
  unfold chansC
  rw [listTo_mem, List.mem_map]
  unfold chanB
  constructor
  · rintro ⟨h1, h2, h3⟩
    simp only [Bool.and_eq_true] at h3
    obtain ⟨h4, _, _, h5, h6⟩ := h3
    obtain ⟨i, hi, e⟩ := hasC_iff h4
    rw [← e, v.chI hi] at h5 h6
    rw [v.surv_self, (v.chs i hi).1, Bool.true_and] at h5
    rw [v.surv_self, (v.chs i hi).2, Bool.true_and] at h6
    exact ⟨c.cs[i], List.mem_filter.2 ⟨List.getElem_mem hi, by rw [← chAt_lt hi]; unfold betw; rw [h5, h6]; rfl⟩, by rw [← chAt_lt hi]; exact e⟩
  · rintro ⟨y, hy, rfl⟩
    obtain ⟨hy, hk⟩ := List.mem_filter.1 hy
    obtain ⟨i, hi, rfl⟩ := List.getElem_of_mem hy
    have hm := (allE_iff.1 v.ce).1 _ (List.getElem_mem hi)
    rw [← chAt_lt hi] at hk hm ⊢
    unfold betw at hk
    rw [Bool.and_eq_true] at hk
    have hm' := mayC_iff.1 hm
    refine ⟨by omega, by push_cast; omega, ?_⟩
    rw [v.hasCI hi, v.chI hi, v.surv_self, v.surv_self, (v.chs i hi).1, (v.chs i hi).2, hk.1, hk.2]
    simp
end Go.Proofs.Ytecedmjhhaabgaa
