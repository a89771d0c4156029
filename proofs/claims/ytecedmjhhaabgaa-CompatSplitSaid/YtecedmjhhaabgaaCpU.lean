/- Each partition of the first one survives, or leaves: in plain words. No program is named here. -/
import Derived.Test.YtecedmjhhaabgaaCpQ
namespace Go.Proofs.Ytecedmjhhaabgaa
open Go.RowKit
set_option linter.unusedVariables false
set_option linter.unusedSimpArgs false

theorem may_of {a b : Cf} (va : Val a) (vb : Val b) : mayB a b = true := by unfold mayB; rw [fits_of va, fits_of vb]; rfl
theorem surv_of {a b : Cf} (va : Val a) (vb : Val b) (id : Int) : survB a b id = (keepB a b id && sizeB a b id) := by unfold survB; rw [may_of va vb]; rfl
theorem ids_listTo {c : Cf} (v : Val c) : listTo (hasP c) 6 = c.ps.map Pt.id := by
  refine asc_ext (listTo_asc _ _) v.ascP fun x => ?_
  rw [listTo_mem, List.mem_map]
  constructor
  · rintro ⟨_, _, h⟩
    obtain ⟨i, hi, e⟩ := hasP_iff.1 h
    exact ⟨c.ps[i], List.getElem_mem hi, by rw [← ptAt_lt hi]; exact e⟩
  · rintro ⟨p, hp, rfl⟩
    obtain ⟨i, hi, rfl⟩ := List.getElem_of_mem hp
    have := v.ids i hi
    rw [ptAt_lt hi] at this
    refine ⟨this.1, by push_cast; omega, ?_⟩
    rw [← ptAt_lt hi]
    exact v.hasI hi
theorem split_len {a b : Cf} (va : Val a) (vb : Val b) : (partsC a b false).length + (partsC a b true).length = a.ps.length := by
  have h : ∀ n, (listTo (partB a b false) n).length + (listTo (partB a b true) n).length = (listTo (hasP a) n).length := fun n => by
    induction n with
    | zero => rfl
    | succ n ih =>
      rw [listTo, listTo, listTo, List.length_append, List.length_append, List.length_append]
      have hm := may_of va vb
      have e : ∀ lv, partB a b lv ((n : Int) + 1) = (hasP a ((n : Int) + 1) && (survB a b ((n : Int) + 1) != lv)) := fun lv => by unfold partB; rw [hm]; rfl
      rw [e, e]
      cases hasP a ((n : Int) + 1) <;> cases survB a b ((n : Int) + 1) <;> simp <;> omega
  have h6 := h 6
  rw [ids_listTo va, List.length_map] at h6
  exact h6
/-- Who survives, of the first one's partitions. -/
theorem split_at {a b : Cf} (va : Val a) (vb : Val b) {i : Nat} (hi : i < a.ps.length) : survB a b (ptAt a.ps i).id = (hasP b (ptAt a.ps i).id && ((ptI b (ptAt a.ps i).id).keep && ((ptAt a.ps i).keep && ((ptI b (ptAt a.ps i).id).size == (ptAt a.ps i).size)))) := by
  rw [surv_of va vb]
  unfold keepB sizeB
  rw [va.hasI hi, va.ptI hi, Bool.true_and, Bool.eq_iff_iff]
  simp only [Bool.and_eq_true, decide_eq_true_eq, beq_iff_eq]
  constructor
  · rintro ⟨⟨h1, h2, h3⟩, h4⟩; exact ⟨h1, h3, h2, h4.symm⟩
  · rintro ⟨h1, h3, h2, h4⟩; exact ⟨⟨h1, h2, h3⟩, h4.symm⟩
theorem chan_at {a b : Cf} {x : Int} (h : x ∈ chansC a b) : hasC a x = true ∧ hasC b x = true ∧ chI a x = chI b x ∧ survB a b (chI a x).fr = true ∧ survB a b (chI a x).dst = true := by
  have h1 := (listTo_mem.1 h).2.2
  unfold chanB at h1
  simp only [Bool.and_eq_true, decide_eq_true_eq] at h1
  exact h1
end Go.Proofs.Ytecedmjhhaabgaa
