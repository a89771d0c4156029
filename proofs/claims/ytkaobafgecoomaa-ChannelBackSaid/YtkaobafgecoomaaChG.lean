/- Small words for layer 10's laws. -/
import Derived.Test.YtkaobafgecoomaaChF
namespace Go.Proofs.Ytkaobafgecoomaa
open Go.RowKit
set_option linter.unusedVariables false
set_option linter.unusedSimpArgs false

theorem putL_len (c : Ch) (l : List (List UInt8)) (m : List UInt8) : (putL c l m).length ≤ l.length + 1 := by
  unfold putL putM
  split
  · split
    · simp only [List.length_append, List.length_drop, List.length_singleton]; omega
    · simp
  · simp
theorem putL_mem {c : Ch} {l : List (List UInt8)} {m : List UInt8} {k : Nat} (hl : ∀ x ∈ l, x.length ≤ k) (hm : m.length ≤ k) : ∀ x ∈ putL c l m, x.length ≤ k := by
  intro x hx
  unfold putL putM at hx
  split at hx
  · rw [List.mem_append] at hx
    rcases hx with hx | hx
    · split at hx
      · exact hl x (List.mem_of_mem_drop hx)
      · exact hl x hx
    · simp only [List.mem_singleton] at hx; rw [hx]; exact hm
  · simp at hx
theorem takeL_len (c : Ch) (l : List (List UInt8)) : (takeL c l).length ≤ l.length := by
  unfold takeL
  split
  · simp
  · simp
theorem takeL_mem {c : Ch} {l : List (List UInt8)} {k : Nat} (hl : ∀ x ∈ l, x.length ≤ k) : ∀ x ∈ takeL c l, x.length ≤ k := by
  intro x hx
  unfold takeL at hx
  split at hx
  · exact hl x (List.mem_of_mem_drop hx)
  · simp at hx
theorem takeM_len {c : Ch} {l : List (List UInt8)} {k : Nat} (hl : ∀ x ∈ l, x.length ≤ k) : (takeM c l).length ≤ k := by
  unfold takeM
  split
  · rcases l with _ | ⟨x, l⟩
    · simp
    · exact hl x (by simp)
  · simp
theorem fulls_shown {l : List (List UInt8)} {n k : Nat} (hn : l.length = n) (hl : ∀ x ∈ l, x.length ≤ k) : ∀ j, j < n → (rowAt (l.map fullR) j).2 ≤ k := by
  intro j hj
  have hjl : j < l.length := by omega
  have e : rowAt (l.map fullR) j = fullR l[j] := by simp [rowAt, List.getD, List.getElem?_eq_getElem hjl]
  rw [e]
  exact hl _ (List.getElem_mem hjl)
theorem eqC_self (c : Ch) : eqC c c = true := by simp [eqC]
/-- The same string twice. -/
theorem Rd.str {w : World} {B n c : Nat} {A : Option Addr} {bs : List UInt8} (h : Rd w B A n bs) : (convert 27 9 (.slice A n c)).run Try.prog w = .ok (.string (strOfNums (numsOf bs))) w :=
  h.conv c 27 5 9 Try.underlying27 Try.underlying5 Try.underlying9
end Go.Proofs.Ytkaobafgecoomaa
