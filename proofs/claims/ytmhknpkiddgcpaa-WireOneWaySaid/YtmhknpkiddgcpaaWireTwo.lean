/- A field whose taking failed is nothing; sums over taken fields; a row of taken fields in memory of the call's own. -/
import Derived.Test.YtmhknpkiddgcpaaWireFormQ
namespace Go.Proofs.Ytmhknpkiddgcpaa
open Go.RowKit
set_option linter.unusedVariables false
set_option linter.unusedSimpArgs false

theorem next_broke {s : RS} {n : Nat} (h : (s.next n).e ≠ 0) : s.e ≠ 0 ∨ s.rest.length < n := by
  by_cases he : s.e = 0
  · right
    rcases Nat.lt_or_ge s.rest.length n with hl | hl
    · exact hl
    · rw [next_yes he hl] at h; exact absurd rfl h
  · exact .inl he
/-- A field whose taking broke the reader is nothing. -/
theorem back_broke {s : RS} {what : Int} (h0 : 0 ≤ what) (h5 : what ≤ 5) (h : (backS s what).e ≠ 0) : backF s what = ⟨what, 0, 0, false, [], zeros32⟩ := by
  have hk : what = 0 ∨ what = 1 ∨ what = 2 ∨ what = 3 ∨ what = 4 ∨ what = 5 := by omega
  rcases hk with rfl | rfl | rfl | rfl | rfl | rfl
  · rw [backS0] at h
    rw [backF0, show byteV s = 0 from UInt8.toNat_inj.1 (byteV_no (next_broke h))]
  · rw [backS1] at h
    rw [backF1, intV_no (next_broke h)]
  · rw [backS2] at h
    have hn : decide (s.numb 1 = 1) = false := by
      unfold flagS at h
      by_cases h1 : 1 < s.numb 1
      · exact decide_eq_false (by omega)
      · rw [if_neg h1] at h
        exact (flagS_no (next_broke h)).2
    rw [backF2, hn]
  · rw [backS3] at h
    have hb : bytesV s = [] := by
      by_cases he : s.e = 0
      · by_cases hh : ¬ (4 ≤ s.rest.length ∧ loadOf s.rest 0 4 ≤ 65536) ∨ s.rest.length < 4 + loadOf s.rest 0 4
        · exact (bytes_no he hh).1
        · have h1 : 4 ≤ s.rest.length ∧ loadOf s.rest 0 4 ≤ 65536 := Classical.not_not.1 (fun q => hh (.inl q))
          rw [(bytes_yes he h1.1 h1.2 (by rcases Nat.lt_or_ge s.rest.length (4 + loadOf s.rest 0 4) with q | q; exact absurd (.inr q) hh; exact q)).2] at h
          exact absurd rfl h
      · exact (bytes_bad he).1
    rw [backF3, hb]
  · rw [backS4] at h
    have hb : bytesV s = [] := by
      by_cases he : s.e = 0
      · by_cases hh : ¬ (4 ≤ s.rest.length ∧ loadOf s.rest 0 4 ≤ 65536) ∨ s.rest.length < 4 + loadOf s.rest 0 4
        · exact (bytes_no he hh).1
        · have h1 : 4 ≤ s.rest.length ∧ loadOf s.rest 0 4 ≤ 65536 := Classical.not_not.1 (fun q => hh (.inl q))
          rw [(bytes_yes he h1.1 h1.2 (by rcases Nat.lt_or_ge s.rest.length (4 + loadOf s.rest 0 4) with q | q; exact absurd (.inr q) hh; exact q)).2] at h
          exact absurd rfl h
      · exact (bytes_bad he).1
    rw [backF4, hb]
  · rw [backS5] at h
    rw [backF5, tagV_no (next_broke h)]
/-- Its bytes are no more than its form's. -/
theorem back_blen (s : RS) {what : Int} (h0 : 0 ≤ what) (h5 : what ≤ 5) : (backF s what).b.length ≤ (putF (backF s what)).length := by
  have hk : what = 0 ∨ what = 1 ∨ what = 2 ∨ what = 3 ∨ what = 4 ∨ what = 5 := by omega
  rcases hk with rfl | rfl | rfl | rfl | rfl | rfl
  · rw [backF0]; exact Nat.zero_le _
  · rw [backF1]; exact Nat.zero_le _
  · rw [backF2]; exact Nat.zero_le _
  · rw [backF3]
    show (bytesV s).length ≤ (enc (bytesV s).length 4 ++ bytesV s).length
    rw [List.length_append]; omega
  · rw [backF4]
    show (bytesV s).length ≤ (enc (bytesV s).length 4 ++ bytesV s).length
    rw [List.length_append]; omega
  · rw [backF5]; exact Nat.zero_le _

/-- A field with the place of its bytes. -/
structure QF where
  f : Fld
  A : Option Addr
  m : Nat
  c : Nat
def QF.cells (q : QF) : List Value := fldL q.f q.A q.m q.c
def cellsQ : List QF → List Value
  | [] => []
  | q :: l => q.cells ++ cellsQ l
theorem cellsQ_app (a b : List QF) : cellsQ (a ++ b) = cellsQ a ++ cellsQ b := by
  induction a with
  | nil => rfl
  | cons q a ih => simp only [List.cons_append, cellsQ, ih, List.append_assoc]
theorem cellsQ_len {l : List QF} (h : ∀ q ∈ l, q.f.t.length = 32) : (cellsQ l).length = l.length * 37 := by
  induction l with
  | nil => rfl
  | cons q l ih =>
    simp only [cellsQ, List.length_append, List.length_cons]
    rw [ih (fun q hq => h q (List.mem_cons_of_mem _ hq)), show q.cells.length = 37 from fldL_len (h q List.mem_cons_self) q.A q.m q.c]
    omega
theorem cellsQ_at {l : List QF} (h : ∀ q ∈ l, q.f.t.length = 32) {j : Nat} (hj : j < l.length) {i : Nat} (hi : i < 37) : (cellsQ l)[j * 37 + i]? = (l[j]).cells[i]? := by
  induction l generalizing j with
  | nil => simp at hj
  | cons q l ih =>
    have hq : q.cells.length = 37 := fldL_len (h q List.mem_cons_self) q.A q.m q.c
    cases j with
    | zero =>
      simp only [cellsQ, Nat.zero_mul, Nat.zero_add, List.getElem_cons_zero]
      rw [List.getElem?_append_left (by omega)]
    | succ j =>
      simp only [cellsQ, List.getElem_cons_succ]
      rw [List.getElem?_append_right (by omega), hq, show (j + 1) * 37 + i - 37 = j * 37 + i by omega]
      exact ih (fun q hq => h q (List.mem_cons_of_mem _ hq)) (by simpa using hj)
/-- The row l, of the call's own: what lies where. -/
def OwnQ (w : World) (B : Nat) (v : Value) (l : List QF) : Prop :=
  w.ownsRow B 31 37 v l.length (cellsQ l) ∧ ∀ q ∈ l, FldQ w w.heap.size q.f q.A q.m q.c ∧ (∀ b, v.ownBlock = some b → Off q.A q.m (· = b))
theorem OwnQ.rdQ {w : World} {B : Nat} {v : Value} {l : List QF} (h : OwnQ w B v l) : ∃ A c, v = .slice A l.length c ∧ RdQ w w.heap.size A l.length (l.map QF.f) := by
  have htl : ∀ q ∈ l, q.f.t.length = 32 := fun q hq => (h.2 q hq).1.tl
  rcases h.1.2 with ⟨rfl, h0⟩ | ⟨g, cap, cur, rfl, hg, hh, hnc, hcm, hcs, htk⟩
  · have hl : l = [] := List.eq_nil_of_length_eq_zero h0
    subst hl
    exact ⟨none, 0, rfl, rfl, fun h => absurd h (Nat.lt_irrefl 0)⟩
  · refine ⟨_, cap, rfl, by simp, fun h0 => ⟨g, 0, rfl, heap_at_lt hh, fun j hj => ?_⟩⟩
    have e : (l.map QF.f).getD j Fld.zero = (l[j]).f := by simp [List.getD, hj]
    rw [e]
    refine ⟨(l[j]).A, (l[j]).m, (l[j]).c, fun i v hv => ?_, (h.2 _ (List.getElem_mem hj)).1⟩
    have hi : i < 37 := by
      rcases Nat.lt_or_ge i 37 with q | q
      · exact q
      · rw [List.getElem?_eq_none (by rw [fldL_len (htl _ (List.getElem_mem hj))]; exact q)] at hv; cases hv
    have h1 := cellsQ_at htl hj hi
    rw [← htk, List.getElem?_take, if_pos (by have : j * 37 + 37 ≤ l.length * 37 := by { have := Nat.mul_le_mul_right 37 (Nat.succ_le_of_lt hj); omega }; omega)] at h1
    rw [Nat.zero_add, cell_of_row _ _ _ _ _ _ hh, ← Array.getElem?_toList, h1]
    exact hv
end Go.Proofs.Ytmhknpkiddgcpaa
