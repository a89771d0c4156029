/- Contract of the program's Chain (sha). -/
import Derived.Test.YtgkmkkfnpoapfaaDoorShaH
namespace Go.Proofs.YtgkmkkfnpoapfaaDoor
open Go.RowKit
set_option linter.unusedVariables false
set_option linter.unusedSimpArgs false

/-- Each row's length is at most its capacity. -/
def CapS (w : World) (A : Option Addr) (n : Nat) : Prop :=
  ∀ b o, A = some ⟨b, o, none⟩ → ∀ j, j < n → ∀ A1 n1 c1, w.cell? ⟨b, o + j, none⟩ = some (.slice A1 n1 c1) → n1 ≤ c1 ∧ c1 ≤ 9223372036854775807
theorem CapS.below {w w' : World} {B : Nat} {A : Option Addr} {n : Nat} (h : CapS w A n) (hb : Below B w w') (hA : ∀ b o, A = some ⟨b, o, none⟩ → 0 < n → b < B) : CapS w' A n := fun b o e j hj A1 n1 c1 hc => by
  rw [hb.cell (hA b o e (by omega))] at hc
  exact h b o e j hj A1 n1 c1 hc
theorem chain_take {bss : List (List UInt8)} {k : Nat} (h : k + 1 < bss.length) : chainL (bss.take (k + 1 + 1)) = shaL (chainL (bss.take (k + 1)) ++ bss.getD (k + 1) []) := by
  cases bss with
  | nil => simp at h
  | cons x l =>
    have hk : k < l.length := by simpa using h
    rw [List.take_succ_cons, List.take_succ_cons, List.getD_cons_succ, List.take_succ_eq_append_getElem hk, ← List.cons_append, chainL_snoc]
    simp [List.getD, List.getElem?_eq_getElem hk]
theorem chain_one {bss : List (List UInt8)} (h : 0 < bss.length) : chainL (bss.take 1) = shaL (bss.getD 0 []) := by
  cases bss with
  | nil => simp at h
  | cons x l => rfl
theorem row_le {bss : List (List UInt8)} {j : Nat} (h : j < bss.length) : (bss.getD j []).length ≤ bss.flatten.length := by
  have h1 := tot_succ h
  have h2 := tot_le bss (j + 1)
  omega
/-- 'l[1:]' of rows. -/
theorem rows_tail (b o n c : Nat) (h1 : 1 ≤ n) (hc : n ≤ c) : ∃ A', (∀ w : World, (Instr.slice 46 (.slice (some ⟨b, o, none⟩) n c) (some (.int .i64 1)) none none).run Tryd.prog w = .ok (.slice A' (n - 1) (c - 1)) w) ∧ (1 < n → A' = some ⟨b, o + 1, none⟩) := by
  refine ⟨if c = 1 then some ⟨b, o, none⟩ else some ⟨b, o + 1, none⟩, fun w => ?_, fun h => by rw [if_neg (by omega)]⟩
  have he : Tryd.prog.elem 46 = 22 := by kernel_rfl
  rw [run_slice_l (ht := by kernel_rfl) (kl := .i64) (l := 1) (h0 := by decide) (h1 := by omega), he, rows_size]
  simp [Result.andThen, sliced, Addr.add]

/-- 't[:]' of a tag in a block. -/
theorem tag_sliceAll (g : Nat) (w : World) : (Instr.sliceAt 25 (.pointer (some ⟨g, 0, none⟩)) none none none).run Tryd.prog w = .ok (.slice (some ⟨g, 0, none⟩) 32 32) w := by
  have hl : Tryd.prog.arrayLen 25 = 32 := by kernel_rfl
  have he : Tryd.prog.elem 25 = 5 := by kernel_rfl
  have hs : (sizeOf 5).run Tryd.prog w = .ok 1 w := sizeOf_one (by kernel_rfl) w
  rw [run_sliceAt_array_all (ht := by kernel_rfl), he, hl, hs]
  simp [Result.andThen, slicedAt, Addr.add]

def ChRel (w : World) (bss : List (List UInt8)) (n g3 g4 : Nat) (i : Value) (wr : World) : Prop :=
  ∃ k : Nat, k + 1 ≤ n ∧ i = .int .i64 (k : Int) ∧ TagAt wr g4 (chainL (bss.take (k + 1))) ∧ NumAt 53 .u32 wr g3 shaK ∧ TagAt wr w.heap.size zeros32 ∧ Below w.heap.size w wr

end Go.Proofs.YtgkmkkfnpoapfaaDoor
