/- The plain words on channels and queues of layer 10: a channel, when it may be, when a queue may be, what a message more makes of it. -/
import Derived.Test.YtecedmjhhaabgaaBase
namespace Go.Proofs.Ytecedmjhhaabgaa
open Go.RowKit
set_option linter.unusedVariables false

structure Ch where
  id : Int
  fr : Int
  dst : Int
  cap : Int
  size : Int
deriving DecidableEq
def Ch.zero : Ch := ⟨0, 0, 0, 0, 0⟩
def chL (c : Ch) : List Value := [.int .i64 c.id, .int .i64 c.fr, .int .i64 c.dst, .int .i64 c.cap, .int .i64 c.size]
def chA (c : Ch) : Array Value := #[.int .i64 c.id, .int .i64 c.fr, .int .i64 c.dst, .int .i64 c.cap, .int .i64 c.size]
def quA (c : Ch) (v : Value) : Array Value := #[.int .i64 c.id, .int .i64 c.fr, .int .i64 c.dst, .int .i64 c.cap, .int .i64 c.size, v]
def mayC (c : Ch) : Bool := decide (1 ≤ c.id ∧ c.id ≤ 8 ∧ 1 ≤ c.fr ∧ c.fr ≤ 6 ∧ 1 ≤ c.dst ∧ c.dst ≤ 6 ∧ c.fr ≠ c.dst ∧ 1 ≤ c.cap ∧ c.cap ≤ 4 ∧ 1 ≤ c.size ∧ c.size ≤ 16)
theorem mayC_iff {c : Ch} : mayC c = true ↔ 1 ≤ c.id ∧ c.id ≤ 8 ∧ 1 ≤ c.fr ∧ c.fr ≤ 6 ∧ 1 ≤ c.dst ∧ c.dst ≤ 6 ∧ c.fr ≠ c.dst ∧ 1 ≤ c.cap ∧ c.cap ≤ 4 ∧ 1 ≤ c.size ∧ c.size ≤ 16 := by simp [mayC]
/-- Is a message longer than the channel's? -/
def longM (c : Ch) (m : List UInt8) : Bool := decide ((m.length : Int) > c.size)
def mayQ (c : Ch) (l : List (List UInt8)) : Bool := mayC c && decide ((l.length : Int) ≤ c.cap) && !l.any (longM c)
theorem mayQ_iff {c : Ch} {l : List (List UInt8)} : mayQ c l = true ↔ mayC c = true ∧ (l.length : Int) ≤ c.cap ∧ ∀ m ∈ l, (m.length : Int) ≤ c.size := by
  simp [mayQ, longM, and_assoc]
/-- The messages behind a message more. -/
def putM (c : Ch) (l : List (List UInt8)) (m : List UInt8) : List (List UInt8) := (if (l.length : Int) = c.cap then l.drop 1 else l) ++ [m]
def fstM (c : Ch) (l : List (List UInt8)) : Nat := if (l.length : Int) = c.cap then 1 else 0
theorem putM_fst (c : Ch) (l : List (List UInt8)) (m : List UInt8) : putM c l m = l.drop (fstM c l) ++ [m] := by
  unfold putM fstM; split <;> simp
def errP (c : Ch) (l : List (List UInt8)) (m : List UInt8) : Int := if mayQ c l then (if longM c m then 3 else 0) else 2
def errT (c : Ch) (l : List (List UInt8)) : Int := if mayQ c l then (if l = [] then 100 else 0) else 2
def chAt (l : List Ch) (j : Nat) : Ch := l.getD j Ch.zero
theorem chAt_lt {l : List Ch} {j : Nat} (h : j < l.length) : chAt l j = l[j] := by simp [chAt, List.getD, List.getElem?_eq_getElem h]
def ascC (l : List Ch) : Prop := ∀ j, j + 1 < l.length → (chAt l j).id < (chAt l (j + 1)).id
open Classical in
noncomputable def allE (l : List Ch) : Int := if l.any (fun c => !mayC c) then 2 else if ascC l then 0 else 100
theorem putM_may {c : Ch} {l : List (List UInt8)} {m : List UInt8} (h : mayQ c l = true) (hm : longM c m = false) : mayQ c (putM c l m) = true := by
  rw [mayQ_iff] at h ⊢
  obtain ⟨h1, h2, h3⟩ := h
  have h1' := mayC_iff.1 h1
  have hm' : (m.length : Int) ≤ c.size := by simpa [longM] using hm
  refine ⟨h1, ?_, fun x hx => ?_⟩
  · unfold putM
    split
    · rename_i he
      simp only [List.length_append, List.length_drop, List.length_singleton]
      omega
    · simp only [List.length_append, List.length_singleton]
      omega
  · unfold putM at hx
    rw [List.mem_append] at hx
    rcases hx with hx | hx
    · refine h3 x ?_
      split at hx
      · exact List.mem_of_mem_drop hx
      · exact hx
    · simp at hx; rw [hx]; exact hm'
theorem drop_may {c : Ch} {l : List (List UInt8)} (h : mayQ c l = true) : mayQ c (l.drop 1) = true := by
  rw [mayQ_iff] at h ⊢
  exact ⟨h.1, by simp only [List.length_drop]; omega, fun m hm => h.2.2 m (List.mem_of_mem_drop hm)⟩
end Go.Proofs.Ytecedmjhhaabgaa
