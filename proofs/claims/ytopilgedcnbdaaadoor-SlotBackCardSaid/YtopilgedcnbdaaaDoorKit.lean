/- Small words more: rows of constants, fronts of rows, two new blocks, and words.Cat of one, two or three rows as a call with a list of arguments meets it. -/
import Derived.Test.YtopilgedcnbdaaaDoorTz
import Derived.Test.YtopilgedcnbdaaaDoorBytes
import Derived.Deep.WholeRow
namespace Go.Proofs.YtopilgedcnbdaaaDoor
set_option maxRecDepth 1000000
set_option maxHeartbeats 8000000
open Go.RowKit
set_option linter.unusedVariables false
theorem Rd.lit {w : World} (bs : List UInt8) (vs : List Value) (T : TypeId) (h : bs.map bval = vs) : Rd (w.alloc (.cells vs.toArray T)) (w.heap.size + 1) (some ⟨w.heap.size, 0, none⟩) vs.length bs := by
 subst h
 refine ⟨by simp, fun hn => ⟨w.heap.size, 0, rfl, by omega, fun j hj => ?_⟩⟩
 have hl : j < bs.length := by simpa using hj
 rw [World.cell?_alloc_at _ _ _ _ (by rfl), nth_of_lt hl]
 simp [hl, bval]
theorem Rd.front {w : World} {B n : Nat} {A : Option Addr} {bs : List UInt8} (h : Rd w B A n bs) {k : Nat} (hk : k ≤ n) : Rd w B A k (bs.take k) := by
 refine ⟨by simp [h.1]; omega, fun h0 => ?_⟩
 obtain ⟨b, o, e, hb, hc⟩ := h.2 (by omega)
 refine ⟨b, o, e, hb, fun j hj => ?_⟩
 rw [hc j (by omega)]
 simp [nth, List.getD, hj]
theorem Rd.grow {w : World} {n : Nat} {A : Option Addr} {bs : List UInt8} (h : Rd w w.heap.size A n bs) (o : Obj) : Rd (w.alloc o) (w.alloc o).heap.size A n bs := h.to ((Below.refl _ _).alloc (Nat.le_refl _) o)
theorem two_blocks (w : World) (c c' : Array Value) (t : TypeId) : ((w.alloc (.cells c t)).alloc (.cells c' t)).heap[w.heap.size]? = some (.cells c t (0, 0)) ∧ ((w.alloc (.cells c t)).alloc (.cells c' t)).heap[w.heap.size + 1]? = some (.cells c' t (0, 0)) := by
 refine ⟨(Below.heap_alloc (w.alloc _) _ w.heap.size (by simp)).trans (heap_alloc_last w _), ?_⟩
 have h := heap_alloc_last (w.alloc (.cells c t)) (.cells c' t)
 rwa [show (w.alloc (.cells c t)).heap.size = w.heap.size + 1 from by simp] at h
theorem below_setRow {B g : Nat} {a w : World} (h : Below B a w) (hg : B ≤ g) (cs : Array Value) : Below B a (w.setRow g cs) :=
 ⟨h.os, h.tape, h.output, by rw [setRow_size]; exact h.size, fun k hk => (setRow_other w g k cs (by omega)).trans (h.block k hk)⟩
theorem RetB.from {T : TypeId} {w0 w w' : World} {bs : List UInt8} {e : Ending} (hb : Below w0.heap.size w0 w) (h : RetB T w bs e w') : RetB T w0 bs e w' := by
 obtain ⟨A, n, c, rfl, hown, hbel⟩ := h
 exact ⟨A, n, c, rfl, own_mono hown hb.size, hb.trans (hbel.mono hb.size)⟩
theorem RetB.is {T : TypeId} {w w' : World} {bs bs' : List UInt8} {e : Ending} (h : RetB T w bs e w') (hb : bs = bs') : RetB T w bs' e w' := hb ▸ h
theorem wf_u32 {x : Int} (h : (Lit.int .u32 x).wf = true) : ∃ n : Nat, x = (n : Int) ∧ n < 4294967296 := by
 have h1 : IntKind.u32.min = 0 := rfl
 have h2 : IntKind.u32.max = 4294967295 := rfl
 simp only [Lit.wf, Bool.and_eq_true, decide_eq_true_eq, h1, h2] at h
 exact ⟨x.toNat, by omega, by omega⟩
theorem wf_u8' {x : Int} (h : (Lit.int .u8 x).wf = true) : ∃ n : Nat, x = (n : Int) ∧ n < 256 := by
 obtain ⟨h1, h2⟩ := wf_u8 h
 exact ⟨x.toNat, by omega, by omega⟩
def IncRel (B n c : Nat) (A : Option Addr) (w : World) (i : Value) (wr : World) : Prop :=
 ∃ (k : Nat) (bs : List UInt8), k ≤ n ∧ i = .int .i64 (k : Int) ∧ wr.ownsRow B 5 1 (.slice A n c) n (bs.map bval) ∧ Below B w wr
theorem wCat1 (A : Option Addr) (n c : Nat) (xs : List UInt8) (w : World) (ha : Rd w w.heap.size A n xs) (hn : n ≤ 140737488355328) :
  Calls Tryd.prog 18 #[.slice (some ⟨w.heap.size, 0, none⟩) 1 1] (w.alloc (.cells #[.slice A n c] 22)) fun e w' => RetB 5 w xs e w' := by
 have S := RdS.lit (w := w) [.slice A n c] 22 [xs] rfl (fun j hj => by
  rcases j with _ | j
  ·exact ⟨_, _, _, rfl, ha⟩
  ·simp at hj)
 have hl := ha.1
 exact (wCat _ 1 1 [xs] (w.alloc (.cells #[.slice A n c] 22)) (by simpa using S) (by decide) (by simp; omega)).mono fun e w' h => (h.from ((Below.refl _ _).alloc (Nat.le_refl _) _)).is (by simp)
theorem wCat2 (A A' : Option Addr) (n m c d : Nat) (xs ys : List UInt8) (w : World) (ha : Rd w w.heap.size A n xs) (hb : Rd w w.heap.size A' m ys) (hn : n + m ≤ 140737488355328) :
  Calls Tryd.prog 18 #[.slice (some ⟨w.heap.size, 0, none⟩) 2 2] (w.alloc (.cells #[.slice A n c, .slice A' m d] 22)) fun e w' => RetB 5 w (xs ++ ys) e w' := by
 have S := RdS.lit (w := w) [.slice A n c, .slice A' m d] 22 [xs, ys] rfl (fun j hj => by
  rcases j with _ | _ | j
  ·exact ⟨_, _, _, rfl, ha⟩
  ·exact ⟨_, _, _, rfl, hb⟩
  ·simp at hj; omega)
 have hl := ha.1
 have hl' := hb.1
 exact (wCat _ 2 2 [xs, ys] (w.alloc (.cells #[.slice A n c, .slice A' m d] 22)) (by simpa using S) (by decide) (by simp; omega)).mono fun e w' h => (h.from ((Below.refl _ _).alloc (Nat.le_refl _) _)).is (by simp)
end Go.Proofs.YtopilgedcnbdaaaDoor