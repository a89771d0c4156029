/- A queue in a block of the call's own (QB); contracts of the program's channel package, part two: New, from, bytes.Clone, filled. -/
import Derived.Test.YtnaegbnijbdgbaaChP
import Derived.Deep.WholeRow
import Derived.Lib.SliceRun
import Derived.Test.YtnaegbnijbdgbaaHeldE
import Derived.Test.YtnaegbnijbdgbaaBClone
namespace Go.Proofs.Ytnaegbnijbdgbaa
open Go.RowKit
set_option linter.unusedVariables false
set_option linter.unusedSimpArgs false

/-- A queue stored into a block. -/
def setQ (w : World) (g : Nat) (c : Ch) (v : Value) : World :=
  (((((w.setCell ⟨g, 0, none⟩ (.int .i64 c.id)).setCell ⟨g, 1, none⟩ (.int .i64 c.fr)).setCell ⟨g, 2, none⟩ (.int .i64 c.dst)).setCell ⟨g, 3, none⟩ (.int .i64 c.cap)).setCell ⟨g, 4, none⟩ (.int .i64 c.size)).setCell ⟨g, 5, none⟩ v
theorem Keep.setQ {R : Nat → Prop} {a w : World} (h : Keep R a w) (g : Nat) (c : Ch) (v : Value) (hr : R g) : Keep R a (setQ w g c v) :=
  (((((h.setCell _ _ hr).setCell _ _ hr).setCell _ _ hr).setCell _ _ hr).setCell _ _ hr).setCell _ _ hr
theorem below_setQ {B : Nat} {a w : World} (h : Below B a w) {g : Nat} (hg : B ≤ g) (c : Ch) (v : Value) : Below B a (setQ w g c v) :=
  (((((h.setCell (p := ⟨g, 0, none⟩) hg _).setCell (p := ⟨g, 1, none⟩) hg _).setCell (p := ⟨g, 2, none⟩) hg _).setCell (p := ⟨g, 3, none⟩) hg _).setCell (p := ⟨g, 4, none⟩) hg _).setCell (p := ⟨g, 5, none⟩) hg _
theorem OwS.fullR_of {w : World} {B n c : Nat} {A : Option Addr} {l : List (List UInt8)} (h : RowsX w B (.slice A n c) n (l.map fullR)) : OwS w B A n (l.map fullR) := OwS.of h
theorem take_fulls {l : List (List UInt8)} {k : Nat} (h : k < l.length) : (l.take (k + 1)).map fullR = (l.take k).map fullR ++ [fullR (l.getD k [])] := by
  rw [List.take_succ_eq_append_getElem h, List.map_append]
  simp [List.getD, List.getElem?_eq_getElem h]
/-- What the queues that are handed back are made of. -/
def RetQu (w : World) (c : Ch) (l : List (List UInt8)) (v : Value) (w' : World) : Prop :=
  ∃ A n k, v = .agg (quA c (.slice A n k)) ∧ OwS w' w.heap.size A n (l.map fullR) ∧ n ≤ k ∧ k ≤ 9223372036854775807 ∧ Below w.heap.size w w'
def newC (c : Ch) : Ch := if mayC c then c else Ch.zero
def newE (c : Ch) : Int := if mayC c then 0 else 2
end Go.Proofs.Ytnaegbnijbdgbaa
