/- A struct in a block of the call's own, of any type: cells read, cells stored, all of them stored. -/
import Derived.Test.YtnaegbnijbdgbaaKitO
namespace Go.Proofs.Ytnaegbnijbdgbaa
open Go.RowKit
set_option linter.unusedVariables false
set_option linter.unusedSimpArgs false

def Bx (w : World) (g : Nat) (T : TypeId) (cs : List Value) : Prop := w.heap[g]? = some (.cells cs.toArray T (0, 0))
theorem Bx.lt {w : World} {g : Nat} {T : TypeId} {cs : List Value} (h : Bx w g T cs) : g < w.heap.size := heap_at_lt h
theorem Bx.at {w : World} {g : Nat} {T : TypeId} {cs : List Value} (h : Bx w g T cs) {j : Nat} {v : Value} (hj : cs[j]? = some v) : w.cell? ⟨g, j, none⟩ = some v := by
  have h' : w.heap[g]? = _ := h
  simp [World.cell?, h', hj]
theorem Bx.fz {w : World} {g : Nat} {T : TypeId} {cs : List Value} (h : Bx w g T cs) (j : Nat) : w.frozen? ⟨g, j, none⟩ = false := by
  simp [World.frozen?, show w.heap[g]? = _ from h]
theorem Bx.new (w : World) (T : TypeId) (cs : List Value) : Bx (w.alloc (.cells cs.toArray T)) w.heap.size T cs := by show (w.heap.push _)[w.heap.size]? = _; simp
theorem Bx.kept {R : Nat → Prop} {w w' : World} {g : Nat} {T : TypeId} {cs : List Value} (h : Bx w g T cs) (hk : Keep R w w') (hn : ¬ R g) : Bx w' g T cs := (hk.block g h.lt hn).trans h
theorem Bx.to {w w' : World} {g : Nat} {T : TypeId} {cs : List Value} (h : Bx w g T cs) (hb : Below w.heap.size w w') : Bx w' g T cs := (hb.block g h.lt).trans h
theorem Bx.below {B : Nat} {w w' : World} {g : Nat} {T : TypeId} {cs : List Value} (h : Bx w g T cs) (hg : g < B) (hb : Below B w w') : Bx w' g T cs := (hb.block g hg).trans h
theorem Bx.set {w : World} {g : Nat} {T : TypeId} {cs : List Value} (h : Bx w g T cs) (j : Nat) (u : Value) : Bx (w.setCell ⟨g, j, none⟩ u) g T (cs.set j u) := by
  obtain ⟨hlt, hk⟩ := Array.getElem?_eq_some_iff.1 h
  show (w.heap.modify g _)[g]? = _
  rw [Array.getElem?_eq_getElem (by rw [Array.size_modify]; exact hlt), Array.getElem_modify_self, hk]
  simp
theorem Bx.other {w : World} {g : Nat} {T : TypeId} {cs : List Value} (h : Bx w g T cs) (p : Addr) (u : Value) (hne : g ≠ p.block) : Bx (w.setCell p u) g T cs := (Below.heap_setCell w p u g hne).trans h
/-- Values stored one behind the other. -/
def setsC (w : World) (g i : Nat) : List Value → World
  | [] => w
  | v :: vs => setsC (w.setCell ⟨g, i, none⟩ v) g (i + 1) vs
theorem Bx.setsAt {g : Nat} {T : TypeId} : ∀ (vs : List Value) {w : World} {cs : List Value} (i : Nat), Bx w g T cs → i + vs.length ≤ cs.length → Bx (setsC w g i vs) g T (cs.take i ++ vs ++ cs.drop (i + vs.length))
  | [], w, cs, i, h, _ => by simpa [setsC] using h
  | v :: vs, w, cs, i, h, hl => by
    have h1 := Bx.setsAt vs (i + 1) (h.set i v) (by rw [List.length_set]; simp only [List.length_cons] at hl; omega)
    have hi : i < cs.length := by simp only [List.length_cons] at hl; omega
    have e1 : (cs.set i v).take (i + 1) = cs.take i ++ [v] := by
      rw [List.take_succ_eq_append_getElem (by rw [List.length_set]; exact hi), List.take_set_of_le (Nat.le_refl _), List.getElem_set_self]
    have e2 : (cs.set i v).drop (i + 1 + vs.length) = cs.drop (i + (v :: vs).length) := by
      rw [List.drop_set_of_lt (by omega), List.length_cons]; congr 1; omega
    rw [e1, e2] at h1
    simpa [setsC, List.append_assoc] using h1
theorem Bx.sets {w : World} {g : Nat} {T : TypeId} {cs : List Value} (h : Bx w g T cs) (vs : List Value) (hl : vs.length = cs.length) : Bx (setsC w g 0 vs) g T vs := by
  have := Bx.setsAt vs 0 h (by omega)
  rw [Nat.zero_add, hl] at this
  simpa using this
theorem Keep.sets {R : Nat → Prop} {a : World} {g : Nat} (hr : R g) : ∀ (vs : List Value) {w : World} (i : Nat), Keep R a w → Keep R a (setsC w g i vs)
  | [], w, i, h => h
  | v :: vs, w, i, h => Keep.sets hr vs (i + 1) (h.setCell _ _ hr)
theorem below_sets {B : Nat} {a : World} {g : Nat} (hg : B ≤ g) : ∀ (vs : List Value) {w : World} (i : Nat), Below B a w → Below B a (setsC w g i vs)
  | [], w, i, h => h
  | v :: vs, w, i, h => below_sets hg vs (i + 1) (h.setCell (p := ⟨g, i, none⟩) hg v)
end Go.Proofs.Ytnaegbnijbdgbaa
