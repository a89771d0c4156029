/- A block of the call's own that holds ints (a struct of ints, an int that is boxed), which may be written; an append onto a row of ints that leaves such blocks alone. The block's type is a letter. -/
import Derived.Test.YtdlhbggnhamenaaPair
namespace Go.Proofs.Ytdlhbggnhamenaa
open Go.RowKit
set_option linter.unusedVariables false
set_option linter.unusedSimpArgs false

/-- Block g holds the ints zs, and may be written. -/
def Blk (T : TypeId) (W : World) (g : Nat) (zs : List Int) : Prop := W.heap[g]? = some (.cells (zs.map iv).toArray T (0, 0))
theorem Blk.lt {T : TypeId} {W : World} {g : Nat} {zs : List Int} (h : Blk T W g zs) : g < W.heap.size := (Array.getElem?_eq_some_iff.1 h).1
theorem Blk.at {T : TypeId} {W : World} {g : Nat} {zs : List Int} (h : Blk T W g zs) (j : Nat) {z : Int} (hz : zs[j]? = some z) : W.cell? ⟨g, j, none⟩ = some (.int .i64 z) := by
  simp [World.cell?, show W.heap[g]? = _ from h, hz, iv]
theorem Blk.fz {T : TypeId} {W : World} {g : Nat} {zs : List Int} (h : Blk T W g zs) (j : Nat) : W.frozen? ⟨g, j, none⟩ = false := by
  simp [World.frozen?, show W.heap[g]? = _ from h]
theorem Blk.new (T : TypeId) (W : World) (zs : List Int) : Blk T (W.alloc (.cells (zs.map iv).toArray T)) W.heap.size zs := by show (W.heap.push _)[W.heap.size]? = _; simp
theorem Blk.to {T : TypeId} {W W' : World} {g : Nat} {zs : List Int} (h : Blk T W g zs) (hb : Below W.heap.size W W') : Blk T W' g zs := (hb.block g h.lt).trans h
theorem Blk.set {T : TypeId} {W : World} {g : Nat} {zs : List Int} (h : Blk T W g zs) (j : Nat) (z : Int) : Blk T (W.setCell ⟨g, j, none⟩ (.int .i64 z)) g (zs.set j z) := by
  obtain ⟨hlt, hk⟩ := Array.getElem?_eq_some_iff.1 h
  show (W.heap.modify g _)[g]? = _
  rw [Array.getElem?_eq_getElem (by rw [Array.size_modify]; exact hlt), Array.getElem_modify_self, hk, List.map_set]
  simp [iv]
theorem Blk.other {T : TypeId} {W : World} {g g' k : Nat} {zs : List Int} {v : Value} (h : Blk T W g zs) (hne : g ≠ g') : Blk T (W.setCell ⟨g', k, none⟩ v) g zs :=
  (Below.heap_setCell W ⟨g', k, none⟩ v g hne).trans h
theorem Blk.drewN {T : TypeId} {W : World} {g : Nat} {zs : List Int} (h : Blk T W g zs) (k : Nat) : Blk T (W.drewN k) g zs := h

/-- A struct of four ints, stored. -/
def set4 (W : World) (g : Nat) (a b c d : Int) : World := (((W.setCell ⟨g, 0, none⟩ (.int .i64 a)).setCell ⟨g, 1, none⟩ (.int .i64 b)).setCell ⟨g, 2, none⟩ (.int .i64 c)).setCell ⟨g, 3, none⟩ (.int .i64 d)
theorem Blk.set4 {T : TypeId} {W : World} {g : Nat} {a b c d : Int} (h : Blk T W g [a, b, c, d]) (a' b' c' d' : Int) : Blk T (set4 W g a' b' c' d') g [a', b', c', d'] := (((h.set 0 a').set 1 b').set 2 c').set 3 d'
theorem Blk.other4 {T : TypeId} {W : World} {g g' : Nat} {zs : List Int} (h : Blk T W g zs) (hne : g ≠ g') (a b c d : Int) : Blk T (Proofs.Ytdlhbggnhamenaa.set4 W g' a b c d) g zs := (((h.other hne).other hne).other hne).other hne
theorem below_set4 {B : Nat} {w0 W : World} (h : Below B w0 W) {g : Nat} (hg : B ≤ g) (a b c d : Int) : Below B w0 (set4 W g a b c d) :=
  (((h.setCell (p := ⟨g, 0, none⟩) hg _).setCell (p := ⟨g, 1, none⟩) hg _).setCell (p := ⟨g, 2, none⟩) hg _).setCell (p := ⟨g, 3, none⟩) hg _

/-- 'out = append(out, z)' of one int: blocks of another type stay. -/
theorem wpList_pushZX {P : Program} {T U : TypeId} (L : ZT P T U) {ops : Array Oper} {rest : List Oper} {o : Oper} {a : Act} {Q : Exit → Act → World → Prop} (hgd : o.guard = none) (s x : Operand)
    (ho : o.op = .call { callee := .builtin .append, args := #[s, x], argTypes := #[T, T] }) {B n : Nat} {w wr : World} {v : Value} {xs : List Int} {z : Int} (hs : a.eval s = v)
    (hx : a.eval x = .slice (some ⟨wr.heap.size, 0, none⟩) 1 1) (hown : wr.ownsRow B U 1 v n (xs.map iv)) (hb : Below B w wr) (hB : B ≤ wr.heap.size) (hk : n + 1 ≤ 17592186044416)
    (h : ∀ v' w1, w1.ownsRow B U 1 v' (n + 1) ((xs ++ [z]).map iv) → Below B w w1 → wr.heap.size ≤ w1.heap.size → (∀ T' g zs, T' ≠ U → Blk T' wr g zs → Blk T' w1 g zs) → wpList P ops Q rest (a.put o.dst v') w1) : wpList P ops Q (o :: rest) a (wr.alloc (.cells #[.int .i64 z] U)) := by
  obtain ⟨i0, hi, hz0, hz1, hz2⟩ := info_parts L.info
  refine wpList_append_own _ hgd s x T ho B U i0 (.int .i64 0) 1 8 L.ul hi hz0 hz1 hz2 rfl (by decide) v n _ hs (hown.alloc _) ⟨wr.heap.size, 0, none⟩ 1 1 [.int .i64 z] hx rfl (cell_one_new _ _ _) ?_ ?_ ?_ ?_ ?_
  · intro u hu; simp at hu; subst hu; rfl
  · unfold maxLen; omega
  · omega
  · simp; omega
  · intro v' w1 hown' hgrow _
    have hz' := hgrow.size
    simp at hz'
    refine h v' w1 (by rw [List.map_append]; exact hown') ((hb.alloc hB _).grown hgrow (by simp; omega) (fun j hj => (hown.lt j hj).1)) (by omega) fun T' g zs hT hx => ?_
    have hlt := hx.lt
    have hx' : Blk T' (wr.alloc (.cells #[.int .i64 z] U)) g zs := (Below.heap_alloc wr _ g hlt).trans hx
    refine (hgrow.block g (by simp; omega) fun e => ?_).trans hx'
    rcases hown.2 with ⟨rfl, _⟩ | ⟨g', cap, cur, rfl, _, hh, _⟩
    · cases e
    · have eg : g = g' := by simpa [Value.ownBlock] using e
      subst eg
      have := hh.symm.trans hx
      simp only [Option.some.injEq, Obj.cells.injEq] at this
      exact hT this.2.1.symm
end Go.Proofs.Ytdlhbggnhamenaa
