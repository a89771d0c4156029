/- A region in a block of the call's own; what Place hands back. -/
import Derived.Test.YtggnpnicmjjfbaaRegP
namespace Go.Proofs.Ytggnpnicmjjfbaa
open Go.RowKit
set_option linter.unusedVariables false
set_option linter.unusedSimpArgs false

/-- A region in a block of the call's own, which may be written. -/
def BoxR (W : World) (g : Nat) (b s : Int) : Prop := W.heap[g]? = some (.cells #[.int .i64 b, .int .i64 s] 23 (0, 0))
theorem BoxR.lt {W : World} {g : Nat} {b s : Int} (h : BoxR W g b s) : g < W.heap.size := (Array.getElem?_eq_some_iff.1 h).1
theorem BoxR.c0 {W : World} {g : Nat} {b s : Int} (h : BoxR W g b s) : W.cell? ⟨g, 0, none⟩ = some (.int .i64 b) := by simp [World.cell?, show W.heap[g]? = _ from h]
theorem BoxR.c1 {W : World} {g : Nat} {b s : Int} (h : BoxR W g b s) : W.cell? ⟨g, 1, none⟩ = some (.int .i64 s) := by simp [World.cell?, show W.heap[g]? = _ from h]
theorem BoxR.f0 {W : World} {g : Nat} {b s : Int} (h : BoxR W g b s) : W.frozen? ⟨g, 0, none⟩ = false := by simp [World.frozen?, show W.heap[g]? = _ from h]
theorem BoxR.f1 {W : World} {g : Nat} {b s : Int} (h : BoxR W g b s) : W.frozen? ⟨g, 1, none⟩ = false := by simp [World.frozen?, show W.heap[g]? = _ from h]
theorem BoxR.box {W : World} {g : Nat} {b s : Int} (h : BoxR W g b s) : Box W g b s := ⟨h.c0, h.c1, h.lt⟩
theorem BoxR.new (W : World) (b s : Int) : BoxR (W.alloc (.cells #[.int .i64 b, .int .i64 s] 23)) W.heap.size b s := by show (W.heap.push _)[W.heap.size]? = _; simp
theorem BoxR.to {W W' : World} {g : Nat} {b s : Int} (h : BoxR W g b s) (hb : Below W.heap.size W W') : BoxR W' g b s := (hb.block g h.lt).trans h
theorem BoxR.set0 {W : World} {g : Nat} {b s : Int} (b' : Int) (h : BoxR W g b s) : BoxR (W.setCell ⟨g, 0, none⟩ (.int .i64 b')) g b' s := by
  obtain ⟨hlt, hk⟩ := Array.getElem?_eq_some_iff.1 h
  show (W.heap.modify g _)[g]? = _
  rw [Array.getElem?_eq_getElem (by rw [Array.size_modify]; exact hlt), Array.getElem_modify_self, hk]
  rfl
theorem BoxR.set1 {W : World} {g : Nat} {b s : Int} (s' : Int) (h : BoxR W g b s) : BoxR (W.setCell ⟨g, 1, none⟩ (.int .i64 s')) g b s' := by
  obtain ⟨hlt, hk⟩ := Array.getElem?_eq_some_iff.1 h
  show (W.heap.modify g _)[g]? = _
  rw [Array.getElem?_eq_getElem (by rw [Array.size_modify]; exact hlt), Array.getElem_modify_self, hk]
  rfl
theorem BoxR.other {W : World} {g g' k : Nat} {b s : Int} {v : Value} (h : BoxR W g b s) (hne : g ≠ g') : BoxR (W.setCell ⟨g', k, none⟩ v) g b s :=
  (Below.heap_setCell W ⟨g', k, none⟩ v g hne).trans h

/-- What is handed back: a region and an error's number. -/
theorem res_reg {fn : Func} {p q : Tmp} (h : fn.results = #[.cell p 23, .tmp q]) (tmps : Array Value) (w : World) (g : Nat) (b s : Int) (v : Value) (hp : tmps.getD p undef = .pointer (some ⟨g, 0, none⟩)) (hq : tmps.getD q undef = v) (hx : BoxR w g b s) :
    (results fn tmps).run Try.prog w = .ok (.tuple #[.agg #[.int .i64 b, .int .i64 s], v]) w := by
  have hp' : tmps[p]?.getD undef = .pointer (some ⟨g, 0, none⟩) := by simpa using hp
  have hq' : tmps[q]?.getD undef = v := by simpa using hq
  have c0 := hx.c0
  have c1 := hx.c1
  simp [results, h, hp', hq', asAddr]
  go_simp

def RetP (w : World) (r : Reg) (n : Int) (e : Ending) (w' : World) : Prop := e = .returned (.tuple #[.agg #[.int .i64 r.1, .int .i64 r.2], .int .i64 n]) ∧ Below w.heap.size w w'
end Go.Proofs.Ytggnpnicmjjfbaa
