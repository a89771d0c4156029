/- A slice literal of one field. -/
import Derived.Test.YtmhknpkiddgcpaaWireBad
import Derived.Great.BuildSlice
import Derived.Great.FillDense
namespace Go.Proofs.Ytmhknpkiddgcpaa
open Go.RowKit
set_option linter.unusedVariables false
set_option linter.unusedSimpArgs false

/-- '[]T{x}' of a struct of 37 cells. -/
theorem wpList_buildField {P : Program} {T S : TypeId} {ops : Array Oper} {rest : List Oper} {o : Oper} {a : Act} {w : World} {Q : Exit → Act → World → Prop} (hg : o.guard = none) (x : Operand) (ho : o.op = .buildSlice S 1 #[(0, x)]) (cells : Array Value) (hx : a.eval x = .agg cells)
    (hu : P.underlying S = some (.slice T)) {z0 : Value} (hinfo : (P.info? T).map (fun i => (i.zero, i.size)) = some (some z0, 37)) (hc : cells.size = 37)
    (h : wpList P ops Q rest (a.put o.dst (.slice (some ⟨w.heap.size, 0, none⟩) 1 1)) (w.alloc (.cells cells T))) : wpList P ops Q (o :: rest) a w := by
  cases hie : P.info? T with
  | none => simp [hie] at hinfo
  | some ie =>
    simp only [hie, Option.map_some, Option.some.injEq, Prod.mk.injEq] at hinfo
    obtain ⟨hz, hs⟩ := hinfo
    refine wpList_buildSlice hg S T 1 _ ho cells ie z0 hu hie hz (by rw [hs]; decide) (by rw [hs]; decide) ?_ h
    have e1 : ((#[(0, x)] : Array (Nat × Operand)).map fun (i, x) => (i, a.eval x)).toList = (([.agg cells] : List Value).zipIdx 0).map fun x => (x.2, x.1) := by simp [hx]
    rw [e1, hs]
    obtain ⟨r, hr, hrs, hk⟩ := Great.fill_dense (s := 37) (by decide) [.agg cells] 0 ((Array.range (1 * 37)).map (z0.cells[· % z0.cells.size]!)) (fun v hv => by
      have hv' : v = .agg cells := by simpa using hv
      rw [hv']; exact hc) (by simp)
    rw [hr]
    congr 1
    apply Array.ext_getElem?
    intro k
    rw [hk k]
    by_cases hlt : k < 37
    · rw [if_pos ⟨by omega, by simp; omega⟩]
      have e2 : k / 37 - 0 = 0 := by omega
      have e3 : k % 37 = k := Nat.mod_eq_of_lt hlt
      rw [e2, e3]
      rfl
    · rw [if_neg (by simp; omega)]
      rw [Array.getElem?_eq_none (by simp; omega), Array.getElem?_eq_none (by omega)]
theorem fldS_rd {w : World} {f : Fld} {A : Option Addr} {m c : Nat} (h : FldOk w w.heap.size f A m c) : RdF (w.alloc (.cells (fldL f A m c).toArray 31)) (w.alloc (.cells (fldL f A m c).toArray 31)).heap.size (some ⟨w.heap.size, 0, none⟩) 1 [f] := by
  refine ⟨rfl, fun _ => ⟨w.heap.size, 0, rfl, by simp, fun j hj => ?_⟩⟩
  obtain rfl : j = 0 := by omega
  refine ⟨A, m, c, fun i v hv => ?_, h.to ((Below.refl _ _).alloc (Nat.le_refl _) _)⟩
  rw [World.cell?_alloc_at _ _ _ _ (by rfl)]
  simpa using hv
end Go.Proofs.Ytmhknpkiddgcpaa
