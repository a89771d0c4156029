/- How two more kinds of arguments come in: a slice of byte slices (it reads as a list of rows), and an array of numbers by value. No program is named. -/
import Derived.Test.YtffdjnhhmfpkgaaGreatTz
import Derived.Test.YtffdjnhhmfpkgaaGreatRow
import Derived.ChangeShapes
import Derived.WideShapes
import Derived.Deep.Matrix
import Derived.SizedLaws
namespace Go.Proofs.YtffdjnhhmfpkgaaGreat
set_option maxRecDepth 1000000
set_option maxHeartbeats 8000000
open Go.RowKit Go.ChangeShapes Go.WideShapes Go.Deep
set_option linter.unusedVariables false
theorem add_none {b o j : Nat} : (⟨b, o, none⟩ : Addr).add j = ⟨b, o + j, none⟩ := by unfold Addr.add; split <;> simp_all
theorem cell_block {w : World} {a : Addr} {v : Value} (h : w.cell? a = some v) : a.block < w.heap.size := by
 rcases Nat.lt_or_ge a.block w.heap.size with g | g
 ·exact g
 ·have e : w.cell? a = none := by
   obtain ⟨b, o, s⟩ := a
   simp only [World.cell?]
   simp only at g
   rw [Array.getElem?_eq_none g]
  rw [e] at h; cases h
theorem open_rowsB {H : Type} {enc : TypeId × Value → H} {P : Program} {W : World} {r : Reach} {b0 base : Nat} {held : Bool} {t e q : TypeId} {v : Value} {d : DataW H} {ps : List MemPlace}
  (ht : P.underlying t = some (.slice e)) (he : P.underlying e = some (.slice q)) (hq : P.underlying q = some (.int .u8)) (ce : P.cellsOf e = 1) (cq : P.cellsOf q = 1)
  (hval : Value.okWide P W r b0 t v) (hd : DataW.Trod enc P W base (fun _ => true) held t v d ps) :
  ∃ a len cap bss, v = .slice a len cap ∧ RdS W W.heap.size a len bss ∧ len ≤ cap ∧ cap ≤ 9223372036854775807 := by
 obtain ⟨a, len, cap, rfl⟩ := okWide_slice ht hval
 obtain ⟨fuel, hf⟩ := hd
 rcases open_int_rows ht he hq ce cq hf with ⟨hcs, _⟩ | ⟨x, l, c, A, L, C, Z, hcs, hbx, hl, hm, hx, hrow⟩
 ·simp [Value.cells] at hcs
  obtain ⟨rfl, rfl, rfl⟩ := hcs
  exact ⟨none, 0, 0, [], rfl, RdS.nil _ _ _, by omega, by omega⟩
 ·simp [Value.cells] at hcs
  obtain ⟨rfl, rfl, rfl⟩ := hcs
  refine ⟨some x, len, cap, (List.range len).map (fun j => bytesIn ((Z j).take (L j))), rfl, ?_, hl, by unfold maxLen at hm; omega⟩
  refine ⟨by simp, fun h0 => ?_⟩
  obtain ⟨b, o, s⟩ := x
  have h00 := (hrow 0 (by omega)).1
  obtain rfl : s = none := by simpa [Addr.add] using World.cell?_spot h00
  have hb := cell_block h00
  rw [add_none] at hb
  refine ⟨b, o, rfl, hb, fun j hj => ?_⟩
  obtain ⟨h1, h2, h3, h4, h5, h6, h7⟩ := hrow j (by omega)
  rw [add_none] at h1
  refine ⟨A j, L j, C j, h1, ?_⟩
  have e1 : ((List.range len).map (fun j => bytesIn ((Z j).take (L j)))).getD j [] = bytesIn ((Z j).take (L j)) := by
   simp [List.getD, hj]
  rw [e1]
  have hR : IsRow .u8 W (A j) (L j) (C j) (Z j) := by
   cases hA : A j with
   | none =>
    have hc0 := h6 hA
    have : Z j = [] := List.eq_nil_of_length_eq_zero (by omega)
    exact .inl ⟨rfl, by omega, hc0, this⟩
   | some a' =>
    exact .inr ⟨a', rfl, h2, h3, h4, fun i hi => (h7 a' hA).2 i (by omega), h5⟩
  exact hR.rd.1
theorem mem_weightsAll {H : Type} {P : Program} {e : TypeId} {x : Nat} : ∀ {l : List (DataW H)} {d : DataW H}, d ∈ l → x ∈ d.weights P e → x ∈ DataW.weightsAll P e l
 | y :: l, d, hd, hx => by
  rcases List.mem_cons.1 hd with rfl | hd
  ·simp [DataW.weightsAll, hx]
  ·have := mem_weightsAll hd hx
   simp [DataW.weightsAll, this]
theorem open_rowsS {H : Type} {enc : TypeId × Value → H} {P : Program} {W : World} {r : Reach} {b0 base : Nat} {held : Bool} {t e q : TypeId} {v : Value} {d : DataW H} {ps : List MemPlace}
  (ht : P.underlying t = some (.slice e)) (he : P.underlying e = some (.slice q)) (hq : P.underlying q = some (.int .u8)) (ce : P.cellsOf e = 1) (cq : P.cellsOf q = 1) (be : P.bytesOf e = 24) (bq : P.bytesOf q = 1)
  (hval : Value.okWide P W r b0 t v) (hd : DataW.Trod enc P W base (fun _ => true) held t v d ps) (hw : ∀ x ∈ d.weights P t, x ≤ reachBytes) :
  ∃ a len cap bss, v = .slice a len cap ∧ RdS W W.heap.size a len bss ∧ len ≤ cap ∧ cap * 24 ≤ 140737488351232 ∧ ∀ bs ∈ bss, bs.length ≤ 140737488351232 := by
 obtain ⟨a, len, cap, rfl⟩ := okWide_slice ht hval
 obtain ⟨fuel, hf⟩ := hd
 rcases open_int_rows ht he hq ce cq hf with ⟨hcs, _⟩ | ⟨x, l, c, A, L, C, Z, hcs, hbx, hl, hm, hx, hrow⟩
 ·simp [Value.cells] at hcs
  obtain ⟨rfl, rfl, rfl⟩ := hcs
  exact ⟨none, 0, 0, [], rfl, RdS.nil _ _ _, by omega, by omega, by simp⟩
 ·simp [Value.cells] at hcs
  obtain ⟨rfl, rfl, rfl⟩ := hcs
  have hdd := congrArg Prod.fst hx
  simp only at hdd
  subst hdd
  have hcap : cap * 24 ≤ reachBytes := by
   have := hw ((len + (cap - len)) * P.bytesOf e) (by simp [DataW.weights, ht])
   rw [be] at this
   rwa [show len + (cap - len) = cap from by omega] at this
  have hrows : ∀ j, j < len → L j ≤ reachBytes := fun j hj => by
   obtain ⟨h1, h2, h3, h4, h5, h6, h7⟩ := hrow j (by omega)
   cases hA : A j with
   | none => have := h6 hA; unfold reachBytes; omega
   | some a' =>
    have hmem : intRow .u8 (A j) (L j) (Z j) ∈ (List.range len).map fun r => (intRow .u8 (A r) (L r) (Z r) : DataW H) := List.mem_map.2 ⟨j, List.mem_range.2 hj, rfl⟩
    have hx2 : (Z j).length ∈ (intRow .u8 (A j) (L j) (Z j) : DataW H).weights P e := by
     rw [hA]
     simp only [intRow, DataW.weights, he, bq]
     refine List.mem_cons.2 (.inl ?_)
     simp [lits, Nat.min_def]
     split <;> omega
    have := hw (Z j).length (by
     simp only [DataW.weights, ht]
     exact List.mem_cons_of_mem _ (List.mem_append_left _ (mem_weightsAll hmem hx2)))
    omega
  refine ⟨some x, len, cap, (List.range len).map (fun j => bytesIn ((Z j).take (L j))), rfl, ?_, hl, hcap, ?_⟩
  ·refine ⟨by simp, fun h0 => ?_⟩
   obtain ⟨b, o, s⟩ := x
   have h00 := (hrow 0 (by omega)).1
   obtain rfl : s = none := by simpa [Addr.add] using World.cell?_spot h00
   have hb := cell_block h00
   rw [add_none] at hb
   refine ⟨b, o, rfl, hb, fun j hj => ?_⟩
   obtain ⟨h1, h2, h3, h4, h5, h6, h7⟩ := hrow j (by omega)
   rw [add_none] at h1
   refine ⟨A j, L j, C j, h1, ?_⟩
   have e1 : ((List.range len).map (fun j => bytesIn ((Z j).take (L j)))).getD j [] = bytesIn ((Z j).take (L j)) := by
    simp [List.getD, hj]
   rw [e1]
   have hR : IsRow .u8 W (A j) (L j) (C j) (Z j) := by
    cases hA : A j with
    | none =>
     have hc0 := h6 hA
     have : Z j = [] := List.eq_nil_of_length_eq_zero (by omega)
     exact .inl ⟨rfl, by omega, hc0, this⟩
    | some a' =>
     exact .inr ⟨a', rfl, h2, h3, h4, fun i hi => (h7 a' hA).2 i (by omega), h5⟩
   exact hR.rd.1
  ·intro bs hbs
   obtain ⟨j, hj, rfl⟩ := List.mem_map.1 hbs
   have hj := List.mem_range.1 hj
   have h1 := hrows j hj
   have h2 : (bytesIn ((Z j).take (L j))).length ≤ L j := by simp [bytesIn]; omega
   exact Nat.le_trans h2 h1
theorem open_arrK {H : Type} {enc : TypeId × Value → H} {P : Program} {W : World} {r : Reach} {b0 base n : Nat} {spare : Nat → Bool} {held : Bool} {t e : TypeId} {k : IntKind} {v : Value} {d : DataW H} {ps : List MemPlace}
  (ht : P.underlying t = some (.array n e)) (he : P.underlying e = some (.int k)) (ce : P.cellsOf e = 1) (ct : P.cellsOf t = n)
  (hval : Value.okWide P W r b0 t v) (hd : DataW.Trod enc P W base spare held t v d ps) :
  ∃ zs : List Int, v = .agg (zs.map (Value.int k)).toArray ∧ zs.length = n ∧ ∀ z ∈ zs, (Lit.int k z).wf = true := by
 obtain ⟨cs, rfl, hsz⟩ : ∃ cs, v = .agg cs ∧ cs.size = P.cellsOf t := by
  simp only [Value.okWide, ht] at hval
  obtain ⟨cs, h1, h2, _⟩ := hval
  exact ⟨cs, h1, h2⟩
 obtain ⟨fuel, hf⟩ := hd
 obtain ⟨xs, m, rfl, _, hl, hxl, hx⟩ := DataW.trod_array ht hf
 simp only [Value.cells, ce, Nat.mul_one] at hx hl
 rw [ct] at hsz hl
 have hcl : cs.toList.length = n := by simpa using hsz
 have each : ∀ i (hi : i < cs.toList.length), ∃ z, cs.toList[i] = Value.int k z ∧ (Lit.int k z).wf = true := by
  intro i hi
  have h := hx i (by omega)
  rw [List.getElem?_eq_getElem (by omega)] at h
  obtain ⟨z, hz, _, hw⟩ := DataW.trod_int he h
  rw [List.drop_eq_getElem_cons hi] at hz
  simp at hz
  exact ⟨z, by simpa using hz, hw⟩
 have key : ∀ l : List Value, (∀ i (hi : i < l.length), ∃ z, l[i] = Value.int k z ∧ (Lit.int k z).wf = true) → ∃ zs : List Int, l = zs.map (Value.int k) ∧ ∀ z ∈ zs, (Lit.int k z).wf = true := by
  intro l
  induction l with
  | nil => exact fun _ => ⟨[], rfl, by simp⟩
  | cons x l ih =>
   intro h
   obtain ⟨zs, hzs, hw⟩ := ih (fun i hi => h (i + 1) (by simpa using hi))
   obtain ⟨z, hz, hwz⟩ := h 0 (by simp)
   refine ⟨z :: zs, ?_, ?_⟩
   ·simp only [List.getElem_cons_zero] at hz
    simp [hz, hzs]
   ·intro y hy
    rcases List.mem_cons.1 hy with rfl | hy
    ·exact hwz
    ·exact hw y hy
 obtain ⟨zs, hzs, hw⟩ := key cs.toList each
 refine ⟨zs, ?_, by rw [← List.length_map (f := Value.int k), ← hzs]; exact hcl, hw⟩
 rw [← hzs]
end Go.Proofs.YtffdjnhhmfpkgaaGreat