/- Rows of bytes: how they come in with their capacities; 'append(all, l...)' of rows. -/
import Derived.Test.YtgkmkkfnpoapfaaDoorShaI
import Derived.Test.YtgkmkkfnpoapfaaDoorOpen
namespace Go.Proofs.YtgkmkkfnpoapfaaDoor
open Go.RowKit Go.ChangeShapes Go.WideShapes Go.Deep
set_option linter.unusedVariables false

theorem open_rowsC {H : Type} {enc : TypeId × Value → H} {P : Program} {W : World} {r : Reach} {b0 base : Nat} {held : Bool} {t e q : TypeId} {v : Value} {d : DataW H} {ps : List MemPlace}
    (ht : P.underlying t = some (.slice e)) (he : P.underlying e = some (.slice q)) (hq : P.underlying q = some (.int .u8)) (ce : P.cellsOf e = 1) (cq : P.cellsOf q = 1) (be : P.bytesOf e = 24) (bq : P.bytesOf q = 1)
    (hval : Value.okWide P W r b0 t v) (hd : DataW.Trod enc P W base (fun _ => true) held t v d ps) (hw : ∀ x ∈ d.weights P t, x ≤ reachBytes) :
    ∃ a len cap bss, v = .slice a len cap ∧ RdS W W.heap.size a len bss ∧ len ≤ cap ∧ cap * 24 ≤ 140737488351232 ∧ (∀ bs ∈ bss, bs.length ≤ 140737488351232) ∧ CapS W a len := by
  obtain ⟨a, len, cap, bss, rfl, h1, h2, h3, h4⟩ := open_rowsS ht he hq ce cq be bq hval hd hw
  refine ⟨a, len, cap, bss, rfl, h1, h2, h3, h4, fun b o e1 j hj A1 n1 c1 hc => ?_⟩
  subst e1
  obtain ⟨fuel, hf⟩ := hd
  rcases open_int_rows ht he hq ce cq hf with ⟨hcs, _⟩ | ⟨x, l, c, A, L, C, Z, hcs, hbx, hl, hm, hx, hrow⟩
  · simp [Value.cells] at hcs
  · simp [Value.cells] at hcs
    obtain ⟨rfl, rfl, rfl⟩ := hcs
    obtain ⟨g1, g2, g3, _⟩ := hrow j (by omega)
    rw [add_none, hc] at g1
    injection g1 with g1
    injection g1 with _ g4 g5
    subst g4; subst g5
    exact ⟨g2, by unfold maxLen at g3; omega⟩

theorem rowsE_info : (Tryd.prog.info? 22).map (fun i => (i.zero, i.size, i.bytes)) = some (some (.slice none 0 0), 1, 24) := by kernel_rfl
/-- 'append(all, l...)' of rows, none or more. -/
theorem wpList_appendRows {ops : Array Oper} {rest : List Oper} {o : Oper} {a : Act} {Q : Exit → Act → World → Prop} (hgd : o.guard = none) (s x : Operand)
    (ho : o.op = .call { callee := .builtin .append, args := #[s, x], argTypes := #[46, 46] }) {B k n c : Nat} {A : Option Addr} {w wr : World} {v : Value} {xs news : List Value} (hs : a.eval s = v)
    (hx : a.eval x = .slice A n c) (hown : wr.ownsRow B 22 1 v k xs) (hl : news.length = n) (hnews : 0 < n → ∃ b o', A = some ⟨b, o', none⟩ ∧ ∀ j u, news[j]? = some u → wr.cell? ⟨b, o' + j, none⟩ = some u)
    (h1 : ∀ u ∈ news, u.oneCell' = true) (hb : Below B w wr) (hB : B ≤ wr.heap.size) (hk : k + n ≤ 1000)
    (h : ∀ v' w1, w1.ownsRow B 22 1 v' (k + n) (xs ++ news) → Below B w w1 → wr.heap.size ≤ w1.heap.size → wpList Tryd.prog ops Q rest (a.put o.dst v') w1) : wpList Tryd.prog ops Q (o :: rest) a wr := by
  obtain ⟨i0, hi, hz0, hz1, hz2⟩ := info_parts rowsE_info
  rcases A with _ | ad
  · obtain rfl : n = 0 := by
      rcases Nat.eq_zero_or_pos n with h0 | h0
      · exact h0
      · obtain ⟨_, _, e, _⟩ := hnews h0; cases e
    obtain rfl : news = [] := List.eq_nil_of_length_eq_zero hl
    have hul := Tryd.underlying46
    have hrun : (Builtin.append_ #[46, 46] o.type #[v, .slice none 0 c]).run Tryd.prog wr = .ok v wr := by
      rcases hown.2 with ⟨rfl, rfl⟩ | ⟨g, cap, cur, rfl, _, _, hnc, _⟩
      · simp [Builtin.append_, run_underlying hul, sizeOf, typeInfo, hi, Builtin.lenOf, Builtin.firstCells]
      · simp [Builtin.append_, run_underlying hul, sizeOf, typeInfo, hi, Builtin.lenOf, Builtin.firstCells, hnc, storeCells]
    refine wpList_plain hgd fun K hK => ?_
    unfold Oper.wp execOp
    simp only [ho, resolve, invoke, builtin, Sem.run_bind, Sem.run_pure, Result.andThen_ok, List.map_toArray, List.map_cons, List.map_nil, hs, hx, hrun]
    exact hK _ _ (h v wr (by simpa using hown) hb (Nat.le_refl _))
  · refine wpList_append_own _ hgd s x _ ho B 22 i0 (.slice none 0 0) 1 24 Tryd.underlying46 hi hz0 hz1 hz2 rfl (by decide) v k _ hs hown ad n c news hx (by simpa using hl) ?_ h1 ?_ ?_ hB ?_
    · intro j u hu
      have hj : j < n := by
        rcases Nat.lt_or_ge j n with g | g
        · exact g
        · rw [List.getElem?_eq_none (by omega)] at hu; cases hu
      obtain ⟨b, of, e, hc⟩ := hnews (by omega)
      obtain rfl : ad = ⟨b, of, none⟩ := by injection e
      rw [add_none]
      exact hc j u hu
    · unfold maxLen; omega
    · omega
    · intro v' w1 hown' hgrow _
      exact h v' w1 hown' (hb.grown hgrow hB (fun j hj => (hown.lt j hj).1)) hgrow.size
/-- The rows' slice values. -/
theorem rows_vals {w : World} {b o n : Nat} {bss : List (List UInt8)} (h : RdS w w.heap.size (some ⟨b, o, none⟩) n bss) (hc : CapS w (some ⟨b, o, none⟩) n) :
    ∃ vs : List Value, vs.length = n ∧ (∀ j u, vs[j]? = some u → w.cell? ⟨b, o + j, none⟩ = some u) ∧ ∀ j, j < n → ∃ A1 n1 c1, vs[j]? = some (.slice A1 n1 c1) ∧ Rd w w.heap.size A1 n1 (bss.getD j []) ∧ n1 ≤ c1 ∧ c1 ≤ 9223372036854775807 := by
  by_cases hn : n = 0
  · subst hn
    exact ⟨[], rfl, fun j u hu => by simp at hu, fun j hj => absurd hj (Nat.not_lt_zero j)⟩
  · obtain ⟨b', o', e, hb, hrow⟩ := h.2 (by omega)
    injection e with e
    injection e with e1 e2
    subst e1; subst e2
    have hv : ∀ j, j < n → ((List.range n).map fun j => (w.cell? ⟨b, o + j, none⟩).getD (.bool false))[j]? = w.cell? ⟨b, o + j, none⟩ := fun j hj => by
      obtain ⟨A1, n1, c1, h1, _⟩ := hrow j hj
      simp [hj, h1]
    refine ⟨(List.range n).map fun j => (w.cell? ⟨b, o + j, none⟩).getD (.bool false), by simp, fun j u hu => ?_, fun j hj => ?_⟩
    · have hj : j < n := by
        rcases Nat.lt_or_ge j n with g | g
        · exact g
        · rw [List.getElem?_eq_none (by simpa using g)] at hu; cases hu
      rw [← hv j hj]; exact hu
    · obtain ⟨A1, n1, c1, h1, h2⟩ := hrow j hj
      obtain ⟨h3, h4⟩ := hc b o rfl j hj A1 n1 c1 h1
      exact ⟨A1, n1, c1, by rw [hv j hj]; exact h1, h2, h3, h4⟩
/-- A row of slice values of the call's own reads as rows. -/
theorem rows_own {w : World} {B g n c : Nat} {vs : List Value} {bss : List (List UInt8)} (h : w.ownsRow B 22 1 (.slice (some ⟨g, 0, none⟩) n c) n vs) (hl : bss.length = n)
    (hv : ∀ j, j < n → ∃ A1 n1 c1, vs[j]? = some (.slice A1 n1 c1) ∧ Rd w w.heap.size A1 n1 (bss.getD j []) ∧ n1 ≤ c1 ∧ c1 ≤ 9223372036854775807) :
    RdS w w.heap.size (some ⟨g, 0, none⟩) n bss ∧ CapS w (some ⟨g, 0, none⟩) n := by
  have hlt : 0 < n → g < w.heap.size := fun h0 => by
    obtain ⟨g', cap, hv', _, hlt⟩ := h.form h0
    simp only [Value.slice.injEq, Option.some.injEq, Addr.mk.injEq, and_true] at hv'
    obtain ⟨rfl, _⟩ := hv'
    exact hlt
  refine ⟨⟨hl, fun h0 => ⟨g, 0, rfl, hlt h0, fun j hj => ?_⟩⟩, fun b o e j hj A1 n1 c1 hc => ?_⟩
  · obtain ⟨A1, n1, c1, h1, h2, _⟩ := hv j hj
    refine ⟨A1, n1, c1, ?_, h2⟩
    rw [Nat.zero_add, h.cellAt j (by omega)]; exact h1
  · injection e with e
    injection e with e1 e2
    subst e1; subst e2
    obtain ⟨A2, n2, c2, h1, _, h3, h4⟩ := hv j hj
    rw [Nat.zero_add, h.cellAt j (by omega), h1] at hc
    injection hc with hc
    injection hc with _ h6 h7
    subst h6; subst h7
    exact ⟨h3, h4⟩

/-- A slice of bytes that comes in takes fewer than 2^47 bytes. -/
theorem open_u8z {H : Type} {enc : TypeId × Value → H} {P : Program} {W : World} {r : Reach} {b0 base : Nat} {held : Bool} {t e : TypeId} {v : Value} {d : DataW H} {ps : List MemPlace}
    (ht : P.underlying t = some (.slice e)) (he : P.underlying e = some (.int .u8)) (ce : P.cellsOf e = 1) (be : P.bytesOf e = 1)
    (hval : Value.okWide P W r b0 t v) (hd : DataW.Trod enc P W base (fun _ => true) held t v d ps) (hw : ∀ x ∈ d.weights P t, x ≤ reachBytes) :
    ∃ a len cap zs, v = .slice a len cap ∧ IsRow .u8 W a len cap zs ∧ cap ≤ 140737488351232 := by
  obtain ⟨a, len, cap, rfl⟩ := okWide_slice ht hval
  obtain ⟨fuel, hf⟩ := hd
  rcases open_ints ht he ce hf with ⟨hcs, _⟩ | ⟨x, l, c, zs, hcs, hb, hl, hm, hz, hx, hcell, hwz⟩
  · simp [Value.cells] at hcs
    obtain ⟨rfl, rfl, rfl⟩ := hcs
    exact ⟨none, 0, 0, [], rfl, .inl ⟨rfl, rfl, rfl, rfl⟩, by omega⟩
  · simp [Value.cells] at hcs
    obtain ⟨rfl, rfl, rfl⟩ := hcs
    have hz' : zs.length = cap := by simpa using hz
    have hdd := congrArg Prod.fst hx
    simp only at hdd
    subst hdd
    have h := hw (zs.length) (by
      simp only [DataW.weights, ht, be]
      refine List.mem_cons.2 (.inl ?_)
      simp [lits]
      omega)
    exact ⟨some x, len, cap, zs, rfl, .inr ⟨_, rfl, hl, hm, hz', hcell, hwz⟩, by unfold reachBytes at h; omega⟩
end Go.Proofs.YtgkmkkfnpoapfaaDoor
