/- Several texts in one (a claim has 60 files at most): RegC, Pair. -/
import Derived.Test.YtecedmjhhaabgaaRegP
import Derived.Deep.RegionLaw
namespace Go.Proofs.Ytecedmjhhaabgaa

/- Rows of regions of the call's own: append of a slice of regions, what such a row reads as, a region stored into it. -/
section
open Go.RowKit
set_option linter.unusedVariables false
set_option linter.unusedSimpArgs false

def regsV (l : List Reg) : List Value := l.flatMap regL
theorem regsV_len (l : List Reg) : (regsV l).length = l.length * 2 := by
  induction l with
  | nil => rfl
  | cons r l ih => simp only [regsV, List.flatMap_cons, List.length_append, List.length_cons] at ih ⊢; rw [ih]; simp [regL]; omega
theorem regsV_append (l m : List Reg) : regsV (l ++ m) = regsV l ++ regsV m := by simp [regsV]
theorem regsV_at : ∀ (l : List Reg) (j : Nat), j < l.length → (regsV l)[j * 2]? = some (.int .i64 (rat l j).1) ∧ (regsV l)[j * 2 + 1]? = some (.int .i64 (rat l j).2)
  | [], j, h => absurd h (Nat.not_lt_zero _)
  | r :: l, 0, _ => by simp [regsV, regL, rat]
  | r :: l, j + 1, h => by
    have h1 := regsV_at l j (by simpa using h)
    have e1 : (regsV (r :: l))[(j + 1) * 2]? = (regsV l)[j * 2]? := by
      show (regL r ++ regsV l)[(j + 1) * 2]? = _
      rw [List.getElem?_append_right (by simp [regL]; omega)]
      congr 1; simp [regL]; omega
    have e2 : (regsV (r :: l))[(j + 1) * 2 + 1]? = (regsV l)[j * 2 + 1]? := by
      show (regL r ++ regsV l)[(j + 1) * 2 + 1]? = _
      rw [List.getElem?_append_right (by simp [regL]; omega)]
      congr 1; simp [regL]; omega
    have e3 : rat (r :: l) (j + 1) = rat l j := by simp [rat]
    rw [e1, e2, e3]; exact h1
theorem regsV_one (l : List Reg) : ∀ u ∈ regsV l, u.oneCell' = true := by
  intro u hu
  obtain ⟨r, _, hr⟩ := List.mem_flatMap.1 hu
  simp only [regL, List.mem_cons, List.not_mem_nil, or_false] at hr
  rcases hr with rfl | rfl <;> rfl

theorem RdG.of_own {w : World} {base : Nat} {T : TypeId} {A : Option Addr} {n c : Nat} {l : List Reg} (h : w.ownsRow base T 2 (.slice A n c) n (regsV l)) : RdG w w.heap.size A n l := by
  have hl : l.length = n := by have := h.1; rw [regsV_len] at this; omega
  refine ⟨hl, fun hn => ?_⟩
  obtain ⟨g, cap, hv, _, hlt⟩ := h.form hn
  have hA : A = some ⟨g, 0, none⟩ := by injection hv
  subst hA
  refine ⟨g, 0, rfl, hlt, fun j hj => ?_⟩
  obtain ⟨h1, h2⟩ := regsV_at l j (by omega)
  have c1 := h.cells (g := g) rfl (j * 2) _ h1
  have c2 := h.cells (g := g) rfl (j * 2 + 1) _ h2
  rw [addr_add] at c1 c2
  exact ⟨c1, by rw [Nat.add_assoc]; exact c2⟩
theorem own_fresh {w : World} {T : TypeId} {g : Nat} (h : w.heap[g]? = some (.cells #[] T (0, 0))) {base : Nat} (hb : base ≤ g) : w.ownsRow base T 2 (.slice (some ⟨g, 0, none⟩) 0 0) 0 (regsV []) :=
  ⟨rfl, .inr ⟨g, 0, #[], rfl, hb, h, Nat.le_refl _, Nat.zero_le _, rfl, rfl⟩⟩

theorem reg_infoR : (Try.prog.info? 40).map (fun i => (i.zero, i.size, i.bytes)) = some (some (.agg #[.int .i64 0, .int .i64 0]), 2, 16) := by kernel_rfl
/-- 'out = append(out, x...)' of regions, onto a row of the call's own. -/
theorem wpList_pushR {ops : Array Oper} {rest : List Oper} {o : Oper} {a : Act} {Q : Exit → Act → World → Prop} (hgd : o.guard = none) (s x : Operand)
    (ho : o.op = .call { callee := .builtin .append, args := #[s, x], argTypes := #[87, 87] }) {B B' k m c : Nat} {A : Option Addr} {w wr : World} {v : Value} {l news : List Reg} (hs : a.eval s = v)
    (hx : a.eval x = .slice A m c) (hown : wr.ownsRow B 40 2 v k (regsV l)) (hr : RdG wr B' A m news) (hb : Below B w wr) (hB : B ≤ wr.heap.size) (hk : k + m ≤ 8796093022208)
    (h : ∀ v' w1, w1.ownsRow B 40 2 v' (k + m) (regsV (l ++ news)) → Below B w w1 → wr.heap.size ≤ w1.heap.size → wpList Try.prog ops Q rest (a.put o.dst v') w1) : wpList Try.prog ops Q (o :: rest) a wr := by
  obtain ⟨i0, hi, hz0, hz1, hz2⟩ := info_parts reg_infoR
  have hlen : news.length = m := hr.1
  have hul := Try.underlying87
  rcases A with _ | ad
  · obtain rfl : m = 0 := by
      rcases Nat.eq_zero_or_pos m with h0 | h0
      · exact h0
      · obtain ⟨_, _, e, _⟩ := hr.2 h0; cases e
    obtain rfl : news = [] := List.eq_nil_of_length_eq_zero hlen
    have hrun : (Builtin.append_ #[87, 87] o.type #[v, .slice none 0 c]).run Try.prog wr = .ok v wr := by
      rcases hown.2 with ⟨rfl, rfl⟩ | ⟨g, cap, cur, rfl, _, _, hnc, _⟩
      · simp [Builtin.append_, run_underlying hul, sizeOf, typeInfo, hi, Builtin.lenOf, Builtin.firstCells]
      · simp [Builtin.append_, run_underlying hul, sizeOf, typeInfo, hi, Builtin.lenOf, Builtin.firstCells, hnc, storeCells]
    refine wpList_plain hgd fun K hK => ?_
    unfold Oper.wp execOp
    simp only [ho, resolve, invoke, builtin, Sem.run_bind, Sem.run_pure, Result.andThen_ok, List.map_toArray, List.map_cons, List.map_nil, hs, hx, hrun]
    exact hK _ _ (h v wr (by simpa using hown) hb (Nat.le_refl _))
  · refine wpList_append_own _ hgd s x 87 ho B 40 i0 (.agg #[.int .i64 0, .int .i64 0]) 2 16 hul hi hz0 hz1 hz2 rfl (by decide) v k _ hs hown ad m c (regsV news) hx (by rw [regsV_len, hlen]) ?_ (regsV_one _) ?_ ?_ hB ?_
    · intro j u hu
      have hj : j < m * 2 := by
        rcases Nat.lt_or_ge j (m * 2) with g | g
        · exact g
        · rw [List.getElem?_eq_none (by rw [regsV_len, hlen]; exact g)] at hu; cases hu
      obtain ⟨b, of, e, _, hc⟩ := hr.2 (by omega)
      obtain rfl : ad = ⟨b, of, none⟩ := by injection e
      obtain ⟨h1, h2⟩ := regsV_at news (j / 2) (by omega)
      obtain ⟨c1, c2⟩ := hc (j / 2) (by omega)
      rw [addr_add]
      rcases Nat.mod_two_eq_zero_or_one j with hm | hm
      · have ej : j / 2 * 2 = j := by omega
        rw [ej] at h1 c1
        rw [c1, ← h1, hu]
      · have ej : j / 2 * 2 + 1 = j := by omega
        rw [ej] at h2
        rw [Nat.add_assoc, ej] at c2
        rw [c2, ← h2, hu]
    · unfold maxLen; omega
    · omega
    · intro v' w1 hown' hgrow _
      exact h v' w1 (by rw [regsV_append]; exact hown') (hb.grown hgrow hB (fun j hj => (hown.lt j hj).1)) hgrow.size
theorem own_cap2 {w : World} {B : Nat} {T : TypeId} {A : Option Addr} {n c : Nat} {xs : List Value} (h : w.ownsRow B T 2 (.slice A n c) n xs) : n ≤ c ∧ c ≤ 9223372036854775807 := by
  rcases h.2 with ⟨h, rfl⟩ | ⟨g, cap, cur, hv, _, _, h1, h2, _⟩
  · injection h with _ _ h; omega
  · injection hv with _ _ hv; subst hv; unfold maxLen at h2; omega
theorem own_slice2 {w : World} {base : Nat} {T : TypeId} {v : Value} {n : Nat} {xs : List Value} (h : w.ownsRow base T 2 v n xs) : ∃ A c, v = .slice A n c := by
  rcases h.2 with ⟨rfl, rfl⟩ | ⟨g, cap, cur, rfl, _⟩
  · exact ⟨_, _, rfl⟩
  · exact ⟨_, _, rfl⟩
theorem own_below2 {w w' : World} {B : Nat} {T : TypeId} {v : Value} {n : Nat} {xs : List Value} (h : w.ownsRow B T 2 v n xs) (hb : Below w.heap.size w w') : w'.ownsRow B T 2 v n xs := by
  refine ⟨h.1, ?_⟩
  rcases h.2 with h | ⟨g, cap, cur, e, hg, hh, h⟩
  · exact .inl h
  · refine .inr ⟨g, cap, cur, e, hg, ?_, h⟩
    rw [hb.block g ?_]; exact hh
    exact (Array.getElem?_eq_some_iff.1 hh).1
theorem own_head2 {w : World} {B : Nat} {T : TypeId} {A : Option Addr} {n c : Nat} {xs : List Value} (h : w.ownsRow B T 2 (.slice A n c) n xs) (hn : 0 < n) : ∃ g, A = some ⟨g, 0, none⟩ ∧ B ≤ g ∧ ∀ k, w.frozen? ⟨g, k, none⟩ = false := by
  rcases h.2 with ⟨h, h0⟩ | ⟨g, cap, cur, hv, hg, hh, _⟩
  · omega
  · injection hv with hA
    exact ⟨g, hA, hg, fun k => by simp [World.frozen?, hh]⟩
/-- A region stored into a row. -/
theorem RdG.set {W : World} {B g n a : Nat} {l : List Reg} (h : RdG W B (some ⟨g, 0, none⟩) n l) (ha : a < n) (r : Reg) :
    RdG ((W.setCell ⟨g, a * 2, none⟩ (.int .i64 r.1)).setCell ⟨g, a * 2 + 1, none⟩ (.int .i64 r.2)) B (some ⟨g, 0, none⟩) n (l.set a r) := by
  refine ⟨by rw [List.length_set]; exact h.1, fun hn => ?_⟩
  obtain ⟨b, o, e, hb, hc⟩ := h.2 hn
  injection e with e
  injection e with e1 e2
  subst e1; subst e2
  refine ⟨g, 0, rfl, hb, fun j hj => ?_⟩
  obtain ⟨c1, c2⟩ := hc j hj
  rw [Nat.zero_add] at c1 c2 ⊢
  have ne : ∀ p q : Nat, p ≠ q → (⟨g, p, none⟩ : Addr) ≠ ⟨g, q, none⟩ := fun p q hpq e => hpq (by injection e)
  by_cases hja : j = a
  · subst hja
    have er : rat (l.set j r) j = r := by rw [rat_lt (by rw [List.length_set, h.1]; exact hj)]; simp
    rw [er]
    constructor
    · rw [World.cell?_setCell_other _ _ _ _ (ne _ _ (by omega))]
      exact World.cell?_setCell_same _ _ _ c1
    · refine World.cell?_setCell_same _ _ _ (u := .int .i64 (rat l j).2) ?_
      rw [World.cell?_setCell_other _ _ _ _ (ne _ _ (by omega))]; exact c2
  · have er : rat (l.set a r) j = rat l j := by
      simp only [rat, List.getD]
      rw [List.getElem?_set_ne (Ne.symm hja)]
    rw [er]
    constructor
    · rw [World.cell?_setCell_other _ _ _ _ (ne _ _ (by omega)), World.cell?_setCell_other _ _ _ _ (ne _ _ (by omega))]; exact c1
    · rw [World.cell?_setCell_other _ _ _ _ (ne _ _ (by omega)), World.cell?_setCell_other _ _ _ _ (ne _ _ (by omega))]; exact c2
end

/- Rows of the call's own: of structs of two ints (of any type), of ints: appends, what such a row reads as. The types come as letters, with the facts on them that appends want. -/
section
open Go.RowKit
set_option linter.unusedVariables false
set_option linter.unusedSimpArgs false

/-- The facts on '[]T' (T) and the struct of two ints (U). -/
structure PT (P : Program) (T U : TypeId) : Prop where
  ul : P.underlying T = some (.slice U)
  info : (P.info? U).map (fun i => (i.zero, i.size, i.bytes)) = some (some (.agg #[.int .i64 0, .int .i64 0]), 2, 16)
/-- 'out = append(out, x...)' of such structs, onto a row of the call's own. -/
theorem wpList_pushP {P : Program} {T U : TypeId} (L : PT P T U) {ops : Array Oper} {rest : List Oper} {o : Oper} {a : Act} {Q : Exit → Act → World → Prop} (hgd : o.guard = none) (s x : Operand)
    (ho : o.op = .call { callee := .builtin .append, args := #[s, x], argTypes := #[T, T] }) {B B' k m c : Nat} {A : Option Addr} {w wr : World} {v : Value} {l news : List Reg} (hs : a.eval s = v)
    (hx : a.eval x = .slice A m c) (hown : wr.ownsRow B U 2 v k (regsV l)) (hr : RdG wr B' A m news) (hb : Below B w wr) (hB : B ≤ wr.heap.size) (hk : k + m ≤ 8796093022208)
    (h : ∀ v' w1, w1.ownsRow B U 2 v' (k + m) (regsV (l ++ news)) → Below B w w1 → wr.heap.size ≤ w1.heap.size → wpList P ops Q rest (a.put o.dst v') w1) : wpList P ops Q (o :: rest) a wr := by
  obtain ⟨i0, hi, hz0, hz1, hz2⟩ := info_parts L.info
  have hlen : news.length = m := hr.1
  have hul := L.ul
  rcases A with _ | ad
  · obtain rfl : m = 0 := by
      rcases Nat.eq_zero_or_pos m with h0 | h0
      · exact h0
      · obtain ⟨_, _, e, _⟩ := hr.2 h0; cases e
    obtain rfl : news = [] := List.eq_nil_of_length_eq_zero hlen
    have hrun : (Builtin.append_ #[T, T] o.type #[v, .slice none 0 c]).run P wr = .ok v wr := by
      rcases hown.2 with ⟨rfl, rfl⟩ | ⟨g, cap, cur, rfl, _, _, hnc, _⟩
      · simp [Builtin.append_, run_underlying hul, sizeOf, typeInfo, hi, Builtin.lenOf, Builtin.firstCells]
      · simp [Builtin.append_, run_underlying hul, sizeOf, typeInfo, hi, Builtin.lenOf, Builtin.firstCells, hnc, storeCells]
    refine wpList_plain hgd fun K hK => ?_
    unfold Oper.wp execOp
    simp only [ho, resolve, invoke, builtin, Sem.run_bind, Sem.run_pure, Result.andThen_ok, List.map_toArray, List.map_cons, List.map_nil, hs, hx, hrun]
    exact hK _ _ (h v wr (by simpa using hown) hb (Nat.le_refl _))
  · refine wpList_append_own _ hgd s x T ho B U i0 (.agg #[.int .i64 0, .int .i64 0]) 2 16 hul hi hz0 hz1 hz2 rfl (by decide) v k _ hs hown ad m c (regsV news) hx (by rw [regsV_len, hlen]) ?_ (regsV_one _) ?_ ?_ hB ?_
    · intro j u hu
      have hj : j < m * 2 := by
        rcases Nat.lt_or_ge j (m * 2) with g | g
        · exact g
        · rw [List.getElem?_eq_none (by rw [regsV_len, hlen]; exact g)] at hu; cases hu
      obtain ⟨b, of, e, _, hc⟩ := hr.2 (by omega)
      obtain rfl : ad = ⟨b, of, none⟩ := by injection e
      obtain ⟨h1, h2⟩ := regsV_at news (j / 2) (by omega)
      obtain ⟨c1, c2⟩ := hc (j / 2) (by omega)
      rw [addr_add]
      rcases Nat.mod_two_eq_zero_or_one j with hm | hm
      · have ej : j / 2 * 2 = j := by omega
        rw [ej] at h1 c1
        rw [c1, ← h1, hu]
      · have ej : j / 2 * 2 + 1 = j := by omega
        rw [ej] at h2
        rw [Nat.add_assoc, ej] at c2
        rw [c2, ← h2, hu]
    · unfold maxLen; omega
    · omega
    · intro v' w1 hown' hgrow _
      exact h v' w1 (by rw [regsV_append]; exact hown') (hb.grown hgrow hB (fun j hj => (hown.lt j hj).1)) hgrow.size
/-- The same at a step of a region that draws; at least one struct. -/
theorem step_pushP {P : Program} {T U : TypeId} (L : PT P T U) {ops : Array Oper} {o : Oper} {a : Act} {K : Act → World → Prop} {Q : Exit → Act → World → Prop} {E : Prop} (hgd : o.guard = none) (s x : Operand)
    (ho : o.op = .call { callee := .builtin .append, args := #[s, x], argTypes := #[T, T] }) {B B' n m c : Nat} {A : Option Addr} {w wx : World} {v : Value} {l news : List Reg} (hs : a.eval s = v)
    (hx : a.eval x = .slice A m c) (hm : 0 < m) (hown : wx.ownsRow B U 2 v n (regsV l)) (hr : RdG wx B' A m news) (hb : Below B w wx) (hB : B ≤ wx.heap.size) (hk : n + m ≤ 8796093022208)
    (h : ∀ v' w1, w1.ownsRow B U 2 v' (n + m) (regsV (l ++ news)) → Below B w w1 → wx.heap.size ≤ w1.heap.size → K (a.put o.dst v') w1) :
    if Region.wanted o (yielded ops a.tmps) = true then Oper.wp P o a wx K Q else E := by
  obtain ⟨i0, hi, hz0, hz1, hz2⟩ := info_parts L.info
  obtain ⟨b, of, rfl, _, hc⟩ := hr.2 hm
  have hlen : news.length = m := hr.1
  refine step_append_lies wx hgd s x T ho B U i0 (.agg #[.int .i64 0, .int .i64 0]) 2 16 L.ul hi hz0 hz1 hz2 rfl (by decide) v n _ hs hown ⟨b, of, none⟩ m c (regsV news) hx (by rw [regsV_len, hlen]) ?_ (regsV_one _) hm ?_ ?_ hB _ rfl ?_
  · intro j u hu
    have hj : j < m * 2 := by
      rcases Nat.lt_or_ge j (m * 2) with g | g
      · exact g
      · rw [List.getElem?_eq_none (by rw [regsV_len, hlen]; exact g)] at hu; cases hu
    obtain ⟨h1, h2⟩ := regsV_at news (j / 2) (by omega)
    obtain ⟨c1, c2⟩ := hc (j / 2) (by omega)
    rw [addr_add]
    rcases Nat.mod_two_eq_zero_or_one j with hm' | hm'
    · have ej : j / 2 * 2 = j := by omega
      rw [ej] at h1 c1
      rw [c1, ← h1, hu]
    · have ej : j / 2 * 2 + 1 = j := by omega
      rw [ej] at h2
      rw [Nat.add_assoc, ej] at c2
      rw [c2, ← h2, hu]
  · unfold maxLen; omega
  · omega
  · intro g' cap w1 hown' hgrow _ _
    exact h _ w1 (by rw [regsV_append]; exact hown') (hb.grown hgrow hB (fun j hj => (hown.lt j hj).1)) hgrow.size

theorem pt_size {P : Program} {T U : TypeId} (L : PT P T U) (w : World) : (sizeOf U).run P w = .ok 2 w := by
  obtain ⟨i0, hi, hz0, hz1, hz2⟩ := info_parts L.info
  simp [sizeOf, typeInfo, hi, hz1]
theorem pt_elem {P : Program} {T U : TypeId} (L : PT P T U) : P.elem T = U := by simp [Program.elem, L.ul]
theorem rat_take {l : List Reg} {j h : Nat} (hj : j < h) : rat (l.take h) j = rat l j := by simp [rat, List.getD, hj]
theorem rat_drop (l : List Reg) (j k : Nat) : rat (l.drop k) j = rat l (k + j) := by simp [rat, List.getD, List.getElem?_drop]
/-- a[:h] -/
theorem sliceP_h {P : Program} {T U : TypeId} (L : PT P T U) (A : Option Addr) {n c h : Nat} (h2 : h ≤ n) (hc : n ≤ c) :
    (∀ (k' : IntKind) (w : World), (Instr.slice T (.slice A n c) none (some (.int k' (h : Int))) none).run P w = .ok (.slice A h c) w) ∧ ∀ (w : World) (B : Nat) (l : List Reg), RdG w B A n l → RdG w B A h (l.take h) := by
  refine ⟨fun k' w => ?_, fun w B l hr => ?_⟩
  · rw [run_slice_h (ht := by rw [pt_elem L]; exact L.ul) (kh := k') (h := (h : Int)) (h0 := by omega) (h2 := by omega), pt_elem L, pt_size L]
    simp only [Result.andThen, sliced]
    congr 1
    cases A with
    | none => simp
    | some a => simp [show ∀ a : Addr, a.add 0 = a from fun a => by unfold Addr.add; split <;> simp_all]
  · refine ⟨by rw [List.length_take, hr.1]; omega, fun h0 => ?_⟩
    obtain ⟨b, o, rfl, hb, hc'⟩ := hr.2 (by omega)
    exact ⟨b, o, rfl, hb, fun j hj => by rw [rat_take hj]; exact hc' j (by omega)⟩
/-- a[l:] -/
theorem sliceP_l {P : Program} {T U : TypeId} (L : PT P T U) (A : Option Addr) {n c l : Nat} (h2 : l ≤ n) (hc : n ≤ c) :
    ∃ A' c', (∀ (k : IntKind) (w : World), (Instr.slice T (.slice A n c) (some (.int k (l : Int))) none none).run P w = .ok (.slice A' (n - l) c') w) ∧
      (∀ (w : World) (B : Nat) (x : List Reg), RdG w B A n x → RdG w B A' (n - l) (x.drop l)) ∧ n - l ≤ c' ∧ c' ≤ c := by
  refine ⟨if c = l then A else A.map (·.add (l * 2)), c - l, fun k w => ?_, fun w B x hr => ?_, by omega, by omega⟩
  · rw [run_slice_l (ht := by rw [pt_elem L]; exact L.ul) (kl := k) (l := (l : Int)) (h0 := by omega) (h1 := by omega), pt_elem L, pt_size L]
    simp [Result.andThen, sliced]
  · refine ⟨by rw [List.length_drop, hr.1], fun h0 => ?_⟩
    obtain ⟨b, o, rfl, hb, hc'⟩ := hr.2 (by omega)
    refine ⟨b, o + l * 2, ?_, hb, fun j hj => ?_⟩
    · rw [if_neg (by omega)]
      simp only [Option.map_some, addr_add]
    · rw [rat_drop]
      have := hc' (l + j) (by omega)
      rw [show o + l * 2 + j * 2 = o + (l + j) * 2 by omega]
      exact this

/-- An int as a value; the int at place j. -/
def iv (x : Int) : Value := .int .i64 x
def zat (xs : List Int) (j : Nat) : Int := xs.getD j 0
theorem zat_of_lt {xs : List Int} {j : Nat} (h : j < xs.length) : zat xs j = xs[j] := by simp [zat, List.getD, List.getElem?_eq_getElem h]
/-- A slice of ints reads as xs. -/
def RdZ (w : World) (B : Nat) (A : Option Addr) (n : Nat) (xs : List Int) : Prop :=
  xs.length = n ∧ (0 < n → ∃ b o, A = some ⟨b, o, none⟩ ∧ b < B ∧ ∀ j, j < n → w.cell? ⟨b, o + j, none⟩ = some (.int .i64 (zat xs j)))
theorem RdZ.nil (w : World) (B : Nat) (A : Option Addr) : RdZ w B A 0 [] := ⟨rfl, fun h => absurd h (Nat.lt_irrefl 0)⟩
theorem RdZ.below {w w' : World} {B n : Nat} {A : Option Addr} {xs : List Int} (h : RdZ w B A n xs) (hb : Below B w w') : RdZ w' B A n xs :=
  ⟨h.1, fun hn => by
    obtain ⟨b, o, e, hB, hc⟩ := h.2 hn
    exact ⟨b, o, e, hB, fun j hj => (hb.cell (by exact hB)).trans (hc j hj)⟩⟩
theorem RdZ.more {w : World} {B B' n : Nat} {A : Option Addr} {xs : List Int} (h : RdZ w B A n xs) (hB : B ≤ B') : RdZ w B' A n xs :=
  ⟨h.1, fun hn => by
    obtain ⟨b, o, e, hb, hc⟩ := h.2 hn
    exact ⟨b, o, e, by omega, hc⟩⟩
theorem RdZ.to {w w' : World} {n : Nat} {A : Option Addr} {xs : List Int} (h : RdZ w w.heap.size A n xs) (hb : Below w.heap.size w w') : RdZ w' w'.heap.size A n xs := (h.below hb).more hb.size
theorem RdZ.drewN {w : World} {B n : Nat} {A : Option Addr} {xs : List Int} (h : RdZ w B A n xs) (k : Nat) : RdZ (w.drewN k) B A n xs := h
theorem RdZ.of_own {w : World} {base : Nat} {T : TypeId} {A : Option Addr} {n c : Nat} {xs : List Int} (h : w.ownsRow base T 1 (.slice A n c) n (xs.map iv)) : RdZ w w.heap.size A n xs := by
  have hl : xs.length = n := by simpa using h.1
  refine ⟨hl, fun hn => ?_⟩
  obtain ⟨g, cap, hv, _, hlt⟩ := h.form hn
  have hA : A = some ⟨g, 0, none⟩ := by injection hv
  subst hA
  refine ⟨g, 0, rfl, hlt, fun j hj => ?_⟩
  have hj' : j < xs.length := by omega
  have := h.cells (g := g) rfl j (iv xs[j]) (by simp [List.getElem?_eq_getElem hj'])
  rw [zat_of_lt hj']
  rw [addr_add] at this
  exact this
/-- What a function hands back: a row of ints in memory of its own. -/
def RetZ (T : TypeId) (w : World) (xs : List Int) (e : Ending) (w' : World) : Prop :=
  ∃ A n c, e = .returned (.slice A n c) ∧ w'.ownsRow w.heap.size T 1 (.slice A n c) n (xs.map iv) ∧ Below w.heap.size w w'
theorem RetZ.mk {T : TypeId} {w w' : World} {xs : List Int} {v : Value} {n : Nat} (h : w'.ownsRow w.heap.size T 1 v n (xs.map iv)) (hb : Below w.heap.size w w') : RetZ T w xs (.returned v) w' := by
  obtain ⟨A, c, rfl⟩ := own_slice h
  exact ⟨A, n, c, rfl, h, hb⟩
/-- The facts on '[]int' (T) and int (U). -/
structure ZT (P : Program) (T U : TypeId) : Prop where
  ul : P.underlying T = some (.slice U)
  info : (P.info? U).map (fun i => (i.zero, i.size, i.bytes)) = some (some (.int .i64 0), 1, 8)
/-- 'out = append(out, z)' of one int, onto a row of the call's own. -/
theorem wpList_pushZ {P : Program} {T U : TypeId} (L : ZT P T U) {ops : Array Oper} {rest : List Oper} {o : Oper} {a : Act} {Q : Exit → Act → World → Prop} (hgd : o.guard = none) (s x : Operand)
    (ho : o.op = .call { callee := .builtin .append, args := #[s, x], argTypes := #[T, T] }) {B n : Nat} {w wr : World} {v : Value} {xs : List Int} {z : Int} (hs : a.eval s = v)
    (hx : a.eval x = .slice (some ⟨wr.heap.size, 0, none⟩) 1 1) (hown : wr.ownsRow B U 1 v n (xs.map iv)) (hb : Below B w wr) (hB : B ≤ wr.heap.size) (hk : n + 1 ≤ 17592186044416)
    (h : ∀ v' w1, w1.ownsRow B U 1 v' (n + 1) ((xs ++ [z]).map iv) → Below B w w1 → wr.heap.size ≤ w1.heap.size → wpList P ops Q rest (a.put o.dst v') w1) : wpList P ops Q (o :: rest) a (wr.alloc (.cells #[.int .i64 z] U)) := by
  obtain ⟨i0, hi, hz0, hz1, hz2⟩ := info_parts L.info
  refine wpList_append_own _ hgd s x T ho B U i0 (.int .i64 0) 1 8 L.ul hi hz0 hz1 hz2 rfl (by decide) v n _ hs (hown.alloc _) ⟨wr.heap.size, 0, none⟩ 1 1 [.int .i64 z] hx rfl (cell_one_new _ _ _) ?_ ?_ ?_ ?_ ?_
  · intro u hu; simp at hu; subst hu; rfl
  · unfold maxLen; omega
  · omega
  · simp; omega
  · intro v' w1 hown' hgrow _
    have hz' := hgrow.size
    simp at hz'
    refine h v' w1 (by rw [List.map_append]; exact hown') ((hb.alloc hB _).grown hgrow (by simp; omega) (fun j hj => (hown.lt j hj).1)) (by omega)
end
end Go.Proofs.Ytecedmjhhaabgaa
