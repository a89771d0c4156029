/- A configuration of the call's own that is written into: a cell of a partition, an element less. (VaC's words, for the layers from 13 on: never beside VaC, VaX.) -/
import Derived.Test.YtecedmjhhaabgaaCfWq
import Derived.Test.YtecedmjhhaabgaaVaNq
namespace Go.Proofs.Ytecedmjhhaabgaa
open Go.RowKit
set_option linter.unusedVariables false
set_option linter.unusedSimpArgs false

theorem flat_cell {α : Type} (f : α → List Value) {z j : Nat} {u : Value} (hz : ∀ x, (f x).length = z) (hj : j < z) {x' : α} : ∀ (l : List α) (k : Nat) (hk : k < l.length), f x' = (f l[k]).set j u → (l.set k x').flatMap f = (l.flatMap f).set (k * z + j) u
  | [], k, h, _ => absurd h (Nat.not_lt_zero _)
  | a :: l, 0, _, e => by
    simp only [List.set_cons_zero, List.flatMap_cons, Nat.zero_mul, Nat.zero_add]
    rw [List.set_append_left _ _ (by rw [hz]; exact hj)]
    simp only [List.getElem_cons_zero] at e
    rw [e]
  | a :: l, k + 1, h, e => by
    simp only [List.set_cons_succ, List.flatMap_cons]
    have e1 : (k + 1) * z + j = z + (k * z + j) := by rw [Nat.succ_mul]; omega
    rw [flat_cell f hz hj l k (by simpa using h) (by simpa using e), e1, List.set_append_right _ _ (by rw [hz]; omega), hz]
    congr 2
    omega
theorem own_cellV {w : World} {B z : Nat} {T : TypeId} {g n c i : Nat} {xs : List Value} (h : w.ownsRow B T z (.slice (some ⟨g, 0, none⟩) n c) n xs) (hi : i < n * z) (u : Value) :
    (w.setCell ⟨g, i, none⟩ u).ownsRow B T z (.slice (some ⟨g, 0, none⟩) n c) n (xs.set i u) := by
  rcases h.2 with ⟨e, _⟩ | ⟨g', cap, cur, e, hB, hh, hnc, hcm, hcs, htk⟩
  · cases e
  · simp only [Value.slice.injEq, Option.some.injEq, Addr.mk.injEq, and_true, true_and] at e
    obtain ⟨rfl, rfl⟩ := e
    have hb : Bx w g T cur.toList := by show w.heap[g]? = _; rw [hh]
    have h2 := hb.set i u
    refine ⟨by rw [List.length_set]; exact h.1, .inr ⟨g, c, _, rfl, hB, h2, hnc, hcm, ?_, ?_⟩⟩
    · simp only [List.size_toArray, List.length_set, Array.length_toList]; exact hcs
    · show (cur.toList.set i u).take (n * z) = _
      rw [← htk, List.take_set]
/-- The front of a row of the call's own. -/
theorem own_frontV {w : World} {B z : Nat} {T : TypeId} {g n c k : Nat} {xs : List Value} (h : w.ownsRow B T z (.slice (some ⟨g, 0, none⟩) n c) n xs) (hk : k ≤ n) :
    w.ownsRow B T z (.slice (some ⟨g, 0, none⟩) k c) k (xs.take (k * z)) := by
  have hkz : k * z ≤ n * z := Nat.mul_le_mul_right z hk
  rcases h.2 with ⟨e, _⟩ | ⟨g', cap, cur, e, hB, hh, hnc, hcm, hcs, htk⟩
  · cases e
  · simp only [Value.slice.injEq, Option.some.injEq, Addr.mk.injEq, and_true, true_and] at e
    obtain ⟨rfl, rfl⟩ := e
    refine ⟨by rw [List.length_take, h.1]; omega, .inr ⟨g, c, cur, rfl, hB, hh, Nat.le_trans hk hnc, hcm, hcs, ?_⟩⟩
    rw [← htk, List.take_take, Nat.min_eq_left hkz]
theorem wp_makeRun {P : Program} {op : Oper} {a : Act} {w w' : World} {K : Act → World → Prop} {Q : Exit → Act → World → Prop} (t : TypeId) (l c : Operand) (ho : op.op = .makeSlice t l c) {lv cv v : Value} (hl : a.eval l = lv) (hc : a.eval c = cv)
    (hrun : (Instr.makeSlice t lv cv).run P w = .ok v w') (h : K (a.put op.dst v) w') : op.wp P a w K Q := by
  unfold Oper.wp
  simp [execOp, ho, hl, hc, hrun, Result.andThen]
  exact h
theorem run_makeU (n : Nat) (hn : n ≤ 100000) (w : World) : ∃ w5, (Instr.makeSlice 41 (.int .i64 (n : Int)) (.int .i64 (n : Int))).run Try.prog w = .ok (.slice (some ⟨w.heap.size, 0, none⟩) n n) w5 ∧ w5.ownsRow w.heap.size 5 1 (.slice (some ⟨w.heap.size, 0, none⟩) n n) n ((List.replicate n (0 : UInt8)).map bval) ∧ Below w.heap.size w w5 := by
  obtain ⟨i0, hi, hz0, hz1, hz2⟩ := info_parts isU8.info
  obtain ⟨w5, hrun, hown, hg⟩ := run_make_full (P := Try.prog) w w.heap.size 41 5 i0 (.int .u8 0) 1 Try.underlying41 hi hz0 hz1 .i64 .i64 n (by rw [hz2]; omega) (by unfold maxLen; omega) (Nat.le_refl _)
  have e : (madeCells (Value.int .u8 0).cells (n * 1)).toList = (List.replicate n (0 : UInt8)).map bval := by
    rw [Nat.mul_one, List.map_replicate]
    exact toList_madeCells_one _ _
  rw [e] at hown
  exact ⟨w5, hrun, hown, (Below.refl _ _).grown hg (Nat.le_refl _) (fun k hk => by cases hk)⟩
theorem step_makeRun {P : Program} {ops : Array Oper} {o : Oper} {a : Act} {w w' : World} {K : Act → World → Prop} {Q : Exit → Act → World → Prop} {E : Prop} (hgd : o.guard = none) (t : TypeId) (l c : Operand) (ho : o.op = .makeSlice t l c) {lv cv v : Value} (hl : a.eval l = lv) (hc : a.eval c = cv)
    (hrun : (Instr.makeSlice t lv cv).run P w = .ok v w') (h : K (a.put o.dst v) w') : if Region.wanted o (yielded ops a.tmps) = true then Oper.wp P o a w K Q else E := by
  have hw : Region.wanted o (yielded ops a.tmps) = true := by simp [Region.wanted, hgd]
  rw [if_pos hw]
  exact wp_makeRun t l c ho hl hc hrun h
theorem vt_size {P : Program} {T U : TypeId} {z b : Nat} {zv : Value} (L : VT P T U z b zv) (w : World) : (sizeOf U).run P w = .ok z w := by
  obtain ⟨i0, hi, hz0, hz1, hz2⟩ := info_parts L.info
  simp [sizeOf, typeInfo, hi, hz1]
theorem vt_elem {P : Program} {T U : TypeId} {z b : Nat} {zv : Value} (L : VT P T U z b zv) : P.elem T = U := by simp [Program.elem, L.ul]
/-- a[:h] -/
theorem sliceV_h {P : Program} {T U : TypeId} {z b : Nat} {zv : Value} (L : VT P T U z b zv) (A : Option Addr) {n c h : Nat} (h2 : h ≤ n) (hc : n ≤ c) (k' : IntKind) (w : World) :
    (Instr.slice T (.slice A n c) none (some (.int k' (h : Int))) none).run P w = .ok (.slice A h c) w := by
  rw [run_slice_h (ht := by rw [vt_elem L]; exact L.ul) (kh := k') (h := (h : Int)) (h0 := by omega) (h2 := by omega), vt_elem L, vt_size L]
  simp only [Result.andThen, sliced]
  congr 1
  cases A with
  | none => simp
  | some a => simp [show ∀ a : Addr, a.add 0 = a from fun a => by unfold Addr.add; split <;> simp_all]
/-- a[l:] of a row of the call's own: some slice whose cells are those of the row's end. -/
theorem own_tailV {P : Program} {T U : TypeId} {z b : Nat} {zv : Value} (L : VT P T U z b zv) {w : World} {B g n c l : Nat} {xs : List Value} (h : w.ownsRow B U z (.slice (some ⟨g, 0, none⟩) n c) n xs) (hl : l ≤ n) :
    ∃ A' c', (∀ (k : IntKind) (W : World), (Instr.slice T (.slice (some ⟨g, 0, none⟩) n c) (some (.int k (l : Int))) none none).run P W = .ok (.slice A' (n - l) c') W) ∧
      (0 < n - l → ∃ ad, A' = some ad ∧ ∀ j u, (xs.drop (l * z))[j]? = some u → w.cell? (ad.add j) = some u) := by
  obtain ⟨_, hnc, _⟩ := own_capV h
  refine ⟨if c = l then some ⟨g, 0, none⟩ else some ⟨g, l * z, none⟩, c - l, fun k W => ?_, fun h0 => ?_⟩
  · rw [run_slice_l (ht := by rw [vt_elem L]; exact L.ul) (kl := k) (l := (l : Int)) (h0 := by omega) (h1 := by omega), vt_elem L, vt_size L]
    simp [Result.andThen, sliced, cell_none]
  · rw [if_neg (by omega)]
    refine ⟨_, rfl, fun j u hu => ?_⟩
    rw [List.getElem?_drop] at hu
    have := h.cells (g := g) rfl _ _ hu
    rw [cell_none] at this ⊢
    rw [← this]
    congr 2
    omega
theorem flat_take {α : Type} (f : α → List Value) {z : Nat} (hz : ∀ x, (f x).length = z) : ∀ (l : List α) (k : Nat), (l.flatMap f).take (k * z) = (l.take k).flatMap f
  | [], k => by simp
  | a :: l, 0 => by simp
  | a :: l, k + 1 => by
    have e1 : (k + 1) * z = z + k * z := by rw [Nat.succ_mul]; omega
    rw [List.flatMap_cons, List.take_succ_cons, List.flatMap_cons, List.take_append, hz, e1, List.take_of_length_le (by rw [hz]; omega), show z + k * z - z = k * z by omega, flat_take f hz l k]
theorem flat_drop {α : Type} (f : α → List Value) {z : Nat} (hz : ∀ x, (f x).length = z) : ∀ (l : List α) (k : Nat), (l.flatMap f).drop (k * z) = (l.drop k).flatMap f
  | [], k => by simp
  | a :: l, 0 => by simp
  | a :: l, k + 1 => by
    have e1 : (k + 1) * z = z + k * z := by rw [Nat.succ_mul]; omega
    rw [List.flatMap_cons, List.drop_succ_cons, List.drop_append, hz, e1, List.drop_of_length_le (by rw [hz]; omega), show z + k * z - z = k * z by omega, flat_drop f hz l k, List.nil_append]
theorem flat_erase {α : Type} (f : α → List Value) {z : Nat} (hz : ∀ x, (f x).length = z) (l : List α) (k : Nat) : (l.flatMap f).take (k * z) ++ (l.flatMap f).drop ((k + 1) * z) = (l.eraseIdx k).flatMap f := by
  rw [flat_take f hz, flat_drop f hz, ← List.flatMap_append, List.eraseIdx_eq_take_drop_succ]
theorem own_offD {w : World} {B z : Nat} {T : TypeId} {g n c : Nat} {zz n' c' : Nat} {T' : TypeId} {xs xs' : List Value} {A' : Option Addr} (h : w.ownsRow B T z (.slice (some ⟨g, 0, none⟩) n c) n xs) (h' : w.ownsRow B T' zz (.slice A' n' c') n' xs') (hT : T ≠ T') :
    ∀ b, (Value.slice A' n' c').ownBlock = some b → b ≠ g := fun b hb e => own_ne h h' hT (b := g) rfl (by rw [← e]; exact hb)
/-- A cell of a partition is written. -/
theorem OwX.setP {w : World} {B g k j : Nat} {v : CV} {c : Cf} {qs : List QP} {q' : QP} {u : Value} (h : OwX w B v c qs) (hA : v.ap = some ⟨g, 0, none⟩) (hk : k < qs.length) (hj : j < 5) (hq : q'.cells = (qs[k]).cells.set j u)
    (hi : Img w B q') (ho : Off q'.A q'.m (· = g)) (how : ∀ b, (Value.slice v.aw v.nw v.kw).ownBlock = some b → Off q'.A q'.m (· = b)) (hoc : ∀ b, (Value.slice v.ac v.nc v.kc).ownBlock = some b → Off q'.A q'.m (· = b)) :
    OwX (w.setCell ⟨g, k * 5 + j, none⟩ u) B v ⟨c.ws, c.ps.set k q'.p, c.cs⟩ (qs.set k q') := by
  have hK : Keep (· = g) w (w.setCell ⟨g, k * 5 + j, none⟩ u) := (Keep.refl _ _).setCell _ _ rfl
  have hrow : w.ownsRow B 43 5 (.slice (some ⟨g, 0, none⟩) v.np v.kp) qs.length (partsV qs) := by rw [← hA]; exact h.pp.row
  obtain ⟨hl, _, _⟩ := own_capV hrow
  rw [hl] at hrow
  have hkn : k < v.np := by rw [← hl]; exact hk
  have hob : (Value.slice v.ap v.np v.kp).ownBlock = some g := by rw [hA]; rfl
  have hmem : ∀ q ∈ qs.set k q', q = q' ∨ q ∈ qs := fun q hq => by
    rcases List.mem_or_eq_of_mem_set hq with h | h
    · exact .inr h
    · exact .inl h
  have himg : ∀ q ∈ qs.set k q', Img w B q ∧ Off q.A q.m (· = g) := fun q hm => by
    rcases hmem q hm with rfl | hm
    · exact ⟨hi, ho⟩
    · exact ⟨h.pp.img q hm, h.pp.off q hm g hob⟩
  refine ⟨own_kv h.ww hK (own_offD hrow h.ww (by decide)), ⟨?_, fun q hm => (himg q hm).1.kept hK (himg q hm).2, fun q hm b hb => ?_⟩, ?_, own_kv h.cc hK (own_offD hrow h.cc (by decide)), fun q hm b hb => ?_, fun q hm b hb => ?_⟩
  · rw [List.length_set, hA, hl, partsV, flat_cell QP.cells QP.cells_len hj qs k hk hq]
    exact own_cellV hrow (by have : k * 5 + 5 ≤ v.np * 5 := by rw [← Nat.succ_mul]; exact Nat.mul_le_mul_right 5 hkn
                             omega) u
  · rcases hmem q hm with rfl | hm
    · rw [hob] at hb; injection hb with hb; subst hb; exact ho
    · exact h.pp.off q hm b hb
  · rw [List.map_set, h.hq]
  · rcases hmem q hm with rfl | hm
    · exact how b hb
    · exact h.offw q hm b hb
  · rcases hmem q hm with rfl | hm
    · exact hoc b hb
    · exact h.offc q hm b hb
theorem OwX.np {w : World} {B : Nat} {v : CV} {c : Cf} {qs : List QP} (h : OwX w B v c qs) : qs.length = v.np := (own_capV h.pp.row).1
theorem OwX.ps_len {w : World} {B : Nat} {v : CV} {c : Cf} {qs : List QP} (h : OwX w B v c qs) : c.ps.length = v.np := by rw [← h.hq, List.length_map, h.np]
theorem OwX.pt_at {w : World} {B : Nat} {v : CV} {c : Cf} {qs : List QP} (h : OwX w B v c qs) {k : Nat} (hk : k < qs.length) : ptAt c.ps k = (qs[k]).p := by
  have : k < c.ps.length := by rw [h.ps_len, ← h.np]; exact hk
  rw [ptAt_lt this]
  simp [← h.hq]
theorem OwX.nw_le {w : World} {B : Nat} {v : CV} {c : Cf} {qs : List QP} (h : OwX w B v c qs) : c.ws.length = v.nw := h.cf.rd.ww.1
theorem OwX.nc_le {w : World} {B : Nat} {v : CV} {c : Cf} {qs : List QP} (h : OwX w B v c qs) : c.cs.length = v.nc := h.cf.rd.cc.1
theorem OwX.at_ap {w : World} {B : Nat} {v : CV} {c : Cf} {qs : List QP} (h : OwX w B v c qs) (hn : 0 < v.np) : ∃ g, v.ap = some ⟨g, 0, none⟩ ∧ B ≤ g ∧ g < w.heap.size ∧ (∀ k, w.frozen? ⟨g, k, none⟩ = false) := by
  have hr := h.pp.row
  rw [h.np] at hr
  obtain ⟨g, e, h1, h2, h3, _⟩ := own_frV hr hn
  exact ⟨g, e, h1, h2, h3⟩
theorem OwX.at_ac {w : World} {B : Nat} {v : CV} {c : Cf} {qs : List QP} (h : OwX w B v c qs) (hn : 0 < v.nc) : ∃ g, v.ac = some ⟨g, 0, none⟩ ∧ B ≤ g ∧ g < w.heap.size ∧ (∀ k, w.frozen? ⟨g, k, none⟩ = false) := by
  obtain ⟨g, e, h1, h2, h3, _⟩ := own_frV h.cc hn
  exact ⟨g, e, h1, h2, h3⟩
/-- The cells of one of its partitions. -/
theorem OwX.cells {w : World} {B g k : Nat} {v : CV} {c : Cf} {qs : List QP} (h : OwX w B v c qs) (hA : v.ap = some ⟨g, 0, none⟩) (hk : k < v.np) : ∃ A m cc,
    w.cell? ⟨g, k * 5, none⟩ = some (.int .i64 (ptAt c.ps k).id) ∧ w.cell? ⟨g, k * 5 + 1, none⟩ = some (.int .i64 (ptAt c.ps k).base) ∧ w.cell? ⟨g, k * 5 + 2, none⟩ = some (.int .i64 (ptAt c.ps k).size) ∧ w.cell? ⟨g, k * 5 + 3, none⟩ = some (.bool (ptAt c.ps k).keep) ∧ w.cell? ⟨g, k * 5 + 4, none⟩ = some (.slice A m cc) := by
  obtain ⟨b, o, A, m, cc, e, h0, h1, h2, h3, h4, _⟩ := h.cf.rd.pp.at_ hk
  rw [hA] at e
  injection e with e; injection e with e1 e2
  subst e1; subst e2
  rw [Nat.zero_add] at h0 h1 h2 h3 h4
  exact ⟨A, m, cc, h0, h1, h2, h3, h4⟩
/-- Another Keep. -/
theorem OwX.keep {w : World} {B g k : Nat} {v : CV} {c : Cf} {qs : List QP} (h : OwX w B v c qs) (hA : v.ap = some ⟨g, 0, none⟩) (hk : k < v.np) (b : Bool) :
    ∃ qs', OwX (w.setCell ⟨g, k * 5 + 3, none⟩ (.bool b)) B v (PX c k b (ptAt c.ps k).img) qs' := by
  unfold PX
  have hk' : k < qs.length := by rw [h.np]; exact hk
  have hm := List.getElem_mem hk'
  have hob : (Value.slice v.ap v.np v.kp).ownBlock = some g := by rw [hA]; rfl
  have := h.setP (q' := ⟨⟨(qs[k]).p.id, (qs[k]).p.base, (qs[k]).p.size, b, (qs[k]).p.img⟩, (qs[k]).A, (qs[k]).m, (qs[k]).c⟩) (u := .bool b) hA hk' (show 3 < 5 by decide) rfl ⟨(h.pp.img (qs[k]) hm).own, (h.pp.img (qs[k]) hm).mc, (h.pp.img (qs[k]) hm).cc⟩ (h.pp.off (qs[k]) hm g hob) (h.offw (qs[k]) hm) (h.offc (qs[k]) hm)
  rw [h.pt_at hk']
  exact ⟨_, this⟩
/-- Another image, made behind all of it. -/
theorem OwX.image {w0 w : World} {B g k gi n : Nat} {v : CV} {c : Cf} {qs : List QP} {T : TypeId} {im : List UInt8} (h0 : OwX w0 B v c qs) (hb : Below w0.heap.size w0 w) (hA : v.ap = some ⟨g, 0, none⟩) (hk : k < v.np) (hBB : B ≤ w0.heap.size)
    (ho : w.ownsRow w0.heap.size T 1 (.slice (some ⟨gi, 0, none⟩) n n) n (im.map bval)) (hn : n ≤ 100000) :
    ∃ qs', OwX (w.setCell ⟨g, k * 5 + 4, none⟩ (.slice (some ⟨gi, 0, none⟩) n n)) B v (PX c k (ptAt c.ps k).keep im) qs' := by
  unfold PX
  have h := h0.to hb
  have hk' : k < qs.length := by rw [h.np]; exact hk
  have hob : (Value.slice v.ap v.np v.kp).ownBlock = some g := by rw [hA]; rfl
  have hgi : w0.heap.size ≤ gi := (ho.lt gi rfl).1
  have off : ∀ b, b < w0.heap.size → Off (some ⟨gi, 0, none⟩) n (· = b) := fun b hlt hn b' o e hb' => by
    injection e with e; injection e with e _
    omega
  have := h.setP (q' := ⟨⟨(qs[k]).p.id, (qs[k]).p.base, (qs[k]).p.size, (qs[k]).p.keep, im⟩, some ⟨gi, 0, none⟩, n, n⟩) (u := .slice (some ⟨gi, 0, none⟩) n n) hA hk' (show 4 < 5 by decide) rfl ⟨(OwR.of_own ho).mono hBB, Nat.le_refl _, by (show n ≤ _); omega, by (show n ≤ _); omega⟩
    (off g (h0.pp.row.lt g hob).2) (fun b hb => off b (h0.ww.lt b hb).2) (fun b hb => off b (h0.cc.lt b hb).2)
  rw [h.pt_at hk']
  exact ⟨_, this⟩
/-- None of its blocks is x. -/
structure ApX (v : CV) (qs : List QP) (x : Nat) : Prop where
  w : ∀ b, (Value.slice v.aw v.nw v.kw).ownBlock = some b → ¬ b = x
  p : ∀ b, (Value.slice v.ap v.np v.kp).ownBlock = some b → ¬ b = x
  c : ∀ b, (Value.slice v.ac v.nc v.kc).ownBlock = some b → ¬ b = x
  i : ∀ q ∈ qs, Off q.A q.m (· = x)
theorem OwX.ap {w : World} {B x : Nat} {v : CV} {c : Cf} {qs : List QP} (h : OwX w B v c qs) (hx : w.heap.size ≤ x) : ApX v qs x :=
  ⟨fun b hb e => by have := h.ww.lt b hb; omega, fun b hb e => by have := h.pp.row.lt b hb; omega, fun b hb e => by have := h.cc.lt b hb; omega, fun q hq => (h.pp.img q hq).off_lt (fun k hk => .inr (by omega))⟩
/-- A channel less: the row that append leaves; then a block apart is written into. -/
theorem OwX.lessC {w w1 w2 : World} {B g k k1 x : Nat} {A1 : Option Addr} {v : CV} {c : Cf} {qs : List QP} (h : OwX w B v c qs) (hA : v.ac = some ⟨g, 0, none⟩) (hk : k < v.nc)
    (hown : w1.ownsRow B 47 5 (.slice A1 (k + (v.nc - (k + 1))) k1) (k + (v.nc - (k + 1))) ((chsV c.cs).take (k * 5) ++ (chsV c.cs).drop ((k + 1) * 5))) (hK : Keep (fun j => (Value.slice (some ⟨g, 0, none⟩) k v.kc).ownBlock = some j) w w1)
    (hv : ∀ j, (Value.slice A1 (k + (v.nc - (k + 1))) k1).ownBlock = some j → (Value.slice (some ⟨g, 0, none⟩) k v.kc).ownBlock = some j ∨ w.heap.size ≤ j) (hK2 : Keep (· = x) w1 w2) (hx : x < w.heap.size) (ha : ApX v qs x) :
    RdCf w2 w2.heap.size ⟨v.aw, v.nw, v.kw, v.ap, v.np, v.kp, A1, k + (v.nc - (k + 1)), k1⟩ ⟨c.ws, c.ps, c.cs.eraseIdx k⟩ := by
  have hK' : Keep (· = g) w w1 := hK.more fun b hb => by injection hb with hb; exact hb.symm
  have hcc : w.ownsRow B 47 5 (.slice (some ⟨g, 0, none⟩) v.nc v.kc) v.nc (chsV c.cs) := by rw [← hA]; exact h.cc
  have hob : (Value.slice v.ac v.nc v.kc).ownBlock = some g := by rw [hA]; rfl
  rw [show (chsV c.cs).take (k * 5) ++ (chsV c.cs).drop ((k + 1) * 5) = chsV (c.cs.eraseIdx k) from flat_erase chL chL_len c.cs k] at hown
  have hwn : ∀ b, (Value.slice A1 (k + (v.nc - (k + 1))) k1).ownBlock = some b → ¬ b = x := fun b hb e => by
    rcases hv b hb with hb | hb
    · have h2 := Option.some.inj (show some g = some b from hb)
      exact ha.c g hob (by omega)
    · omega
  refine (OwCf.of_rows (v := ⟨v.aw, v.nw, v.kw, v.ap, v.np, v.kp, A1, k + (v.nc - (k + 1)), k1⟩) (c := ⟨c.ws, c.ps, c.cs.eraseIdx k⟩) (own_kv (own_kv h.ww hK' (own_offD hcc h.ww (by decide))) hK2 ha.w) ((h.pp.kept hK' (fun b hb e => ?_) (fun q hq => h.offc q hq g hob)).kept hK2 ha.p ha.i) h.hq (own_kv hown hK2 hwn)).rd
  exact own_ne h.cc h.pp.row (by decide) (b := g) hob (by rw [← e]; exact hb)
/-- A partition less: the row that append leaves; then a block apart is written into. -/
theorem OwX.lessP {w w1 w2 : World} {B g k k1 x : Nat} {A1 : Option Addr} {v : CV} {c : Cf} {qs : List QP} (h : OwX w B v c qs) (hA : v.ap = some ⟨g, 0, none⟩) (hk : k < v.np)
    (hown : w1.ownsRow B 43 5 (.slice A1 (k + (v.np - (k + 1))) k1) (k + (v.np - (k + 1))) ((partsV qs).take (k * 5) ++ (partsV qs).drop ((k + 1) * 5))) (hK : Keep (fun j => (Value.slice (some ⟨g, 0, none⟩) k v.kp).ownBlock = some j) w w1)
    (hv : ∀ j, (Value.slice A1 (k + (v.np - (k + 1))) k1).ownBlock = some j → (Value.slice (some ⟨g, 0, none⟩) k v.kp).ownBlock = some j ∨ w.heap.size ≤ j) (hK2 : Keep (· = x) w1 w2) (hx : x < w.heap.size) (ha : ApX v qs x) :
    RdCf w2 w2.heap.size ⟨v.aw, v.nw, v.kw, A1, k + (v.np - (k + 1)), k1, v.ac, v.nc, v.kc⟩ ⟨c.ws, c.ps.eraseIdx k, c.cs⟩ := by
  have hK' : Keep (· = g) w w1 := hK.more fun b hb => by injection hb with hb; exact hb.symm
  have hpp : w.ownsRow B 43 5 (.slice (some ⟨g, 0, none⟩) v.np v.kp) qs.length (partsV qs) := by rw [← hA]; exact h.pp.row
  have hl := (own_capV hpp).1
  rw [hl] at hpp
  have hob : (Value.slice v.ap v.np v.kp).ownBlock = some g := by rw [hA]; rfl
  rw [show (partsV qs).take (k * 5) ++ (partsV qs).drop ((k + 1) * 5) = partsV (qs.eraseIdx k) from flat_erase QP.cells QP.cells_len qs k] at hown
  have hll : (qs.eraseIdx k).length = k + (v.np - (k + 1)) := by rw [List.length_eraseIdx_of_lt (by rw [hl]; exact hk), hl]; omega
  have hwn : ∀ b, (Value.slice A1 (k + (v.np - (k + 1))) k1).ownBlock = some b → ¬ b = x := fun b hb e => by
    rcases hv b hb with hb | hb
    · have h2 := Option.some.inj (show some g = some b from hb)
      exact ha.p g hob (by omega)
    · omega
  have hP : OwnP w1 B (.slice A1 (k + (v.np - (k + 1))) k1) (qs.eraseIdx k) := by
    refine ⟨by rw [hll]; exact hown, fun q hq => ?_, fun q hq b hb => ?_⟩
    · have hq' := List.mem_of_mem_eraseIdx hq
      exact (h.pp.img q hq').kept hK' (h.pp.off q hq' g hob)
    · have hq' := List.mem_of_mem_eraseIdx hq
      rcases hv b hb with hb | hb
      · injection hb with hb; subst hb
        exact h.pp.off q hq' _ hob
      · exact (h.pp.img q hq').off_lt (fun j hj => .inr (by omega))
  refine (OwCf.of_rows (v := ⟨v.aw, v.nw, v.kw, A1, k + (v.np - (k + 1)), k1, v.ac, v.nc, v.kc⟩) (c := ⟨c.ws, c.ps.eraseIdx k, c.cs⟩) (qs := qs.eraseIdx k) (own_kv (own_kv h.ww hK' (own_offD hpp h.ww (by decide))) hK2 ha.w) (hP.kept hK2 hwn (fun q hq => ha.i q (List.mem_of_mem_eraseIdx hq))) ?_ (own_kv (own_kv h.cc hK' (own_offD hpp h.cc (by decide))) hK2 ha.c)).rd
  rw [← h.hq, List.eraseIdx_eq_take_drop_succ, List.eraseIdx_eq_take_drop_succ, List.map_append, List.map_take, List.map_drop]
end Go.Proofs.Ytecedmjhhaabgaa
