/- Several texts in one (a claim has 60 files at most): Bx, TgO, ArrEq, HeldF. -/
import Derived.Test.YtffdjnhhmfpkgaaGreatTz
import Derived.Test.YtffdjnhhmfpkgaaGreatKitO
import Derived.Test.YtffdjnhhmfpkgaaGreatR1
import Derived.Deep.MidRow
import Derived.ChangeSame
import Derived.SizedLaws
import Derived.Test.YtffdjnhhmfpkgaaGreatRow
import Derived.Laws.StructEq
import Derived.Deep.RegionHeld
namespace Go.Proofs.YtffdjnhhmfpkgaaGreat
set_option maxRecDepth 1000000
set_option maxHeartbeats 8000000
set_option linter.unusedVariables false
set_option linter.unusedSimpArgs false
section
open Go.RowKit
def Bx (w : World) (g : Nat) (T : TypeId) (cs : List Value) : Prop := w.heap[g]? = some (.cells cs.toArray T (0, 0))
theorem Bx.lt {w : World} {g : Nat} {T : TypeId} {cs : List Value} (h : Bx w g T cs) : g < w.heap.size := heap_at_lt h
theorem Bx.at {w : World} {g : Nat} {T : TypeId} {cs : List Value} (h : Bx w g T cs) {j : Nat} {v : Value} (hj : cs[j]? = some v) : w.cell? ⟨g, j, none⟩ = some v := by
 have h' : w.heap[g]? = _ := h
 simp [World.cell?, h', hj]
theorem Bx.fz {w : World} {g : Nat} {T : TypeId} {cs : List Value} (h : Bx w g T cs) (j : Nat) : w.frozen? ⟨g, j, none⟩ = false := by
 simp [World.frozen?, show w.heap[g]? = _ from h]
theorem Bx.new (w : World) (T : TypeId) (cs : List Value) : Bx (w.alloc (.cells cs.toArray T)) w.heap.size T cs := by show (w.heap.push _)[w.heap.size]? = _; simp
theorem Bx.kept {R : Nat → Prop} {w w' : World} {g : Nat} {T : TypeId} {cs : List Value} (h : Bx w g T cs) (hk : Keep R w w') (hn : ¬ R g) : Bx w' g T cs := (hk.block g h.lt hn).trans h
theorem Bx.to {w w' : World} {g : Nat} {T : TypeId} {cs : List Value} (h : Bx w g T cs) (hb : Below w.heap.size w w') : Bx w' g T cs := (hb.block g h.lt).trans h
theorem Bx.below {B : Nat} {w w' : World} {g : Nat} {T : TypeId} {cs : List Value} (h : Bx w g T cs) (hg : g < B) (hb : Below B w w') : Bx w' g T cs := (hb.block g hg).trans h
theorem Bx.set {w : World} {g : Nat} {T : TypeId} {cs : List Value} (h : Bx w g T cs) (j : Nat) (u : Value) : Bx (w.setCell ⟨g, j, none⟩ u) g T (cs.set j u) := by
 obtain ⟨hlt, hk⟩ := Array.getElem?_eq_some_iff.1 h
 show (w.heap.modify g _)[g]? = _
 rw [Array.getElem?_eq_getElem (by rw [Array.size_modify]; exact hlt), Array.getElem_modify_self, hk]
 simp
theorem Bx.other {w : World} {g : Nat} {T : TypeId} {cs : List Value} (h : Bx w g T cs) (p : Addr) (u : Value) (hne : g ≠ p.block) : Bx (w.setCell p u) g T cs := (Below.heap_setCell w p u g hne).trans h
def setsC (w : World) (g i : Nat) : List Value → World
 | [] => w
 | v :: vs => setsC (w.setCell ⟨g, i, none⟩ v) g (i + 1) vs
theorem Bx.setsAt {g : Nat} {T : TypeId} : ∀ (vs : List Value) {w : World} {cs : List Value} (i : Nat), Bx w g T cs → i + vs.length ≤ cs.length → Bx (setsC w g i vs) g T (cs.take i ++ vs ++ cs.drop (i + vs.length))
 | [], w, cs, i, h, _ => by simpa [setsC] using h
 | v :: vs, w, cs, i, h, hl => by
  have h1 := Bx.setsAt vs (i + 1) (h.set i v) (by rw [List.length_set]; simp only [List.length_cons] at hl; omega)
  have hi : i < cs.length := by simp only [List.length_cons] at hl; omega
  have e1 : (cs.set i v).take (i + 1) = cs.take i ++ [v] := by
   rw [List.take_succ_eq_append_getElem (by rw [List.length_set]; exact hi), List.take_set_of_le (Nat.le_refl _), List.getElem_set_self]
  have e2 : (cs.set i v).drop (i + 1 + vs.length) = cs.drop (i + (v :: vs).length) := by
   rw [List.drop_set_of_lt (by omega), List.length_cons]; congr 1; omega
  rw [e1, e2] at h1
  simpa [setsC, List.append_assoc] using h1
theorem Bx.sets {w : World} {g : Nat} {T : TypeId} {cs : List Value} (h : Bx w g T cs) (vs : List Value) (hl : vs.length = cs.length) : Bx (setsC w g 0 vs) g T vs := by
 have := Bx.setsAt vs 0 h (by omega)
 rw [Nat.zero_add, hl] at this
 simpa using this
theorem Keep.sets {R : Nat → Prop} {a : World} {g : Nat} (hr : R g) : ∀ (vs : List Value) {w : World} (i : Nat), Keep R a w → Keep R a (setsC w g i vs)
 | [], w, i, h => h
 | v :: vs, w, i, h => Keep.sets hr vs (i + 1) (h.setCell _ _ hr)
theorem below_sets {B : Nat} {a : World} {g : Nat} (hg : B ≤ g) : ∀ (vs : List Value) {w : World} (i : Nat), Below B a w → Below B a (setsC w g i vs)
 | [], w, i, h => h
 | v :: vs, w, i, h => below_sets hg vs (i + 1) (h.setCell (p := ⟨g, i, none⟩) hg v)
end
section
open Go.RowKit Go.ChangeShapes Go.WideShapes Go.Deep
theorem tag_sizeL {bs : List UInt8} (h : bs.length = 32) : (Tryz.prog.info? 32).map (·.size) = some (bs.map bval).length := by
 rw [List.length_map, h]; exact (zero_of_info tag_info).2
theorem heap_setCellsM (g : Nat) (T : TypeId) : ∀ (vs : List Value) (o : Nat) (cur : Array Value) (w : World), w.heap[g]? = some (.cells cur T (0, 0)) → o + vs.length ≤ cur.size → (w.setCells g o vs).heap[g]? = some (.cells (cur.toList.take o ++ vs ++ cur.toList.drop (o + vs.length)).toArray T (0, 0))
 | [], o, cur, w, h, _ => by
  simp only [World.setCells, List.append_nil, List.length_nil, Nat.add_zero, List.take_append_drop, Array.toArray_toList]
  exact h
 | v :: rest, o, cur, w, h, hl => by
  have hi : o < cur.size := by simp at hl; omega
  have ih := heap_setCellsM g T rest (o + 1) (cur.setIfInBounds o v) (w.setCell ⟨g, o, none⟩ v) (heap_setCell_same _ _ _ _ _ _ h) (by simp at hl ⊢; omega)
  simp only [World.setCells]
  rw [ih]
  congr 3
  have e := list_seg_step cur.toList o v rest (by simp at hl ⊢; omega)
  simpa [Array.toList_setIfInBounds, Nat.add_assoc] using e
theorem keep_setCellsM {R : Nat → Prop} {a w : World} (h : Keep R a w) (g o : Nat) (vs : List Value) (hg : R g) : Keep R a (w.setCells g o vs) := by
 induction vs generalizing o w with
 | nil => exact h
 | cons v vs ih => exact ih (h.setCell _ _ hg) _
theorem below_setCellsM {B : Nat} {a w : World} (h : Below B a w) {g : Nat} (hg : B ≤ g) (o : Nat) (vs : List Value) : Below B a (w.setCells g o vs) := by
 induction vs generalizing o w with
 | nil => exact h
 | cons v vs ih => exact ih (h.setCell (p := ⟨g, o, none⟩) hg v) _
theorem keep_setRow {w : World} (g : Nat) (cells : Array Value) : Keep (· = g) w (w.setRow g cells) := ⟨rfl, rfl, rfl, by rw [setRow_size]; exact Nat.le_refl _, fun k hk hr => setRow_other w _ k _ (fun h => hr h)⟩
theorem wpList_load_rowGm {P : Program} {ops : Array Oper} {rest : List Oper} {o : Oper} {a : Act} {w : World} {Q : Exit → Act → World → Prop} (hw : Region.wanted o (yielded ops a.tmps) = true) (ty : TypeId) (x : Operand) (ho : o.op = .load ty x)
  (g : Nat) (hx : a.eval x = .pointer (some ⟨g, 0, none⟩)) (t : TypeId) (cs : Array Value) (fr : Nat × Nat) (d : TypeDesc) (hg : w.heap[g]? = some (.cells cs t fr))
  (hu : P.underlying ty = some d) (hd : (match d with | .struct _ | .array _ _ => true | _ => false) = true) (hi : (P.info? ty).map (·.size) = some cs.size)
  (h : wpList P ops Q rest (a.put o.dst (.agg cs)) w) : wpList P ops Q (o :: rest) a w :=
 wpList_step fun K hK => by rw [if_pos hw]; exact wp_load_row ty x ho g hx t cs fr d hg hu hd hi (hK _ _ h)
theorem wpList_load_midG {P : Program} {ops : Array Oper} {rest : List Oper} {o : Oper} {a : Act} {w : World} {Q : Exit → Act → World → Prop} (hw : Region.wanted o (yielded ops a.tmps) = true) (ty : TypeId) (x : Operand) (ho : o.op = .load ty x)
  (b of : Nat) (hx : a.eval x = .pointer (some ⟨b, of, none⟩)) (cs : List Value) (d : TypeDesc) (hc : w.rangeAt b of cs)
  (hu : P.underlying ty = some d) (hd : d.isRow = true) (hi : (P.info? ty).map (·.size) = some cs.length)
  (h : wpList P ops Q rest (a.put o.dst (.agg cs.toArray)) w) : wpList P ops Q (o :: rest) a w :=
 wpList_step fun K hK => by rw [if_pos hw]; exact wp_load_mid ty x ho b of hx cs d hc hu hd hi (hK _ _ h)
section
variable {H : Type} {enc : TypeId × Value → H} {W : World} {base : Nat} {held : Bool}
theorem trod_tag {k : Nat} {l : List Value} {x : DataW H × List MemPlace} (h : DataW.trod enc Tryz.prog W base (fun _ => true) held k 32 l = some x) (hl : l.length = 32) : ∃ ts : List UInt8, l = ts.map bval ∧ ts.length = 32 := by
 have e2 : Tryz.prog.cellsOf 5 = 1 := by kernel_rfl
 obtain ⟨ys, m5, _, _, hl5, hyl, hy⟩ := DataW.trod_array Tryz.underlying32 h
 have each : ∀ i (hi : i < l.length), ∃ y : UInt8, l[i] = bval y := by
  intro i hi
  have h := hy i (by omega)
  rw [e2, Nat.mul_one, List.getElem?_eq_getElem (by omega), List.drop_eq_getElem_cons hi] at h
  simp only [List.take_succ_cons, List.take_zero] at h
  obtain ⟨z, hz, _, hw⟩ := DataW.trod_int Tryz.underlying5 h
  simp only [List.cons.injEq, and_true] at hz
  obtain ⟨a1, a2⟩ := wf_u8 hw
  obtain ⟨y, rfl⟩ := u8_of a1 a2
  exact ⟨y, hz⟩
 have key : ∀ l : List Value, (∀ i (hi : i < l.length), ∃ y : UInt8, l[i] = bval y) → ∃ ts : List UInt8, l = ts.map bval := by
  intro l
  induction l with
  | nil => exact fun _ => ⟨[], rfl⟩
  | cons x l ih =>
   intro h
   obtain ⟨ts, hts⟩ := ih (fun i hi => h (i + 1) (by simpa using hi))
   obtain ⟨y, hy⟩ := h 0 (by simp)
   exact ⟨y :: ts, by simpa [hts] using hy⟩
 obtain ⟨ts, hts⟩ := key l each
 exact ⟨ts, hts, by rw [← hl, hts, List.length_map]⟩
end
end
section
open Go.RowKit
theorem run_part {P : Program} {w : World} {e : TypeId} {k : IntKind} (he : P.underlying e = some (.int k)) (cs : Array Value) (i : Nat) (v : Value) (hv : cs[i]? = some v) :
  (part e cs i).run P w = .ok v w := by
 simp [part, isAgg, Sem.run_bind, run_underlying he, Result.andThen, hv]
theorem run_eqLoop {P : Program} {e : TypeId} {k k' : IntKind} (he : P.underlying e = some (.int k)) (d : Nat) (xs ys : Array Value) (X Y : List Nat) (hX : ∀ i, i < X.length → xs[i]? = some (.int k' (nx X i : Int))) (hY : ∀ i, i < Y.length → ys[i]? = some (.int k' (nx Y i : Int)))
  (hl : X.length = Y.length) (w : World) :
  ∀ (l : List Nat), (∀ i ∈ l, i < X.length) →
  ((forIn l ((none, ()) : Option Bool × Unit) (fun i _ => do
    if (!(← Op.equalIn (d + 1) e (← part e xs (i * 1)) (← part e ys (i * 1)))) = true then pure (ForInStep.done (some false, ()))
    else pure (ForInStep.yield (none, ())))) : Sem (Option Bool × Unit)).run P w =
   .ok (if l.all (fun i => nx X i == nx Y i) then (none, ()) else (some false, ())) w := by
 intro l
 induction l with
 | nil => intro _; simp [Sem.run_pure]
 | cons i l ih =>
  intro h
  have hi : i < X.length := h i (by simp)
  have h1 := run_part (w := w) he xs i _ (hX i hi)
  have h2 := run_part (w := w) he ys i _ (hY i (by omega))
  simp only [List.forIn_cons, Sem.run_bind, Nat.mul_one, h1, h2, Result.andThen, run_equalIn_int w d e k' k _ _ he]
  by_cases hxy : nx X i = nx Y i
  ·have ih' := ih (fun j hj => h j (by simp [hj]))
   simp at ih'
   simp [hxy, Sem.run_pure]
   exact ih'
  ·have : ((nx X i : Int) == (nx Y i : Int)) = false := by simp; omega
   simp [this, hxy, Sem.run_pure]
theorem all_nx {X Y : List Nat} {n : Nat} (hl : X.length = n) (hl' : Y.length = n) : (List.range n).all (fun i => nx X i == nx Y i) = decide (X = Y) := by
 rw [Bool.eq_iff_iff]
 simp only [List.all_eq_true, List.mem_range, beq_iff_eq, decide_eq_true_eq]
 constructor
 ·intro h
  refine List.ext_getElem (by omega) fun i h1 h2 => ?_
  have := h i (by omega)
  rwa [nx_of_lt h1, nx_of_lt h2] at this
 ·rintro rfl i _; rfl
theorem run_equalIn_arr {P : Program} {t e : TypeId} {n : Nat} {k : IntKind} (ht : P.underlying t = some (.array n e)) (he : P.underlying e = some (.int k)) (hs : ∀ w : World, (sizeOf e).run P w = .ok 1 w) (d : Nat) (xs ys : Array Value) (k' : IntKind) (X Y : List Nat)
  (hX : ∀ i, i < X.length → xs[i]? = some (.int k' (nx X i : Int))) (hY : ∀ i, i < Y.length → ys[i]? = some (.int k' (nx Y i : Int))) (hl : X.length = n) (hl' : Y.length = n) (w : World) :
  (Op.equalIn (d + 2) t (.agg xs) (.agg ys)).run P w = .ok (decide (X = Y)) w := by
 have h := run_eqLoop he d xs ys X Y hX hY (by omega) w (List.range n) (fun i hi => by simpa [hl] using hi)
 rw [all_nx hl hl'] at h
 generalize hd : d + 1 = d1 at h
 rw [show d + 2 = d1 + 1 from by omega]
 simp only [Op.equalIn, Sem.run_bind, run_underlying ht, Result.andThen_ok, hs]
 rw [Std.Legacy.Range.forIn_eq_forIn_range']
 simp only [Std.Legacy.Range.size, Nat.sub_zero, Nat.add_sub_cancel, Nat.div_one, List.range_eq_range'] at h ⊢
 rw [h]
 simp only [Result.andThen]
 by_cases e : X = Y
 ·simp [e, Sem.run_pure]
 ·simp [e, Sem.run_pure]
theorem run_eql_arr {P : Program} {t e : TypeId} {n : Nat} {k : IntKind} (ht : P.underlying t = some (.array n e)) (he : P.underlying e = some (.int k)) (hs : ∀ w : World, (sizeOf e).run P w = .ok 1 w) (xs ys : Array Value) (k' : IntKind) (X Y : List Nat)
  (hX : ∀ i, i < X.length → xs[i]? = some (.int k' (nx X i : Int))) (hY : ∀ i, i < Y.length → ys[i]? = some (.int k' (nx Y i : Int))) (hl : X.length = n) (hl' : Y.length = n) (w : World) :
  (Op.equalIn 10000 t (.agg xs) (.agg ys)).run P w = .ok (decide (X = Y)) w := run_equalIn_arr ht he hs 9998 xs ys k' X Y hX hY hl hl' w
theorem run_eql_arrB {P : Program} {t e : TypeId} {n : Nat} (ht : P.underlying t = some (.array n e)) (he : P.underlying e = some (.int .u8)) (hs : ∀ w : World, (sizeOf e).run P w = .ok 1 w) (a b : List UInt8) (ha : a.length = n) (hb : b.length = n) (w : World) :
  (Op.equalIn 10000 t (.agg (arrB a)) (.agg (arrB b))).run P w = .ok (decide (a = b)) w := by
 have hX : ∀ c : List UInt8, ∀ i, i < (c.map UInt8.toNat).length → (arrB c)[i]? = some (.int .u8 (nx (c.map UInt8.toNat) i : Int)) := fun c i hi => by
  have hi' : i < c.length := by simpa using hi
  rw [arrB_at hi', nx_of_lt hi, nth_of_lt hi']
  simp
 rw [run_eql_arr ht he hs _ _ .u8 (a.map UInt8.toNat) (b.map UInt8.toNat) (hX a) (hX b) (by simpa using ha) (by simpa using hb)]
 congr 1
 rw [Bool.eq_iff_iff]
 simp only [decide_eq_true_eq]
 constructor
 ·intro h
  exact (List.map_inj_right (fun x y hxy => UInt8.toNat_inj.1 hxy)).1 h
 ·rintro rfl; rfl
theorem sizeOf_one {P : Program} {e : TypeId} (h : (P.info? e).map (·.size) = some 1) (w : World) : (sizeOf e).run P w = .ok 1 w := by
 cases hi : P.info? e with
 | none => rw [hi] at h; cases h
 | some i => rw [hi] at h; simp at h; simp [sizeOf, typeInfo, hi, h]
theorem run_index_arr {P : Program} {t e : TypeId} {n : Nat} {k : IntKind} (ht : P.underlying t = some (.array n e)) (he : P.underlying e = some (.int k)) (hs : ∀ w : World, (sizeOf e).run P w = .ok 1 w) (cs : Array Value) (j : Nat) (hj : j < n) (v : Value) (hv : cs[j]? = some v) (w : World) :
  (Instr.index t (.agg cs) (.int .i64 (j : Int))).run P w = .ok v w := by
 have h1 : (0 : Int) ≤ (j : Int) ∧ (j : Int) < (n : Int) := by omega
 simp [Instr.index, Sem.run_bind, run_underlying ht, Result.andThen, asIntOf, hs, hj, run_part he cs j v hv]
theorem run_loadArr {P : Program} {w : World} {g n : Nat} {T : TypeId} {cs : Array Value} {fr : Nat × Nat} (hg : w.heap[g]? = some (.cells cs T fr)) (hn : cs.size = n) :
  (loadCellsFrom ⟨g, 0, none⟩ 0 n #[]).run P w = .ok cs w := by
 subst hn
 have := run_loadCells_list (P := P) w ⟨g, 0, none⟩ cs.toList (fun j v hv => by
  have hadd : (⟨g, 0, none⟩ : Addr).add j = ⟨g, j, none⟩ := by unfold Addr.add; split <;> simp_all
  rw [hadd, cell_of_row _ _ j cs T fr hg]
  simpa using hv)
 simpa [loadCells] using this
end
section
open Go.RowKit
theorem yieldsIf_load_row {P : Program} {ops : Array Oper} {S : World → Prop} {op : Oper} {a : Act} (hw : Region.wanted op (yielded ops a.tmps) = true) (ty : TypeId) (x : Operand) (ho : op.op = .load ty x)
  (g : Nat) (hx : a.eval x = .pointer (some ⟨g, 0, none⟩)) (t : TypeId) (cs : Array Value) (fr : Nat × Nat) (d : TypeDesc) (hS : ∀ w, S w → w.heap[g]? = some (.cells cs t fr))
  (hu : P.underlying ty = some d) (hd : (match d with | .struct _ | .array _ _ => true | _ => false) = true) (hi : (P.info? ty).map (·.size) = some cs.size) : YieldsIf P ops S op (.agg cs) a :=
 .inl ⟨hw, fun w hw' => by
  unfold execOp
  simp only [ho, hx, Instr.loadAt, Instr.sureAddr, Sem.run_bind, Sem.run_pure, Result.andThen_ok, run_loadVar_row w g t ty cs fr d (hS w hw') hu hd hi]⟩
theorem wp_store_row0 {P : Program} {o : Oper} {a : Act} {w : World} {K : Act → World → Prop} {Q : Exit → Act → World → Prop} (ty : TypeId) (x y : Operand) (ho : o.op = .store ty x y) (hd : o.dst = none)
  (g : Nat) (cells : Array Value) (hx : a.eval x = .pointer (some ⟨g, 0, none⟩)) (hy : a.eval y = .agg cells)
  (t : TypeId) (old : Array Value) (hg : w.heap[g]? = some (.cells old t (0, 0))) (hi : (P.info? ty).map (·.size) = some cells.size)
  (hold : old.size = cells.size) (h1 : cells.all (·.oneCell') = true) (h : K a (w.setRow g cells)) : o.wp P a w K Q :=
 wp_store_row ty x y ho g cells hx hy t old hg hi hold h1 (by rw [hd]; exact h)
theorem step_load_row {P : Program} {ops : Array Oper} {o : Oper} {a : Act} {w : World} {K : Act → World → Prop} {Q : Exit → Act → World → Prop} {E : Prop} (hgd : o.guard = none) (ty : TypeId) (x : Operand) (ho : o.op = .load ty x)
  (g : Nat) (hx : a.eval x = .pointer (some ⟨g, 0, none⟩)) (t : TypeId) (cs : Array Value) (fr : Nat × Nat) (d : TypeDesc) (hg : w.heap[g]? = some (.cells cs t fr))
  (hu : P.underlying ty = some d) (hd : (match d with | .struct _ | .array _ _ => true | _ => false) = true) (hi : (P.info? ty).map (·.size) = some cs.size)
  (h : K (a.put o.dst (.agg cs)) w) : if Region.wanted o (yielded ops a.tmps) = true then Oper.wp P o a w K Q else E := by
 rw [if_pos (by unfold Region.wanted; rw [hgd])]
 exact wp_load_row ty x ho g hx t cs fr d hg hu hd hi h
theorem step_store_row {P : Program} {ops : Array Oper} {o : Oper} {a : Act} {w : World} {K : Act → World → Prop} {Q : Exit → Act → World → Prop} {E : Prop} (hgd : o.guard = none) (ty : TypeId) (x y : Operand) (ho : o.op = .store ty x y)
  (g : Nat) (cells : Array Value) (hx : a.eval x = .pointer (some ⟨g, 0, none⟩)) (hy : a.eval y = .agg cells)
  (t : TypeId) (old : Array Value) (hg : w.heap[g]? = some (.cells old t (0, 0))) (hi : (P.info? ty).map (·.size) = some cells.size)
  (hold : old.size = cells.size) (h1 : cells.all (·.oneCell') = true) (h : K (a.put o.dst undef) (w.setRow g cells)) : if Region.wanted o (yielded ops a.tmps) = true then Oper.wp P o a w K Q else E := by
 rw [if_pos (by unfold Region.wanted; rw [hgd])]
 exact wp_store_row ty x y ho g cells hx hy t old hg hi hold h1 h
theorem results_cell_tmp {P : Program} {fn : Func} {p q : Tmp} {ty : TypeId} (h : fn.results = #[.cell p ty, .tmp q]) (tmps : Array Value) (w : World) (g : Nat) (t : TypeId) (cs : Array Value) (fr : Nat × Nat) (d : TypeDesc) (v : Value)
  (hp : tmps.getD p undef = .pointer (some ⟨g, 0, none⟩)) (hq : tmps.getD q undef = v) (hg : w.heap[g]? = some (.cells cs t fr))
  (hu : P.underlying ty = some d) (hd : (match d with | .struct _ | .array _ _ => true | _ => false) = true) (hi : (P.info? ty).map (·.size) = some cs.size) :
  (results fn tmps).run P w = .ok (.tuple #[.agg cs, v]) w := by
 have hp' : tmps[p]?.getD undef = .pointer (some ⟨g, 0, none⟩) := by simpa using hp
 have hq' : tmps[q]?.getD undef = v := by simpa using hq
 simp [results, h, hp', hq', asAddr, run_loadVar_row w g t ty cs fr d hg hu hd hi]
end
end Go.Proofs.YtffdjnhhmfpkgaaGreat