/- Arrays of numbers are compared cell by cell: '==', '!=' on [n]T, T a kind of integers. No program is named. -/
import Derived.Test.YtopilgedcnbdaaaDoorTz
import Derived.Test.YtopilgedcnbdaaaDoorRow
import Derived.Laws.StructEq
namespace Go.Proofs.YtopilgedcnbdaaaDoor
set_option maxRecDepth 1000000
set_option maxHeartbeats 8000000
open Go.RowKit
set_option linter.unusedVariables false
theorem run_part {P : Program} {w : World} {e : TypeId} {k : IntKind} (he : P.underlying e = some (.int k)) (cs : Array Value) (i : Nat) (v : Value) (hv : cs[i]? = some v) :
  (part e cs i).run P w = .ok v w := by
 simp [part, isAgg, Sem.run_bind, run_underlying he, Result.andThen, hv]
theorem run_eqLoop {P : Program} {e : TypeId} {k k' : IntKind} (he : P.underlying e = some (.int k)) (d : Nat) (xs ys : Array Value) (X Y : List Nat) (hX : ∀ i, i < X.length → xs[i]? = some (.int k' (nx X i : Int))) (hY : ∀ i, i < Y.length → ys[i]? = some (.int k' (nx Y i : Int)))
  (hl : X.length = Y.length) (w : World) :
  ∀ (l : List Nat), (∀ i ∈ l, i < X.length) →
  ((forIn l ((none, ()) : Option Bool × Unit) (fun i _ => do
    if (!(← Op.equalIn (d + 1) e (← part e xs (i * 1)) (← part e ys (i * 1)))) = true then pure (ForInStep.done (some false, ()))
    else pure (ForInStep.yield (none, ())))) : Sem (Option Bool × Unit)).run P w =
   .ok (if l.all (fun i => nx X i == nx Y i) then (none, ()) else (some false, ())) w := by
 intro l
 induction l with
 | nil => intro _; simp [Sem.run_pure]
 | cons i l ih =>
  intro h
  have hi : i < X.length := h i (by simp)
  have h1 := run_part (w := w) he xs i _ (hX i hi)
  have h2 := run_part (w := w) he ys i _ (hY i (by omega))
  simp only [List.forIn_cons, Sem.run_bind, Nat.mul_one, h1, h2, Result.andThen, run_equalIn_int w d e k' k _ _ he]
  by_cases hxy : nx X i = nx Y i
  ·have ih' := ih (fun j hj => h j (by simp [hj]))
   simp at ih'
   simp [hxy, Sem.run_pure]
   exact ih'
  ·have : ((nx X i : Int) == (nx Y i : Int)) = false := by simp; omega
   simp [this, hxy, Sem.run_pure]
theorem all_nx {X Y : List Nat} {n : Nat} (hl : X.length = n) (hl' : Y.length = n) : (List.range n).all (fun i => nx X i == nx Y i) = decide (X = Y) := by
 rw [Bool.eq_iff_iff]
 simp only [List.all_eq_true, List.mem_range, beq_iff_eq, decide_eq_true_eq]
 constructor
 ·intro h
  refine List.ext_getElem (by omega) fun i h1 h2 => ?_
  have := h i (by omega)
  rwa [nx_of_lt h1, nx_of_lt h2] at this
 ·rintro rfl i _; rfl
theorem run_equalIn_arr {P : Program} {t e : TypeId} {n : Nat} {k : IntKind} (ht : P.underlying t = some (.array n e)) (he : P.underlying e = some (.int k)) (hs : ∀ w : World, (sizeOf e).run P w = .ok 1 w) (d : Nat) (xs ys : Array Value) (k' : IntKind) (X Y : List Nat)
  (hX : ∀ i, i < X.length → xs[i]? = some (.int k' (nx X i : Int))) (hY : ∀ i, i < Y.length → ys[i]? = some (.int k' (nx Y i : Int))) (hl : X.length = n) (hl' : Y.length = n) (w : World) :
  (Op.equalIn (d + 2) t (.agg xs) (.agg ys)).run P w = .ok (decide (X = Y)) w := by
 have h := run_eqLoop he d xs ys X Y hX hY (by omega) w (List.range n) (fun i hi => by simpa [hl] using hi)
 rw [all_nx hl hl'] at h
 generalize hd : d + 1 = d1 at h
 rw [show d + 2 = d1 + 1 from by omega]
 simp only [Op.equalIn, Sem.run_bind, run_underlying ht, Result.andThen_ok, hs]
 rw [Std.Legacy.Range.forIn_eq_forIn_range']
 simp only [Std.Legacy.Range.size, Nat.sub_zero, Nat.add_sub_cancel, Nat.div_one, List.range_eq_range'] at h ⊢
 rw [h]
 simp only [Result.andThen]
 by_cases e : X = Y
 ·simp [e, Sem.run_pure]
 ·simp [e, Sem.run_pure]
theorem run_eql_arr {P : Program} {t e : TypeId} {n : Nat} {k : IntKind} (ht : P.underlying t = some (.array n e)) (he : P.underlying e = some (.int k)) (hs : ∀ w : World, (sizeOf e).run P w = .ok 1 w) (xs ys : Array Value) (k' : IntKind) (X Y : List Nat)
  (hX : ∀ i, i < X.length → xs[i]? = some (.int k' (nx X i : Int))) (hY : ∀ i, i < Y.length → ys[i]? = some (.int k' (nx Y i : Int))) (hl : X.length = n) (hl' : Y.length = n) (w : World) :
  (Op.equalIn 10000 t (.agg xs) (.agg ys)).run P w = .ok (decide (X = Y)) w := run_equalIn_arr ht he hs 9998 xs ys k' X Y hX hY hl hl' w
theorem run_eql_arrB {P : Program} {t e : TypeId} {n : Nat} (ht : P.underlying t = some (.array n e)) (he : P.underlying e = some (.int .u8)) (hs : ∀ w : World, (sizeOf e).run P w = .ok 1 w) (a b : List UInt8) (ha : a.length = n) (hb : b.length = n) (w : World) :
  (Op.equalIn 10000 t (.agg (arrB a)) (.agg (arrB b))).run P w = .ok (decide (a = b)) w := by
 have hX : ∀ c : List UInt8, ∀ i, i < (c.map UInt8.toNat).length → (arrB c)[i]? = some (.int .u8 (nx (c.map UInt8.toNat) i : Int)) := fun c i hi => by
  have hi' : i < c.length := by simpa using hi
  rw [arrB_at hi', nx_of_lt hi, nth_of_lt hi']
  simp
 rw [run_eql_arr ht he hs _ _ .u8 (a.map UInt8.toNat) (b.map UInt8.toNat) (hX a) (hX b) (by simpa using ha) (by simpa using hb)]
 congr 1
 rw [Bool.eq_iff_iff]
 simp only [decide_eq_true_eq]
 constructor
 ·intro h
  exact (List.map_inj_right (fun x y hxy => UInt8.toNat_inj.1 hxy)).1 h
 ·rintro rfl; rfl
theorem sizeOf_one {P : Program} {e : TypeId} (h : (P.info? e).map (·.size) = some 1) (w : World) : (sizeOf e).run P w = .ok 1 w := by
 cases hi : P.info? e with
 | none => rw [hi] at h; cases h
 | some i => rw [hi] at h; simp at h; simp [sizeOf, typeInfo, hi, h]
theorem run_index_arr {P : Program} {t e : TypeId} {n : Nat} {k : IntKind} (ht : P.underlying t = some (.array n e)) (he : P.underlying e = some (.int k)) (hs : ∀ w : World, (sizeOf e).run P w = .ok 1 w) (cs : Array Value) (j : Nat) (hj : j < n) (v : Value) (hv : cs[j]? = some v) (w : World) :
  (Instr.index t (.agg cs) (.int .i64 (j : Int))).run P w = .ok v w := by
 have h1 : (0 : Int) ≤ (j : Int) ∧ (j : Int) < (n : Int) := by omega
 simp [Instr.index, Sem.run_bind, run_underlying ht, Result.andThen, asIntOf, hs, hj, run_part he cs j v hv]
theorem run_loadArr {P : Program} {w : World} {g n : Nat} {T : TypeId} {cs : Array Value} {fr : Nat × Nat} (hg : w.heap[g]? = some (.cells cs T fr)) (hn : cs.size = n) :
  (loadCellsFrom ⟨g, 0, none⟩ 0 n #[]).run P w = .ok cs w := by
 subst hn
 have := run_loadCells_list (P := P) w ⟨g, 0, none⟩ cs.toList (fun j v hv => by
  have hadd : (⟨g, 0, none⟩ : Addr).add j = ⟨g, j, none⟩ := by unfold Addr.add; split <;> simp_all
  rw [hadd, cell_of_row _ _ j cs T fr hg]
  simpa using hv)
 simpa [loadCells] using this
end Go.Proofs.YtopilgedcnbdaaaDoor