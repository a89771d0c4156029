/- Commit records in memory: a record's cells, its block, how one comes in; '==' on records. -/
import Derived.Test.YtffdjnhhmfpkgaaGreatTz
import Derived.Test.YtffdjnhhmfpkgaaGreatCmM
import Derived.Test.YtffdjnhhmfpkgaaGreatR9
import Derived.Deep.MidRow
import Derived.ChangeSame
import Derived.SizedLaws
namespace Go.Proofs.YtffdjnhhmfpkgaaGreat
set_option maxRecDepth 1000000
set_option maxHeartbeats 8000000
open Go.RowKit Go.ChangeShapes Go.WideShapes Go.Deep
set_option linter.unusedVariables false
set_option linter.unusedSimpArgs false
def rcL (r : Rcd) : List Value := .int .i64 r.seq :: .int .i64 r.slot :: .int .i64 r.len :: .bool r.trial :: r.hash.map bval
theorem rcL_len {r : Rcd} (h : r.hash.length = 32) : (rcL r).length = 36 := by simp [rcL, h]
theorem rcL_size {r : Rcd} (h : r.hash.length = 32) : (rcL r).toArray.size = 36 := by rw [List.size_toArray, rcL_len h]
theorem rc_one (r : Rcd) : (rcL r).toArray.all (·.oneCell') = true := by
 refine Go.all_oneCell_toArray (fun u hu => ?_)
 simp only [rcL, List.mem_cons, List.mem_map] at hu
 rcases hu with rfl | rfl | rfl | rfl | ⟨b, _, rfl⟩ <;> rfl
theorem rc_oneL (r : Rcd) : ∀ u ∈ rcL r, u.oneCell' = true := by
 intro u hu
 simp only [rcL, List.mem_cons, List.mem_map] at hu
 rcases hu with rfl | rfl | rfl | rfl | ⟨b, _, rfl⟩ <;> rfl
def RB (w : World) (g : Nat) (r : Rcd) : Prop := r.hash.length = 32 ∧ Bx w g 34 (rcL r)
section
variable {w w' : World} {g : Nat} {r r' : Rcd}
theorem RB.to (h : RB w g r) (hb : Below w.heap.size w w') : RB w' g r := ⟨h.1, h.2.to hb⟩
theorem RB.kept {R : Nat → Prop} (h : RB w g r) (hk : Keep R w w') (hn : ¬ R g) : RB w' g r := ⟨h.1, h.2.kept hk hn⟩
theorem RB.new (w : World) (h : r.hash.length = 32) : RB (w.alloc (.cells (rcL r).toArray 34)) w.heap.size r := ⟨h, Bx.new w _ _⟩
theorem RB.lt (h : RB w g r) : g < w.heap.size := h.2.lt
theorem RB.drew (h : RB w g r) : RB w.drew g r := h
theorem RB.cells (h : RB w g r) : w.cell? ⟨g, 0, none⟩ = some (.int .i64 r.seq) ∧ w.cell? ⟨g, 1, none⟩ = some (.int .i64 r.slot) ∧ w.cell? ⟨g, 2, none⟩ = some (.int .i64 r.len) ∧ w.cell? ⟨g, 3, none⟩ = some (.bool r.trial) :=
 ⟨h.2.at (j := 0) rfl, h.2.at (j := 1) rfl, h.2.at (j := 2) rfl, h.2.at (j := 3) rfl⟩
theorem RB.hash (h : RB w g r) : w.rangeAt g 4 (r.hash.map bval) := fun j v hj => h.2.at (j := 4 + j) (by
 rw [show 4 + j = j + 1 + 1 + 1 + 1 by omega]
 exact hj)
theorem RB.row (h : RB w g r) : w.heap[g]? = some (.cells (rcL r).toArray 34 (0, 0)) := h.2
theorem RB.fz (h : RB w g r) (j : Nat) : w.frozen? ⟨g, j, none⟩ = false := h.2.fz j
theorem RB.there (h : RB w g r) {o n : Nat} (hn : o + n ≤ 36) : w.there g o n := fun j hj => by
 have hj' : o + j < (rcL r).length := by rw [rcL_len h.1]; omega
 exact ⟨by rw [h.2.at (j := o + j) (List.getElem?_eq_getElem hj')]; rfl, h.2.fz _⟩
end
theorem rc_info : (Tryz.prog.info? 34).map (fun i => (i.zero, i.size)) = some (some (.agg (rcL Rcd.zero).toArray), 36) := by kernel_rfl
theorem rc_size {r : Rcd} (h : r.hash.length = 32) : (Tryz.prog.info? 34).map (·.size) = some (rcL r).toArray.size := by
 rw [rcL_size h]; exact (zero_of_info rc_info).2
theorem rc_zero (w : World) : (zeroValue 34).run Tryz.prog w = .ok (.agg (rcL Rcd.zero).toArray) w := (zero_of_info rc_info).1 w
theorem rc_inj {a b : Rcd} : rcL a = rcL b ↔ a = b := by
 constructor
 ·intro h
  obtain ⟨a1, a2, a3, a4, a5⟩ := a
  obtain ⟨b1, b2, b3, b4, b5⟩ := b
  simp only [rcL, List.cons.injEq, Value.int.injEq, Value.bool.injEq, true_and] at h
  obtain ⟨rfl, rfl, rfl, rfl, h5⟩ := h
  have : a5 = b5 := (List.map_inj_right (fun x y hxy => by
   simp only [bval, Value.int.injEq, true_and] at hxy
   exact UInt8.toNat_inj.1 (by omega))).1 h5
  rw [this]
 ·rintro rfl; rfl
theorem part_bool {P : Program} {e : TypeId} (he : P.underlying e = some .bool) (cs : Array Value) (i : Nat) (v : Value) (hv : cs[i]? = some v) (w : World) : (part e cs i).run P w = .ok v w := by
 simp [part, isAgg, Sem.run_bind, run_underlying he, Result.andThen, hv]
theorem part_tag (c : Rcd) (hc : c.hash.length = 32) (w : World) : (part 32 (rcL c).toArray 4).run Tryz.prog w = .ok (.agg (arrB c.hash)) w := by
 have hs : ∀ w : World, (sizeOf 32).run Tryz.prog w = .ok 32 w := fun w => by
  have h := (zero_of_info tag_info).2
  cases hi : Tryz.prog.info? 32 with
  | none => rw [hi] at h; cases h
  | some i => rw [hi] at h; simp at h; simp [sizeOf, typeInfo, hi, h]
 have e : (rcL c).toArray.extract 4 (4 + 32) = arrB c.hash := by
  have hl := rcL_len hc
  apply Array.toList_inj.1
  rw [Array.toList_extract]
  simp only [List.extract, rcL, arrB]
  simp only [List.drop_succ_cons, List.drop_zero]
  rw [List.take_of_length_le (by rw [List.length_map, hc]; decide)]
 simp only [part, isAgg, Sem.run_bind, run_underlying Tryz.underlying32, Result.andThen_ok, Sem.run_pure, hs, Sem.run_ite, if_true, e]
theorem run_equalIn_arrB {P : Program} {t e : TypeId} {n : Nat} (ht : P.underlying t = some (.array n e)) (he : P.underlying e = some (.int .u8)) (hs : ∀ w : World, (sizeOf e).run P w = .ok 1 w) (d : Nat) (a b : List UInt8) (ha : a.length = n) (hb : b.length = n) (w : World) :
  (Op.equalIn (d + 2) t (.agg (arrB a)) (.agg (arrB b))).run P w = .ok (decide (a = b)) w := by
 have hX : ∀ c : List UInt8, ∀ i, i < (c.map UInt8.toNat).length → (arrB c)[i]? = some (.int .u8 (nx (c.map UInt8.toNat) i : Int)) := fun c i hi => by
  have hi' : i < c.length := by simpa using hi
  rw [arrB_at hi', nx_of_lt hi, nth_of_lt hi']
  simp
 rw [run_equalIn_arr ht he hs d _ _ .u8 (a.map UInt8.toNat) (b.map UInt8.toNat) (hX a) (hX b) (by simpa using ha) (by simpa using hb)]
 congr 1
 rw [Bool.eq_iff_iff]
 simp only [decide_eq_true_eq]
 constructor
 ·intro h
  exact (List.map_inj_right (fun x y hxy => UInt8.toNat_inj.1 hxy)).1 h
 ·rintro rfl; rfl
theorem rc_eq (a b : Rcd) (ha : a.hash.length = 32) (hb : b.hash.length = 32) (w : World) : (Op.equalIn 10000 34 (.agg (rcL a).toArray) (.agg (rcL b).toArray)).run Tryz.prog w = .ok (decide (a = b)) w := by
 have hS : Tryz.prog.underlying 34 = some (.struct (Tryz.prog.fieldsOf 34)) := by kernel_rfl
 have hp : Tryz.prog.stoodInHeld 34 = false := by kernel_rfl
 have u3 := Tryz.underlying3
 have a3 := Tryz.isAgg3
 have u4 := Tryz.underlying4
 have a4 := Tryz.isAgg4
 have p1 : ∀ (c : Rcd) (w : World), (part 3 (rcL c).toArray 0).run Tryz.prog w = .ok (.int .i64 c.seq) w := fun c w => run_part u3 _ _ _ rfl
 have p2 : ∀ (c : Rcd) (w : World), (part 3 (rcL c).toArray 1).run Tryz.prog w = .ok (.int .i64 c.slot) w := fun c w => run_part u3 _ _ _ rfl
 have p3 : ∀ (c : Rcd) (w : World), (part 3 (rcL c).toArray 2).run Tryz.prog w = .ok (.int .i64 c.len) w := fun c w => run_part u3 _ _ _ rfl
 have p4 : ∀ (c : Rcd) (w : World), (part 4 (rcL c).toArray 3).run Tryz.prog w = .ok (.bool c.trial) w := fun c w => part_bool u4 _ _ _ rfl w
 have p5 := fun w : World => part_tag a ha w
 have p6 := fun w : World => part_tag b hb w
 have q1 : ∀ (x y : Int) (w : World), (Op.equalIn 9999 3 (.int .i64 x) (.int .i64 y)).run Tryz.prog w = .ok (x == y) w := fun x y w => run_equalIn_int w 9998 _ _ _ _ _ u3
 have q2 : ∀ (x y : Bool) (w : World), (Op.equalIn 9999 4 (.bool x) (.bool y)).run Tryz.prog w = .ok (x == y) w := fun x y w => run_equalIn_bool' w 9998 _ _ _ u4
 have q3 : ∀ w : World, (Op.equalIn 9999 32 (.agg (arrB a.hash)) (.agg (arrB b.hash))).run Tryz.prog w = .ok (decide (a.hash = b.hash)) w := fun w => run_equalIn_arrB (P := Tryz.prog) Tryz.underlying32 Tryz.underlying5 (sizeOf_one (by kernel_rfl)) 9997 a.hash b.hash ha hb w
 have f : (Tryz.prog.fieldsOf 34).toList.map (fun f => (f.type, f.offset, decide (f.name ≠ "_"))) = [(3, 0, true), (3, 1, true), (3, 2, true), (4, 3, true), (32, 4, true)] := by kernel_rfl
 rw [show (10000 : Nat) = 9999 + 1 from rfl, run_equalIn_agg w 9999 34 _ _ hS hp]
 generalize (Tryz.prog.fieldsOf 34).toList = fl at f ⊢
 have hl : fl.length = 5 := by have := congrArg List.length f; simpa using this
 match fl, hl, f with
 | [f0, f1, f2, f3, f4], _, f =>
  simp only [List.map_cons, List.map_nil, List.cons.injEq, Prod.mk.injEq, decide_eq_true_eq, and_true] at f
  obtain ⟨⟨t0, o0, n0⟩, ⟨t1, o1, n1⟩, ⟨t2, o2, n2⟩, ⟨t3, o3, n3⟩, ⟨t4, o4, n4⟩⟩ := f
  simp only [Op.eqFields, n0, n1, n2, n3, n4, t0, o0, t1, o1, t2, o2, t3, o3, t4, o4, ne_eq, not_false_eq_true, if_true, Sem.run_bind, Sem.run_ite, Sem.run_pure, p1, p2, p3, p4, p5, p6, Result.andThen_ok, q1, q2, q3]
  clear p1 p2 p3 p4 p5 p6 q1 q2 q3 hS hp u3 u4 a3 a4
  obtain ⟨a1, a2, a3, a4, a5⟩ := a
  obtain ⟨b1, b2, b3, b4, b5⟩ := b
  by_cases h1 : a1 = b1 <;> by_cases h2 : a2 = b2 <;> by_cases h3 : a3 = b3 <;> by_cases h4 : a4 = b4 <;> by_cases h5 : a5 = b5 <;> simp [h1, h2, h3, h4, h5, Sem.run_pure]
theorem rc_guard : Tryz.prog.eqGuardType Tryz.prog.depth 34 = false := by kernel_rfl
theorem wp_eqRc {o : Oper} {a : Act} {w : World} {K : Act → World → Prop} {Q : Exit → Act → World → Prop} (x y : Operand) (ho : o.op = .binOp .eql 34 x y 34) (r s : Rcd) (hx : a.eval x = .agg (rcL r).toArray) (hy : a.eval y = .agg (rcL s).toArray) (hr : r.hash.length = 32) (hs : s.hash.length = 32)
  (h : K (a.put o.dst (.bool (decide (r = s)))) w) : o.wp Tryz.prog a w K Q := by
 unfold Oper.wp execOp
 simp only [ho, hx, hy, Sem.run_bind, run_eqGuard_agg _ _ _ _ _ _ _ rc_guard, run_eql_struct, rc_eq r s hr hs, Result.andThen_ok, Sem.run_pure]
 exact h
theorem wp_neRc {o : Oper} {a : Act} {w : World} {K : Act → World → Prop} {Q : Exit → Act → World → Prop} (x y : Operand) (ho : o.op = .binOp .neq 34 x y 34) (r s : Rcd) (hx : a.eval x = .agg (rcL r).toArray) (hy : a.eval y = .agg (rcL s).toArray) (hr : r.hash.length = 32) (hs : s.hash.length = 32)
  (h : K (a.put o.dst (.bool (!decide (r = s)))) w) : o.wp Tryz.prog a w K Q := by
 unfold Oper.wp execOp
 simp only [ho, hx, hy, Sem.run_bind, run_eqGuard_agg _ _ _ _ _ _ _ rc_guard, run_neq_struct, rc_eq r s hr hs, Result.andThen_ok, Sem.run_pure]
 exact h
theorem wpList_eqRc {ops : Array Oper} {rest : List Oper} {o : Oper} {a : Act} {w : World} {Q : Exit → Act → World → Prop} (hw : Region.wanted o (yielded ops a.tmps) = true) (x y : Operand) (ho : o.op = .binOp .eql 34 x y 34) (r s : Rcd) (hx : a.eval x = .agg (rcL r).toArray) (hy : a.eval y = .agg (rcL s).toArray) (hr : r.hash.length = 32) (hs : s.hash.length = 32)
  (h : wpList Tryz.prog ops Q rest (a.put o.dst (.bool (decide (r = s)))) w) : wpList Tryz.prog ops Q (o :: rest) a w :=
 wpList_step fun K hK => by rw [if_pos hw]; exact wp_eqRc x y ho r s hx hy hr hs (hK _ _ h)
theorem wpList_neRc {ops : Array Oper} {rest : List Oper} {o : Oper} {a : Act} {w : World} {Q : Exit → Act → World → Prop} (hw : Region.wanted o (yielded ops a.tmps) = true) (x y : Operand) (ho : o.op = .binOp .neq 34 x y 34) (r s : Rcd) (hx : a.eval x = .agg (rcL r).toArray) (hy : a.eval y = .agg (rcL s).toArray) (hr : r.hash.length = 32) (hs : s.hash.length = 32)
  (h : wpList Tryz.prog ops Q rest (a.put o.dst (.bool (!decide (r = s)))) w) : wpList Tryz.prog ops Q (o :: rest) a w :=
 wpList_step fun K hK => by rw [if_pos hw]; exact wp_neRc x y ho r s hx hy hr hs (hK _ _ h)
theorem RB.setSeq {w : World} {g : Nat} {r : Rcd} (h : RB w g r) (x : Int) : RB (w.setCell ⟨g, 0, none⟩ (.int .i64 x)) g ⟨x, r.slot, r.len, r.trial, r.hash⟩ := ⟨h.1, h.2.set 0 (.int .i64 x)⟩
theorem RB.setSlot {w : World} {g : Nat} {r : Rcd} (h : RB w g r) (x : Int) : RB (w.setCell ⟨g, 1, none⟩ (.int .i64 x)) g ⟨r.seq, x, r.len, r.trial, r.hash⟩ := ⟨h.1, h.2.set 1 (.int .i64 x)⟩
theorem RB.setLen {w : World} {g : Nat} {r : Rcd} (h : RB w g r) (x : Int) : RB (w.setCell ⟨g, 2, none⟩ (.int .i64 x)) g ⟨r.seq, r.slot, x, r.trial, r.hash⟩ := ⟨h.1, h.2.set 2 (.int .i64 x)⟩
theorem RB.setTrial {w : World} {g : Nat} {r : Rcd} (h : RB w g r) (x : Bool) : RB (w.setCell ⟨g, 3, none⟩ (.bool x)) g ⟨r.seq, r.slot, r.len, x, r.hash⟩ := ⟨h.1, h.2.set 3 (.bool x)⟩
theorem RB.setHash {w : World} {g : Nat} {r : Rcd} (h : RB w g r) {t : List UInt8} (ht : t.length = 32) : RB (w.setCells g 4 (arrB t).toList) g ⟨r.seq, r.slot, r.len, r.trial, t⟩ := by
 refine ⟨ht, ?_⟩
 have hl := rcL_len h.1
 have e := heap_setCellsM g 34 (arrB t).toList 4 (rcL r).toArray w h.2 (by rw [List.size_toArray, hl]; simp [arrB, ht])
 show (w.setCells g 4 (arrB t).toList).heap[g]? = _
 rw [e]
 congr 2
 have l2 : (arrB t).toList = t.map bval := by simp [arrB]
 rw [l2, List.length_map, ht, List.drop_of_length_le (by simp [hl]), List.append_nil]
 rfl
theorem RB.setRow {w : World} {g : Nat} {r r' : Rcd} (h : RB w g r) (ht : r'.hash.length = 32) : RB (w.setRow g (rcL r').toArray) g r' := ⟨ht, setRow_heap _ _ _ _ _ _ h.2⟩
theorem RB.setOther {w : World} {g k : Nat} {r : Rcd} {cs : Array Value} (h : RB w g r) (hn : g ≠ k) : RB (w.setRow k cs) g r := ⟨h.1, (setRow_other w k g cs hn).trans h.2⟩
section
variable {H : Type} {enc : TypeId × Value → H} {W : World} {base : Nat} {held : Bool}
theorem trod_rc {n : Nat} {cs : List Value} {x : DataW H × List MemPlace} (h : DataW.trod enc Tryz.prog W base (fun _ => true) held n 34 cs = some x) : ∃ r : Rcd, cs = rcL r ∧ r.In := by
 obtain ⟨xs, k, rfl, hxx, hl, hxl, hq⟩ := DataW.trod_struct Tryz.underlying34 h
 have hl36 : cs.length = 36 := by rw [hl]; kernel_rfl
 have e1 : Tryz.prog.cellsOf 3 = 1 := by kernel_rfl
 have e2 : Tryz.prog.cellsOf 32 = 32 := by kernel_rfl
 have e3 : Tryz.prog.cellsOf 4 = 1 := by kernel_rfl
 have h0 : DataW.trod enc Tryz.prog W base (fun _ => true) held k 3 ((cs.drop 0).take (Tryz.prog.cellsOf 3)) = xs[0]? := hq 0 _ rfl
 have h1 : DataW.trod enc Tryz.prog W base (fun _ => true) held k 3 ((cs.drop 1).take (Tryz.prog.cellsOf 3)) = xs[1]? := hq 1 _ rfl
 have h2 : DataW.trod enc Tryz.prog W base (fun _ => true) held k 3 ((cs.drop 2).take (Tryz.prog.cellsOf 3)) = xs[2]? := hq 2 _ rfl
 have h3 : DataW.trod enc Tryz.prog W base (fun _ => true) held k 4 ((cs.drop 3).take (Tryz.prog.cellsOf 4)) = xs[3]? := hq 3 _ rfl
 have h4 : DataW.trod enc Tryz.prog W base (fun _ => true) held k 32 ((cs.drop 4).take (Tryz.prog.cellsOf 32)) = xs[4]? := hq 4 _ rfl
 have hx5 : xs.length = 5 := hxl
 rw [List.getElem?_eq_getElem (by omega)] at h0 h1 h2 h3 h4
 rw [e1] at h0 h1 h2
 rw [e3] at h3
 rw [e2] at h4
 match cs, hl36 with
 | c0 :: c1 :: c2 :: c3 :: tl, hl36 =>
  have htl : tl.length = 32 := by simpa using hl36
  simp only [List.drop_succ_cons, List.drop_zero, List.take_succ_cons, List.take_zero] at h0 h1 h2 h3 h4
  rw [List.take_of_length_le (by omega)] at h4
  obtain ⟨z0, g0, _, w0⟩ := DataW.trod_int Tryz.underlying3 h0
  obtain ⟨z1, g1, _, w1⟩ := DataW.trod_int Tryz.underlying3 h1
  obtain ⟨z2, g2, _, w2⟩ := DataW.trod_int Tryz.underlying3 h2
  obtain ⟨z3, g3, _⟩ := DataW.trod_bool Tryz.underlying4 h3
  obtain ⟨t4, g4, l4⟩ := trod_tag h4 htl
  simp only [List.cons.injEq, and_true] at g0 g1 g2 g3
  subst g0; subst g1; subst g2; subst g3; subst g4
  exact ⟨⟨z0, z1, z2, z3, t4⟩, rfl, ⟨wf_i64 w0, wf_i64 w1, wf_i64 w2, l4⟩⟩
theorem open_rc {r : Reach} {b0 : Nat} {v : Value} {d : DataW H} {ps : List MemPlace} (hval : Value.okWide Tryz.prog W r b0 34 v) (hd : DataW.Trod enc Tryz.prog W base (fun _ => true) held 34 v d ps) :
  ∃ x : Rcd, v = .agg (rcL x).toArray ∧ x.In := by
 obtain ⟨cs, rfl, _⟩ := okWide_struct Tryz.underlying34 hval
 obtain ⟨fuel, hf⟩ := hd
 obtain ⟨x, hcs, hin⟩ := trod_rc hf
 refine ⟨x, ?_, hin⟩
 have h : cs.toList = rcL x := by simpa [Value.cells] using hcs
 rw [← h]
end
end Go.Proofs.YtffdjnhhmfpkgaaGreat