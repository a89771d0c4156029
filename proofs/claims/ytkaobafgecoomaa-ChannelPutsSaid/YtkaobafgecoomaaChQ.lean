/- A queue in a block of the call's own (QB); contracts of the program's channel package, part two: New, from, bytes.Clone, filled. -/
import Derived.Test.YtkaobafgecoomaaChP
import Derived.Deep.WholeRow
import Derived.Lib.SliceRun
import Derived.Test.YtkaobafgecoomaaHeldE
namespace Go.Proofs.Ytkaobafgecoomaa
open Go.RowKit
set_option linter.unusedVariables false
set_option linter.unusedSimpArgs false

/-- A queue in a block that may be written. -/
def QB (w : World) (g : Nat) (c : Ch) (v : Value) : Prop := w.heap[g]? = some (.cells (quA c v) 26 (0, 0))
theorem QB.lt {w : World} {g : Nat} {c : Ch} {v : Value} (h : QB w g c v) : g < w.heap.size := heap_at_lt h
theorem QB.qx {w : World} {g : Nat} {c : Ch} {v : Value} (h : QB w g c v) : Qx w g c v := by
  have h' : w.heap[g]? = _ := h
  exact ⟨by simp [World.cell?, h', quA], by simp [World.cell?, h', quA], by simp [World.cell?, h', quA], by simp [World.cell?, h', quA], by simp [World.cell?, h', quA], by simp [World.cell?, h', quA], h.lt⟩
theorem QB.fz {w : World} {g : Nat} {c : Ch} {v : Value} (h : QB w g c v) (j : Nat) : w.frozen? ⟨g, j, none⟩ = false := by
  simp [World.frozen?, show w.heap[g]? = _ from h]
theorem QB.new (w : World) (a b d e s : Int) (v : Value) : QB (w.alloc (.cells #[.int .i64 a, .int .i64 b, .int .i64 d, .int .i64 e, .int .i64 s, v] 26)) w.heap.size ⟨a, b, d, e, s⟩ v := by show (w.heap.push _)[w.heap.size]? = _; simp [quA]
theorem QB.kept {R : Nat → Prop} {w w' : World} {g : Nat} {c : Ch} {v : Value} (h : QB w g c v) (hk : Keep R w w') (hn : ¬ R g) : QB w' g c v := (hk.block g h.lt hn).trans h
theorem QB.to {w w' : World} {g : Nat} {c : Ch} {v : Value} (h : QB w g c v) (hb : Below w.heap.size w w') : QB w' g c v := (hb.block g h.lt).trans h
theorem QB.below {B : Nat} {w w' : World} {g : Nat} {c : Ch} {v : Value} (h : QB w g c v) (hg : g < B) (hb : Below B w w') : QB w' g c v := (hb.block g hg).trans h
theorem QB.cellset {w : World} {g : Nat} {c : Ch} {v : Value} (h : QB w g c v) (j : Nat) (u : Value) {c' : Ch} {v' : Value} (e : (quA c v).setIfInBounds j u = quA c' v') : QB (w.setCell ⟨g, j, none⟩ u) g c' v' := by
  obtain ⟨hlt, hk⟩ := Array.getElem?_eq_some_iff.1 h
  show (w.heap.modify g _)[g]? = _
  rw [Array.getElem?_eq_getElem (by rw [Array.size_modify]; exact hlt), Array.getElem_modify_self, hk, ← e]
  rfl
theorem QB.set {w : World} {g : Nat} {c : Ch} {v : Value} (h : QB w g c v) (u : Value) : QB (w.setCell ⟨g, 5, none⟩ u) g c u := h.cellset 5 u rfl
theorem QB.other {w : World} {g : Nat} {c : Ch} {v : Value} (h : QB w g c v) (p : Addr) (u : Value) (hne : g ≠ p.block) : QB (w.setCell p u) g c v := (Below.heap_setCell w p u g hne).trans h
/-- A queue stored into a block. -/
def setQ (w : World) (g : Nat) (c : Ch) (v : Value) : World :=
  (((((w.setCell ⟨g, 0, none⟩ (.int .i64 c.id)).setCell ⟨g, 1, none⟩ (.int .i64 c.fr)).setCell ⟨g, 2, none⟩ (.int .i64 c.dst)).setCell ⟨g, 3, none⟩ (.int .i64 c.cap)).setCell ⟨g, 4, none⟩ (.int .i64 c.size)).setCell ⟨g, 5, none⟩ v
theorem QB.put {w : World} {g : Nat} {c : Ch} {v : Value} (h : QB w g c v) (c' : Ch) (v' : Value) : QB (setQ w g c' v') g c' v' := by
  obtain ⟨a, b, d, e, s⟩ := c
  obtain ⟨a', b', d', e', s'⟩ := c'
  have h1 := QB.cellset h 0 (.int .i64 a') (c' := ⟨a', b, d, e, s⟩) (v' := v) rfl
  have h2 := QB.cellset h1 1 (.int .i64 b') (c' := ⟨a', b', d, e, s⟩) (v' := v) rfl
  have h3 := QB.cellset h2 2 (.int .i64 d') (c' := ⟨a', b', d', e, s⟩) (v' := v) rfl
  have h4 := QB.cellset h3 3 (.int .i64 e') (c' := ⟨a', b', d', e', s⟩) (v' := v) rfl
  have h5 := QB.cellset h4 4 (.int .i64 s') (c' := ⟨a', b', d', e', s'⟩) (v' := v) rfl
  exact QB.cellset h5 5 v' rfl
theorem Keep.setQ {R : Nat → Prop} {a w : World} (h : Keep R a w) (g : Nat) (c : Ch) (v : Value) (hr : R g) : Keep R a (setQ w g c v) :=
  (((((h.setCell _ _ hr).setCell _ _ hr).setCell _ _ hr).setCell _ _ hr).setCell _ _ hr).setCell _ _ hr
theorem below_setQ {B : Nat} {a w : World} (h : Below B a w) {g : Nat} (hg : B ≤ g) (c : Ch) (v : Value) : Below B a (setQ w g c v) :=
  (((((h.setCell (p := ⟨g, 0, none⟩) hg _).setCell (p := ⟨g, 1, none⟩) hg _).setCell (p := ⟨g, 2, none⟩) hg _).setCell (p := ⟨g, 3, none⟩) hg _).setCell (p := ⟨g, 4, none⟩) hg _).setCell (p := ⟨g, 5, none⟩) hg _
theorem queue_info : (Try.prog.info? 26).map (·.size) = some 6 := by kernel_rfl
/-- What is handed back: a queue, and an error's number. -/
theorem res_queue {fn : Func} {p q : Tmp} (h : fn.results = #[.cell p 26, .tmp q]) (tmps : Array Value) (w : World) (g : Nat) (c : Ch) (v u : Value) (hp : tmps.getD p undef = .pointer (some ⟨g, 0, none⟩)) (hq : tmps.getD q undef = u) (hx : QB w g c v) :
    (results fn tmps).run Try.prog w = .ok (.tuple #[.agg (quA c v), u]) w := by
  have hp' : tmps[p]?.getD undef = .pointer (some ⟨g, 0, none⟩) := by simpa using hp
  have hq' : tmps[q]?.getD undef = u := by simpa using hq
  obtain ⟨c0, c1, c2, c3, c4, c5, _⟩ := hx.qx
  simp [results, h, hp', hq', asAddr]
  go_simp
  rfl
/-- Bytes, a queue, an error's number. -/
theorem res_take {fn : Func} {o p q : Tmp} (h : fn.results = #[.tmp o, .cell p 26, .tmp q]) (tmps : Array Value) (w : World) (g : Nat) (c : Ch) (v u y : Value) (ho : tmps.getD o undef = y) (hp : tmps.getD p undef = .pointer (some ⟨g, 0, none⟩)) (hq : tmps.getD q undef = u) (hx : QB w g c v) :
    (results fn tmps).run Try.prog w = .ok (.tuple #[y, .agg (quA c v), u]) w := by
  have ho' : tmps[o]?.getD undef = y := by simpa using ho
  have hp' : tmps[p]?.getD undef = .pointer (some ⟨g, 0, none⟩) := by simpa using hp
  have hq' : tmps[q]?.getD undef = u := by simpa using hq
  obtain ⟨c0, c1, c2, c3, c4, c5, _⟩ := hx.qx
  simp [results, h, hp', hq', ho', asAddr]
  go_simp
  rfl

theorem wFrom (A : Option Addr) (n c l : Nat) (w : World) (h1 : l ≤ n) (h2 : n ≤ c) :
    Calls Try.prog 28 #[.slice A n c, .int .i64 (l : Int)] w fun e w' => e = .returned (.slice (cutA A n l) (n - l) (n - l)) ∧ w = w' := by
  have hs := slice_lhm (T := 24) (U := 27) Try.underlying24 slices_size A h1 h2 .i64 .i64 .i64
  clear h1 h2
  go_enter Try.func28, Try.ntmps28
  go_wp2
  go_ret
  exact ⟨rfl, rfl⟩

set_option maxRecDepth 1000000 in
set_option maxHeartbeats 1000000 in
theorem bClone (A : Option Addr) (n c : Nat) (bs : List UInt8) (w : World) (h : Rd w w.heap.size A n bs) (hn : n ≤ 140737488355328) :
    Calls Try.prog 38 #[.slice A n c] w fun e w' => RetR w bs e w' := by
  have R := Lib.hid h
  have HN := Lib.hid hn
  have qT : ∀ (w : World) (a : Option Addr) (n c n' c' : Nat), (binOp .eql 27 (.slice a n c) (.slice none n' c')).run Try.prog w = .ok (.bool a.isNone) w := fun w a n c n' c' => Lib.run_eql_slice_nil w _ _ a n c n' c' Try.underlying27
  clear h hn
  rcases A with _ | a
  · obtain rfl : n = 0 := by
      rcases Nat.eq_zero_or_pos n with h0 | h0
      · exact h0
      · obtain ⟨_, _, e, _⟩ := R.out.2 h0; cases e
    have HL := Lib.hid (List.eq_nil_of_length_eq_zero R.out.1)
    go_enter Try.func38, Try.ntmps38
    go_wp2_with fail
    go_ret
    exact ⟨none, 0, 0, rfl, by rw [HL.out]; exact ⟨Rd.nil _ _ _, fun h => absurd h (Nat.lt_irrefl 0)⟩, by omega, by omega, Below.refl _ _⟩
  have R2 := Lib.hid (R.out.grow (.cells #[] 5))
  have O := Lib.hid (own_top (w := w) (B := w.heap.size) [] 5 (Nat.le_refl _) (by simp) (by decide))
  have B := Lib.hid ((Below.refl w.heap.size w).alloc (Nat.le_refl _) (.cells #[] 5))
  go_enter Try.func38, Try.ntmps38
  go_wp2_with (at_builtin; refine wpList_pushAll isU8 rfl _ _ rfl rfl (bs := []) rfl O.out R2.out B.out B.out.size (by have := HN.out; simp; omega) ?_; intro v1 w1 hown1 hbel1 hsz1)
  go_ret
  rw [List.length_nil, Nat.zero_add, List.nil_append] at hown1
  exact (RetB.mk hown1 hbel1).toR

/-- The closure that keeps a copy of a message in a queue that is boxed. -/
theorem wKeepM (A : Option Addr) (n c g B k : Nat) (ch : Ch) (v : Value) (xs : List Row) (m : List UInt8) (w : World) (hq : QB w g ch v) (hx : RowsX w B v k xs) (hg : g < B) (hB : B ≤ w.heap.size) (hr : Rd w w.heap.size A n m) (hn : n ≤ 140737488355328) (hk : k ≤ 1000) :
    Calls Try.prog 37 #[.slice A n c, .pointer (some ⟨g, 0, none⟩)] w fun e w' => e = .returned (.tuple #[]) ∧ ∃ v', QB w' g ch v' ∧ RowsX w' B v' (k + 1) (xs ++ [fullR m]) ∧ Keep (fun b => b = g ∨ B ≤ b) w w' := by
  have Q := Lib.hid hq
  have X := Lib.hid hx
  have HG := Lib.hid hg
  have HB := Lib.hid hB
  have HN := Lib.hid hn
  have HK := Lib.hid hk
  have R := Lib.hid hr
  have KK := Lib.hid ((Keep.refl (fun b => b = g ∨ B ≤ b) w).drew)
  clear hq hx hg hB hn hk hr
  go_enter Try.func37, Try.ntmps37
  go_wp2_with fail
  refine AnyE.start (m := 7) (S := (fun w' => w'.cell? ⟨g, 5, none⟩ = some v)) (by kernel_rfl) (Q.out.qx.c5) (fun hHeld => ?_)
  obtain ⟨wd, hwd⟩ : ∃ wd, w.drew = wd := ⟨_, rfl⟩
  replace Q : Hid (QB wd g ch v) := by rw [← hwd]; exact Q.out
  replace X : Hid (RowsX wd B v k xs) := by rw [← hwd]; exact X.out
  replace R : Hid (Rd wd wd.heap.size A n m) := by rw [← hwd]; exact R.out.drew'
  replace HB : Hid (B ≤ wd.heap.size) := by rw [← hwd]; exact HB.out
  rw [hwd] at hHeld KK ⊢
  clear hwd
  refine AnyE.take (i := 0) (v := ?_) rfl (by kernel_rfl) (by kernel_rfl) (by kernel_rfl) (by kernel_rfl) (fun _ _ _ h => h) (Or.inl ⟨by rfl, ?_⟩) (by assumption) ?_
  rotate_left 1
  · intro w hSw; (try dsimp only at hSw); go_simp; (try with_reducible rfl)
  simp only [Act.put, List.getElem_toArray, List.getElem_cons_zero, List.getElem_cons_succ, List.setIfInBounds_toArray, List.set_cons_zero, List.set_cons_succ]
  refine AnyE.take (i := 1) (v := ?_) rfl (by kernel_rfl) (by kernel_rfl) (by kernel_rfl) (by kernel_rfl) (fun _ _ _ h => h) (Or.inl ⟨by rfl, ?_⟩) (by assumption) ?_
  rotate_left 1
  · intro w hSw; (try dsimp only at hSw); go_simp; (try with_reducible rfl)
  simp only [Act.put, List.getElem_toArray, List.getElem_cons_zero, List.getElem_cons_succ, List.setIfInBounds_toArray, List.set_cons_zero, List.set_cons_succ]
  refine AnyE.take (i := 2) (v := ?_) rfl (by kernel_rfl) (by kernel_rfl) (by kernel_rfl) (by kernel_rfl) (fun _ _ _ h => h) (Or.inl ⟨by rfl, ?_⟩) (by assumption) ?_
  rotate_left 1
  · intro w hSw; (try dsimp only at hSw); go_simp; (try with_reducible rfl)
  simp only [Act.put, List.getElem_toArray, List.getElem_cons_zero, List.getElem_cons_succ, List.setIfInBounds_toArray, List.set_cons_zero, List.set_cons_succ]
  refine AnyE.ready (rs := [3]) (by kernel_rfl) (by simp) ?_
  refine ReadyE.cons rfl (fun K hK => ?_) ReadyE.nil
  go_simp
  refine (bClone A n c m wd R.out HN.out).mono ?_
  rintro e w1 ⟨A1, n1, c1, rfl, ho, hc1, hc1', hb⟩
  obtain rfl : n1 = m.length := ho.1.1.symm
  have HA := Lib.hid (show 0 < (fullR m).1.length → ∀ b o, A1 = some ⟨b, o, none⟩ → v.ownBlock ≠ some b from fun h0 b o e e2 => absurd (X.out.base e2).2 (Nat.not_lt.2 (ho.blk h0 e).1))
  replace Q := Lib.hid (Q.out.to hb)
  replace X := Lib.hid (X.out.to hb)
  have O := Lib.hid (show ROk w1 B (fullR m) A1 c1 from ⟨ho.mono HB.out, Nat.le_refl _, hc1, hc1'⟩)
  have HO := Lib.hid ho
  have HSZ := Lib.hid hb.size
  replace KK := Lib.hid (KK.out.trans (Keep.of_below hb))
  clear ho hc1 hc1' hb
  go_wp2_with fail
  refine hK.out _ _ (Q.out.qx.c5) (fun hHeld => ?_)
  clear hK K
  have HL := Lib.hid R.out.1
  have HW1 : Hid (QB (w1.alloc (.cells #[.slice A1 m.length c1] 27)) g ch v) := Q.out.to ((Below.refl _ _).alloc (Nat.le_refl _) _)
  refine AnyE.ready (rs := [4]) (by kernel_rfl) (by simp) ?_
  refine ReadyE.cons rfl (fun K hK => ?_) ReadyE.nil
  go_simp
  refine hK.out _ _ (HW1.out.qx.c5) (fun hHeld => ?_)
  clear hK K
  clear Q
  have BA := Lib.hid ((Below.refl w1.heap.size w1).alloc (Nat.le_refl _) (.cells #[.slice A1 m.length c1] 27))
  obtain ⟨v', w2, hrun, hX, hK, hob⟩ := run_pushX 24 (X.out.to BA.out) (x := fullR m) (A := A1) (c := c1) (heap_alloc_last w1 _) (O.out.to BA.out) HA.out (Nat.le_trans HB.out (Nat.le_trans HSZ.out BA.out.size)) (by have := HK.out; omega)
  obtain ⟨A2, c2, rfl, _, _⟩ := hX.slice
  have HRUN := Lib.hid hrun
  have HW2 : Hid (QB w2 g ch v) := HW1.out.kept hK (fun e => by have h1 := (X.out.base e).1; have h2 := HG.out; omega)
  have X2 := Lib.hid hX
  have K2 := Lib.hid (KK.out.trans ((Keep.of_below BA.out).trans (hK.more (fun b e => Or.inr (X.out.base e).1))))
  clear hX hK hob hrun
  refine AnyE.ready (rs := [5]) (by kernel_rfl) (by simp) ?_
  refine ReadyE.cons rfl (fun K hK => ?_) ReadyE.nil
  refine step_append_run rfl (.tmp 4) (.tmp 7) rfl rfl rfl HRUN.out ?_
  skip
  refine hK.out _ _ (HW2.out.qx.c5) (fun hHeld => ?_)
  clear hK K
  simp only [Act.put, List.getElem_toArray, List.getElem_cons_zero, List.getElem_cons_succ, List.setIfInBounds_toArray, List.set_cons_zero, List.set_cons_succ]
  clear hHeld HA
  have c5 := HW2.out.qx.c5
  have f5 := HW2.out.fz 5
  refine AnyE.take (i := 6) (v := ?_) rfl (by kernel_rfl) (by kernel_rfl) (by kernel_rfl) (by kernel_rfl) (fun _ _ _ h => h) (Or.inl ⟨by rfl, ?_⟩) (by assumption) ?_
  rotate_left 1
  · intro w hSw; (try dsimp only at hSw); go_simp; (try with_reducible rfl)
  simp only [Act.put, List.getElem_toArray, List.getElem_cons_zero, List.getElem_cons_succ, List.setIfInBounds_toArray, List.set_cons_zero, List.set_cons_succ]
  refine AnyE.ready (rs := [7]) (by kernel_rfl) (by simp) ?_
  refine ReadyE.last rfl (by kernel_rfl) (fun K hK => ?_)
  go_simp
  refine hK.out _ _ trivial (fun _ => ?_)
  clear hK K
  refine AnyE.done (by kernel_rfl) ?_ _
  have HQ3 := Lib.hid (HW2.out.set (.slice A2 (k + 1) c2))
  have HX3 := Lib.hid (X2.out.kept (R := fun b => b = g) ((Keep.refl _ _).setCell ⟨g, 5, none⟩ (.slice A2 (k + 1) c2) rfl) (fun b e => by rw [e]; exact HG.out))
  have HK3 := Lib.hid (K2.out.setCell ⟨g, 5, none⟩ (.slice A2 (k + 1) c2) (Or.inl rfl))
  clear c5 f5
  generalize w2.setCell ⟨g, 5, none⟩ (.slice A2 (k + 1) c2) = w3 at *
  go_wp2_with fail
  exact bodyPost_end (results_none rfl _ _ _) rfl ⟨rfl, _, HQ3.out, HX3.out, HK3.out⟩

theorem OwS.fullR_of {w : World} {B n c : Nat} {A : Option Addr} {l : List (List UInt8)} (h : RowsX w B (.slice A n c) n (l.map fullR)) : OwS w B A n (l.map fullR) := OwS.of h
theorem take_fulls {l : List (List UInt8)} {k : Nat} (h : k < l.length) : (l.take (k + 1)).map fullR = (l.take k).map fullR ++ [fullR (l.getD k [])] := by
  rw [List.take_succ_eq_append_getElem h, List.map_append]
  simp [List.getD, List.getElem?_eq_getElem h]
/-- What the queues that are handed back are made of. -/
def RetQu (w : World) (c : Ch) (l : List (List UInt8)) (v : Value) (w' : World) : Prop :=
  ∃ A n k, v = .agg (quA c (.slice A n k)) ∧ OwS w' w.heap.size A n (l.map fullR) ∧ n ≤ k ∧ k ≤ 9223372036854775807 ∧ Below w.heap.size w w'
set_option maxRecDepth 1000000 in
set_option maxHeartbeats 1000000 in
theorem wFilled (a b d e s : Int) (A : Option Addr) (n c : Nat) (l : List (List UInt8)) (w : World) (hS : RdS w w.heap.size A n l) (hn : n ≤ 900) (hl : ∀ m ∈ l, m.length ≤ 140737488355328) :
    Calls Try.prog 27 #[.agg #[.int .i64 a, .int .i64 b, .int .i64 d, .int .i64 e, .int .i64 s], .slice A n c] w fun x w' => ∃ v, x = .returned v ∧ RetQu w ⟨a, b, d, e, s⟩ l v w' := by
  have S := Lib.hid hS
  have HN := Lib.hid hn
  have HL := Lib.hid hl
  clear hS hn hl
  have B1 := (Below.refl w.heap.size w).alloc (Nat.le_refl _) (.cells #[.int .i64 a, .int .i64 b, .int .i64 d, .int .i64 e, .int .i64 s] 23)
  have S1 : (w.alloc (.cells #[.int .i64 a, .int .i64 b, .int .i64 d, .int .i64 e, .int .i64 s] 23)).heap.size = w.heap.size + 1 := by simp
  have B2 := B1.alloc B1.size (.cells #[.int .i64 0, .int .i64 0, .int .i64 0, .int .i64 0, .int .i64 0, .slice none 0 0] 26)
  have Q2 := QB.new (w.alloc (.cells #[.int .i64 a, .int .i64 b, .int .i64 d, .int .i64 e, .int .i64 s] 23)) 0 0 0 0 0 (.slice none 0 0)
  have S2 : ((w.alloc (.cells #[.int .i64 a, .int .i64 b, .int .i64 d, .int .i64 e, .int .i64 s] 23)).alloc (.cells #[.int .i64 0, .int .i64 0, .int .i64 0, .int .i64 0, .int .i64 0, .slice none 0 0] 26)).heap.size = w.heap.size + 1 + 1 := by simp
  rw [S1] at Q2
  generalize hw1 : (w.alloc (.cells #[.int .i64 a, .int .i64 b, .int .i64 d, .int .i64 e, .int .i64 s] 23)) = w1 at *
  generalize hw2 : (w1.alloc (.cells #[.int .i64 0, .int .i64 0, .int .i64 0, .int .i64 0, .int .i64 0, .slice none 0 0] 26)) = w2 at *
  have B3 := B2.alloc B2.size (.cells #[.int .i64 a, .int .i64 b, .int .i64 d, .int .i64 e, .int .i64 s, .slice none 0 0] 26)
  have Q3 := QB.new w2 a b d e s (.slice none 0 0)
  have Q23 := Q2.to ((Below.refl _ _).alloc (Nat.le_refl _) (.cells #[.int .i64 a, .int .i64 b, .int .i64 d, .int .i64 e, .int .i64 s, .slice none 0 0] 26))
  have S3 : (w2.alloc (.cells #[.int .i64 a, .int .i64 b, .int .i64 d, .int .i64 e, .int .i64 s, .slice none 0 0] 26)).heap.size = w.heap.size + 3 := by simp; omega
  rw [S2] at Q3
  have QR := Lib.hid Q23
  have QQ := Lib.hid Q3
  have BW := Lib.hid B3
  have SZ := Lib.hid S3
  have HW1 := Lib.hid hw1
  have HW2 := Lib.hid hw2
  clear B1 S1 B2 Q2 S2 B3 Q3 Q23 S3 hw1 hw2
  go_enter Try.func27, Try.ntmps27
  go_wp2_with fail
  rw [HW1.out, HW2.out]
  generalize (w2.alloc (.cells #[.int .i64 a, .int .i64 b, .int .i64 d, .int .i64 e, .int .i64 s, .slice none 0 0] 26)) = w3 at *
  clear HW1 HW2
  go_loopw [8, 14] (fun _ s14 wr => ∃ (k : Nat) (v : Value), k ≤ n ∧ s14 = .int .i64 (k : Int) ∧ QB wr (w.heap.size + 1 + 1) ⟨a, b, d, e, s⟩ v ∧ QB wr (w.heap.size + 1) Ch.zero (.slice none 0 0) ∧ RowsX wr (w.heap.size + 3) v k ((l.take k).map fullR) ∧ Below w.heap.size w wr ∧ w.heap.size + 3 ≤ wr.heap.size) (fun _ s14 _ => n - (intOf s14).toNat)
  case atStart => exact ⟨0, .slice none 0 0, Nat.zero_le _, rfl, QQ.out, QR.out, RowsX.nil _ _, BW.out, Nat.le_of_eq SZ.out.symm⟩
  case round =>
    obtain ⟨k, v, hk, rfl, hq, hr, hx, hb, hsz⟩ := hrel
    clear QQ QR BW SZ
    have Q := Lib.hid hq
    have R := Lib.hid hr
    have X := Lib.hid hx
    have B := Lib.hid hb
    have SZ := Lib.hid hsz
    clear hq hr hx hb hsz
    by_cases hlt : k < n
    · have hltI : (k : Int) < (n : Int) := by omega
      have hwk : IntKind.i64.wrap ((k : Int) + 1) = (k : Int) + 1 := by have := HN.out; rw [IntKind.wrap_i64]; omega
      have HLT : Hid (k < n) := hlt
      obtain ⟨bb, o, A', m, c', rfl, hcell, hrd⟩ := ((S.out.belowX B.out).moreX B.out.size).at_ hlt
      have HRD := Lib.hid hrd
      have HM : Hid (m ≤ 140737488355328) := by
        show _ ≤ _
        rw [← hrd.1]
        have hkl : k < l.length := by rw [S.out.1]; exact hlt
        refine HL.out _ ?_
        rw [show l.getD k [] = l[k] from by simp [List.getD, List.getElem?_eq_getElem hkl]]
        exact List.getElem_mem hkl
      clear hrd hk hlt
      go_wp2_with fail
      refine (wKeepM A' m c' (w.heap.size + 1 + 1) (w.heap.size + 3) k ⟨a, b, d, e, s⟩ v ((l.take k).map fullR) (l.getD k []) wr Q.out X.out (by omega) SZ.out HRD.out HM.out (by have := HN.out; have := HLT.out; omega)).mono ?_
      rintro x w4 ⟨rfl, v', hq, hx, hK⟩
      have Q4 := Lib.hid hq
      have X4 := Lib.hid hx
      have R4 := Lib.hid (R.out.kept hK (fun h => by omega))
      have B4 := Lib.hid (hK.below B.out B.out.size (fun b h => by omega))
      have Z4 := Lib.hid (Nat.le_trans SZ.out hK.size)
      clear hq hx hK
      go_wp2_with fail
      go_roundw
      case rel => exact ⟨k + 1, v', HLT.out, by go_num, Q4.out, R4.out, by rw [take_fulls (by rw [S.out.1]; exact HLT.out)]; exact X4.out, B4.out, Z4.out⟩
      case measure => have := HLT.out; simp [intOf]; omega
    · obtain rfl : k = n := by omega
      have hltI : ¬ (k : Int) < (k : Int) := by omega
      clear hk hlt
      have HT : Hid (l.take k = l) := by show _ = _; rw [← S.out.1]; exact List.take_length
      obtain ⟨A2, c2, rfl, hc2, hc2'⟩ := X.out.slice
      obtain ⟨c0, c1, c2', c3, c4, c5, _⟩ := Q.out.qx
      have f0 := R.out.fz 0
      have f1 := R.out.fz 1
      have f2 := R.out.fz 2
      have f3 := R.out.fz 3
      have f4 := R.out.fz 4
      have f5 := R.out.fz 5
      obtain ⟨r0, r1, r2, r3, r4, r5, _⟩ := R.out.qx
      have HC2 := Lib.hid hc2
      have HC3 := Lib.hid hc2'
      clear hc2 hc2'
      go_wp2_with fail
      change bodyPost _ _ _ _ _ (setQ wr (w.heap.size + 1) ⟨a, b, d, e, s⟩ (.slice A2 k c2))
      have P9 := R.out.put ⟨a, b, d, e, s⟩ (.slice A2 k c2)
      have K9 := (Keep.refl (fun b => b = w.heap.size + 1) wr).setQ _ ⟨a, b, d, e, s⟩ (.slice A2 k c2) rfl
      have B9 := below_setQ B.out (Nat.le_succ w.heap.size) ⟨a, b, d, e, s⟩ (.slice A2 k c2)
      generalize setQ wr (w.heap.size + 1) ⟨a, b, d, e, s⟩ (.slice A2 k c2) = w9 at *
      refine bodyPost_ret (results_cell_row rfl _ _ (w.heap.size + 1) 26 (quA ⟨a, b, d, e, s⟩ (.slice A2 k c2)) (0, 0) _ rfl P9 Try.underlying26 rfl queue_info) rfl ⟨_, rfl, A2, k, c2, rfl, ?_, HC2.out, HC3.out, B9⟩
      have O := OwS.of X.out
      rw [HT.out] at O
      exact (O.kept K9 (fun b h => by omega)).mono (by omega)
def newC (c : Ch) : Ch := if mayC c then c else Ch.zero
def newE (c : Ch) : Int := if mayC c then 0 else 2
set_option maxRecDepth 1000000 in
set_option maxHeartbeats 1000000 in
theorem wNew (a b d e s : Int) (w : World) :
    Calls Try.prog 19 #[.agg #[.int .i64 a, .int .i64 b, .int .i64 d, .int .i64 e, .int .i64 s]] w fun x w' =>
      x = .returned (.tuple #[.agg (quA (newC ⟨a, b, d, e, s⟩) (.slice none 0 0)), .int .i64 (newE ⟨a, b, d, e, s⟩)]) ∧ Below w.heap.size w w' := by
  have B1 := (Below.refl w.heap.size w).alloc (Nat.le_refl _) (.cells #[.int .i64 a, .int .i64 b, .int .i64 d, .int .i64 e, .int .i64 s] 23)
  have C1 := Cx.new w a b d e s 23
  have S1 : (w.alloc (.cells #[.int .i64 a, .int .i64 b, .int .i64 d, .int .i64 e, .int .i64 s] 23)).heap.size = w.heap.size + 1 := by simp
  have B2 := B1.alloc B1.size (.cells #[.int .i64 0, .int .i64 0, .int .i64 0, .int .i64 0, .int .i64 0, .slice none 0 0] 26)
  have Q2 := QB.new (w.alloc (.cells #[.int .i64 a, .int .i64 b, .int .i64 d, .int .i64 e, .int .i64 s] 23)) 0 0 0 0 0 (.slice none 0 0)
  rw [S1] at Q2
  generalize hw1 : (w.alloc (.cells #[.int .i64 a, .int .i64 b, .int .i64 d, .int .i64 e, .int .i64 s] 23)) = w1 at *
  have C2 := C1.to ((Below.refl _ _).alloc (Nat.le_refl _) (.cells #[.int .i64 0, .int .i64 0, .int .i64 0, .int .i64 0, .int .i64 0, .slice none 0 0] 26))
  generalize hw2 : (w1.alloc (.cells #[.int .i64 0, .int .i64 0, .int .i64 0, .int .i64 0, .int .i64 0, .slice none 0 0] 26)) = w2 at *
  have C := Lib.hid C2
  have R := Lib.hid Q2
  have B := Lib.hid B2
  obtain ⟨x0, x1, x2, x3, x4, _⟩ := C.out
  have HW1 := Lib.hid hw1
  have HW2 := Lib.hid hw2
  clear B1 C1 S1 B2 Q2 C2 hw1 hw2
  go_enter Try.func19, Try.ntmps19
  go_wp2_with fail
  rw [HW1.out, HW2.out]
  refine (wMay a b d e s w2).mono ?_
  rintro x w3 ⟨rfl, hb⟩
  replace C := Lib.hid (C.out.to hb)
  replace R := Lib.hid (R.out.to hb)
  replace B := Lib.hid (B.out.trans (hb.mono B.out.size))
  obtain ⟨x0, x1, x2, x3, x4, _⟩ := C.out
  obtain ⟨r0, r1, r2, r3, r4, r5, _⟩ := R.out.qx
  have f0 := R.out.fz 0
  have f1 := R.out.fz 1
  have f2 := R.out.fz 2
  have f3 := R.out.fz 3
  have f4 := R.out.fz 4
  have f5 := R.out.fz 5
  clear hb HW1 HW2
  cases hm : mayC ⟨a, b, d, e, s⟩
  · have HM := Lib.hid hm
    clear hm
    go_wp2_with fail
    change bodyPost _ _ _ _ _ (setQ w3 (w.heap.size + 1) Ch.zero (.slice none 0 0))
    have P9 := R.out.put Ch.zero (.slice none 0 0)
    have B9 := below_setQ B.out (Nat.le_succ w.heap.size) Ch.zero (.slice none 0 0)
    generalize setQ w3 (w.heap.size + 1) Ch.zero (.slice none 0 0) = w9 at *
    refine bodyPost_ret (res_queue rfl _ _ (w.heap.size + 1) Ch.zero (.slice none 0 0) (.int .i64 2) rfl rfl P9) rfl ⟨?_, B9⟩
    unfold newC newE; rw [HM.out]; rfl
  · have HM := Lib.hid hm
    clear hm
    go_wp2_with fail
    change bodyPost _ _ _ _ _ (setQ w3 (w.heap.size + 1) ⟨a, b, d, e, s⟩ (.slice none 0 0))
    have P9 := R.out.put ⟨a, b, d, e, s⟩ (.slice none 0 0)
    have B9 := below_setQ B.out (Nat.le_succ w.heap.size) ⟨a, b, d, e, s⟩ (.slice none 0 0)
    generalize setQ w3 (w.heap.size + 1) ⟨a, b, d, e, s⟩ (.slice none 0 0) = w9 at *
    refine bodyPost_ret (res_queue rfl _ _ (w.heap.size + 1) ⟨a, b, d, e, s⟩ (.slice none 0 0) (.int .i64 0) rfl rfl P9) rfl ⟨?_, B9⟩
    unfold newC newE; rw [HM.out]; rfl
end Go.Proofs.Ytkaobafgecoomaa
