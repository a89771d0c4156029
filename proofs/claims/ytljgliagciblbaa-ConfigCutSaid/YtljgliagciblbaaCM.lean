/- Several texts in one (a claim has 60 files at most): CfM, CfN, CfPa. -/
import Derived.Test.YtljgliagciblbaaCfB
import Derived.Test.YtljgliagciblbaaWireI
import Derived.Test.YtljgliagciblbaaCfX
import Derived.Test.YtljgliagciblbaaCfY
import Derived.Test.YtljgliagciblbaaCfA
namespace Go.Proofs.Ytljgliagciblbaa

/- The program's config while it parses: a reader whose pointer is in a box (RSt); the closures that read a window, a partition, a channel. -/
section
open Go.RowKit
set_option linter.unusedVariables false
set_option linter.unusedSimpArgs false

structure RSt (w0 w : World) (g gb : Nat) (F : Nat → Prop) (s : RS) : Prop where
  pr : PrAt w g F s
  nb : ¬ F gb
  box : w.cell? ⟨gb, 0, none⟩ = some (.pointer (some ⟨g, 0, none⟩))
  fb : ∀ k, F k → w0.heap.size ≤ k
  bb : w0.heap.size ≤ gb
  bel : Below w0.heap.size w0 w
theorem RSt.to {w0 w w' : World} {g gb : Nat} {F : Nat → Prop} {s : RS} (h : RSt w0 w g gb F s) (hb : Below w.heap.size w w') : RSt w0 w' g gb F s :=
  ⟨h.pr.to hb, h.nb, (hb.cell (p := ⟨gb, 0, none⟩) (cell_block h.box)).trans h.box, h.fb, h.bb, h.bel.trans (hb.mono h.bel.size)⟩
/-- What is written is not the reader's, nor its pointer's box. -/
theorem RSt.kept {R : Nat → Prop} {w0 w w' : World} {g gb : Nat} {F : Nat → Prop} {s : RS} (h : RSt w0 w g gb F s) (hk : Keep R w w') (hF : ∀ k, F k → ¬ R k) (hb : ¬ R gb) (h0 : ∀ k, R k → w0.heap.size ≤ k) : RSt w0 w' g gb F s :=
  ⟨h.pr.kept hk hF, h.nb, (hk.cell (a := ⟨gb, 0, none⟩) (cell_block h.box) hb).trans h.box, h.fb, h.bb, hk.below h.bel h.bel.size h0⟩
/-- How a reader moves on: its blocks are the ones that were, or new. -/
structure Went (w : World) (F F' : Nat → Prop) (w' : World) : Prop where
  ff : ∀ k, F' k → F k ∨ w.heap.size ≤ k
  kp : Keep F w w'
theorem Went.not {w w' : World} {F F' : Nat → Prop} (h : Went w F F' w') {b : Nat} (hb : b < w.heap.size) (hn : ¬ F b) : ¬ F' b := fun hh => by
  rcases h.ff b hh with hh | hh
  · exact hn hh
  · omega
theorem Went.trans {a b c : World} {F F' F'' : Nat → Prop} (h : Went a F F' b) (h' : Went b F' F'' c) : Went a F F'' c :=
  ⟨fun k hk => by
    rcases h'.ff k hk with hk | hk
    · exact h.ff k hk
    · exact .inr (Nat.le_trans h.kp.size hk), h.kp.new (h'.kp.more h.ff)⟩
theorem Went.before {a w w' : World} {F F' : Nat → Prop} (hb : Below a.heap.size a w) (h : Went w F F' w') : Went a F F' w' :=
  ⟨fun k hk => (h.ff k hk).imp id (Nat.le_trans hb.size), (Keep.of_below hb).trans h.kp⟩
theorem Went.after {a w w' : World} {F F' : Nat → Prop} (h : Went a F F' w) (hb : Below w.heap.size w w') : Went a F F' w' := ⟨h.ff, h.kp.trans (Keep.of_below hb)⟩
theorem Went.put {a w : World} {F F' : Nat → Prop} (h : Went a F F' w) {p : Addr} {v : Value} (hp : a.heap.size ≤ p.block) : Went a F F' (w.setCell p v) :=
  ⟨h.ff, h.kp.new ((Keep.refl _ w).setCell p v (.inr hp))⟩
theorem RSt.went {w0 w w' : World} {g gb : Nat} {F : Nat → Prop} {s s' : RS} (h : RSt w0 w g gb F s) (ht : PrTo w g F s' w') : ∃ F', RSt w0 w' g gb F' s' ∧ Went w F F' w' := by
  obtain ⟨F', h1, h2, h3⟩ := ht
  have hgb : gb < w.heap.size := cell_block h.box
  refine ⟨F', ⟨h1, fun hh => ?_, (h3.cell (a := ⟨gb, 0, none⟩) hgb h.nb).trans h.box, fun k hk => ?_, h.bb, h3.below h.bel h.bel.size h.fb⟩, h2, h3⟩
  · rcases h2 _ hh with hh | hh
    · exact h.nb hh
    · omega
  · rcases h2 k hk with hk | hk
    · exact h.fb k hk
    · exact Nat.le_trans h.bel.size hk
/-- With a box that the reader does not write into. -/
structure RBx (w0 wE w : World) (g gb gs : Nat) (T : TypeId) (cs : List Value) (FE F : Nat → Prop) (s : RS) : Prop where
  st : RSt w0 w g gb F s
  ns : ¬ F gs
  bx : Bx w gs T cs
  wt : Went wE FE F w
theorem RBx.went {w0 wE w w' : World} {g gb gs : Nat} {T : TypeId} {cs : List Value} {FE F : Nat → Prop} {s s' : RS} (h : RBx w0 wE w g gb gs T cs FE F s) (ht : PrTo w g F s' w') : ∃ F', RBx w0 wE w' g gb gs T cs FE F' s' := by
  obtain ⟨F', h1, h2⟩ := h.st.went ht
  exact ⟨F', h1, h2.not h.bx.lt h.ns, h.bx.kept h2.kp h.ns, h.wt.trans h2⟩
theorem RBx.new {w0 w : World} {g gb : Nat} {F : Nat → Prop} {s : RS} (h : RSt w0 w g gb F s) (T : TypeId) (cs : List Value) : RBx w0 w (w.alloc (.cells cs.toArray T)) g gb w.heap.size T cs F F s := by
  have hal := (Below.refl w.heap.size w).alloc (Nat.le_refl _) (.cells cs.toArray T)
  exact ⟨h.to hal, fun hh => by have := h.pr.lt _ hh; omega, Bx.new w T cs, fun k hk => .inl hk, Keep.of_below hal⟩
theorem RBx.drew {w0 wE w : World} {g gb gs : Nat} {T : TypeId} {cs : List Value} {FE F : Nat → Prop} {s : RS} (h : RBx w0 wE w g gb gs T cs FE F s) : RBx w0 wE w.drew g gb gs T cs FE F s :=
  ⟨h.st.to ((Below.refl _ w).drew), h.ns, h.bx, h.wt.after ((Below.refl _ w).drew)⟩
/-- The value that is handed back is stored: the reader stays. -/
theorem RBx.sets {w0 wE w : World} {g gb gs : Nat} {T : TypeId} {cs vs : List Value} {FE F : Nat → Prop} {s : RS} (h : RBx w0 wE w g gb gs T cs FE F s) (hl : vs.length = cs.length) (hg : wE.heap.size ≤ gs) (hne : gb ≠ gs) (h0 : w0.heap.size ≤ gs) : RBx w0 wE (setsC w gs 0 vs) g gb gs T vs FE F s := by
  have hK := Keep.sets (R := (· = gs)) rfl vs 0 (Keep.refl _ w)
  exact ⟨h.st.kept hK (fun k hk hh => h.ns (hh ▸ hk)) hne (fun k hk => hk ▸ h0), h.ns, h.bx.sets vs hl, h.wt.ff, h.wt.kp.new (hK.more fun k hk => .inr (hk ▸ hg))⟩
theorem res_win1 {fn : Func} {p : Tmp} (h : fn.results = #[.cell p 62]) (tmps : Array Value) (w : World) (g : Nat) (a b : Value) (hp : tmps.getD p undef = .pointer (some ⟨g, 0, none⟩)) (hx : Bx w g 62 [a, b]) :
    (results fn tmps).run Try.prog w = .ok (.agg #[a, b]) w := by
  have hp' : tmps[p]?.getD undef = .pointer (some ⟨g, 0, none⟩) := by simpa using hp
  have c0 := hx.at (j := 0) rfl
  have c1 := hx.at (j := 1) rfl
  simp [results, h, hp', asAddr]
  go_simp
  try rfl
theorem res_ch1 {fn : Func} {p : Tmp} (h : fn.results = #[.cell p 50]) (tmps : Array Value) (w : World) (g : Nat) (a b c d e : Value) (hp : tmps.getD p undef = .pointer (some ⟨g, 0, none⟩)) (hx : Bx w g 50 [a, b, c, d, e]) :
    (results fn tmps).run Try.prog w = .ok (.agg #[a, b, c, d, e]) w := by
  have hp' : tmps[p]?.getD undef = .pointer (some ⟨g, 0, none⟩) := by simpa using hp
  have c0 := hx.at (j := 0) rfl
  have c1 := hx.at (j := 1) rfl
  have c2 := hx.at (j := 2) rfl
  have c3 := hx.at (j := 3) rfl
  have c4 := hx.at (j := 4) rfl
  simp [results, h, hp', asAddr]
  go_simp
  try rfl
set_option maxRecDepth 1000000 in
set_option maxHeartbeats 1000000 in
theorem dWin (w0 w : World) (g gb : Nat) (F : Nat → Prop) (s : RS) (h : RSt w0 w g gb F s) :
    Calls Try.prog 46 #[.pointer (some ⟨gb, 0, none⟩)] w fun e w' => e = .returned (.agg #[.int .i64 (winV s).1, .int .i64 (winV s).2]) ∧ ∃ F', RSt w0 w' g gb F' (winS s) ∧ Went w F F' w' := by
  have HGB : Hid (gb < w.heap.size) := cell_block h.box
  have H00 : Hid (w0.heap.size ≤ w.heap.size) := h.bel.size
  have H0 : Hid (RBx w0 w (w.alloc (.cells #[.int .i64 0, .int .i64 0] 62)) g gb w.heap.size 62 [.int .i64 0, .int .i64 0] F F s) := RBx.new h _ [.int .i64 0, .int .i64 0]
  clear h
  go_enter Try.func46, Try.ntmps46
  go_wp2_with fail
  generalize w.alloc (.cells #[.int .i64 0, .int .i64 0] 62) = w1 at *
  obtain ⟨wd, hwd⟩ : ∃ wd, w1.drew = wd := ⟨_, rfl⟩
  replace H0 : Hid (RBx w0 w wd g gb w.heap.size 62 [.int .i64 0, .int .i64 0] F F s) := by
    (show RBx _ _ _ _ _ _ _ _ _ _ _)
    rw [← hwd]
    exact H0.out.drew
  refine wp_region_held_drew (S := (fun w' => w'.cell? ⟨gb, 0, none⟩ = some (.pointer (some ⟨g, 0, none⟩)))) (by kernel_rfl) ((by rw [hwd]; exact H0.out.st.box)) (fun hHeld => ?_)
  rw [hwd] at hHeld ⊢
  clear hwd
  obtain ⟨wz, hw2⟩ : ∃ w2, wd = w2 := ⟨_, rfl⟩
  rw [hw2] at H0 hHeld ⊢
  clear hw2
  refine wpAnyH_take (i := 0) (v := ?_) rfl (by kernel_rfl) (by kernel_rfl) (by kernel_rfl) (fun _ _ _ h => h) (Or.inl ⟨by rfl, ?_⟩) (by assumption) ?_
  rotate_left 1
  · intro w hSw; (try dsimp only at hSw); go_simp; (try with_reducible rfl)
  simp only [Act.put, List.getElem_toArray, List.getElem_cons_zero, List.getElem_cons_succ, List.setIfInBounds_toArray, List.set_cons_zero, List.set_cons_succ]
  refine wpAnyH_take (i := 2) (v := ?_) rfl (by kernel_rfl) (by kernel_rfl) (by kernel_rfl) (fun _ _ _ h => h) (Or.inl ⟨by rfl, ?_⟩) (by assumption) ?_
  rotate_left 1
  · intro w hSw; (try dsimp only at hSw); go_simp; (try with_reducible rfl)
  simp only [Act.put, List.getElem_toArray, List.getElem_cons_zero, List.getElem_cons_succ, List.setIfInBounds_toArray, List.set_cons_zero, List.set_cons_succ]
  refine wpAnyH_ready (rs := [1]) (by kernel_rfl) (by simp) ?_
  refine AllReadyH.cons rfl (fun K hK => ?_) AllReadyH.nil
  go_simp
  refine (pInt g F _ wz H0.out.st.pr).mono ?_
  rintro e w2 ⟨rfl, hto⟩
  obtain ⟨F1, hh⟩ := H0.out.went hto
  have H1 := Lib.hid hh
  clear hto hh hHeld H0
  go_wp2_with fail
  refine hK.out _ _ (H1.out.st.box) (fun hHeld => ?_)
  clear hK K
  refine wpAnyH_ready (rs := [3]) (by kernel_rfl) (by simp) ?_
  refine AllReadyH.cons rfl (fun K hK => ?_) AllReadyH.nil
  go_simp
  refine (pInt g F1 _ w2 H1.out.st.pr).mono ?_
  rintro e w3 ⟨rfl, hto⟩
  obtain ⟨F2, hh⟩ := H1.out.went hto
  have H2 := Lib.hid hh
  clear hto hh hHeld H1
  go_wp2_with fail
  refine hK.out _ _ (H2.out.st.box) (fun hHeld => ?_)
  clear hK K
  have XS := H2.out.sets (vs := [.int .i64 (intV s), .int .i64 (intV (s.next 8))]) (by simp) (Nat.le_refl _) (Nat.ne_of_lt HGB.out) H00.out
  have z0 := H2.out.bx.at (j := 0) rfl
  have f0 := H2.out.bx.fz 0
  have z1 := H2.out.bx.at (j := 1) rfl
  have f1 := H2.out.bx.fz 1
  refine wpAnyH_take (i := 4) (v := ?_) rfl (by kernel_rfl) (by kernel_rfl) (by kernel_rfl) (fun _ _ _ h => h) (Or.inl ⟨by rfl, ?_⟩) (by assumption) ?_
  rotate_left 1
  · intro w hSw; (try dsimp only at hSw); go_simp; (try with_reducible rfl)
  simp only [Act.put, List.getElem_toArray, List.getElem_cons_zero, List.getElem_cons_succ, List.setIfInBounds_toArray, List.set_cons_zero, List.set_cons_succ]
  refine wpAnyH_ready (rs := [5]) (by kernel_rfl) (by simp) ?_
  refine AllReadyH.cons rfl (fun K hK => ?_) AllReadyH.nil
  go_simp
  refine hK.out _ _ (XS.st.box) (fun hHeld => ?_)
  clear hK K
  refine wpAnyH_done (by kernel_rfl) ?_ _
  clear hHeld
  go_wp2_with fail
  change bodyPost _ _ _ _ _ (setsC w3 w.heap.size 0 [.int .i64 (intV s), .int .i64 (intV (s.next 8))])
  generalize setsC w3 w.heap.size 0 [.int .i64 (intV s), .int .i64 (intV (s.next 8))] = w9 at *
  refine bodyPost_ret (res_win1 rfl _ _ w.heap.size _ _ rfl XS.bx) rfl ⟨rfl, F2, XS.st, XS.wt⟩
set_option maxRecDepth 1000000 in
set_option maxHeartbeats 1000000 in
theorem dCh (w0 w : World) (g gb : Nat) (F : Nat → Prop) (s : RS) (h : RSt w0 w g gb F s) :
    Calls Try.prog 53 #[.pointer (some ⟨gb, 0, none⟩)] w fun e w' => e = .returned (.agg #[.int .i64 (chV s).id, .int .i64 (chV s).fr, .int .i64 (chV s).dst, .int .i64 (chV s).cap, .int .i64 (chV s).size]) ∧ ∃ F', RSt w0 w' g gb F' (chS s) ∧ Went w F F' w' := by
  have HGB : Hid (gb < w.heap.size) := cell_block h.box
  have H00 : Hid (w0.heap.size ≤ w.heap.size) := h.bel.size
  have H0 : Hid (RBx w0 w (w.alloc (.cells #[.int .i64 0, .int .i64 0, .int .i64 0, .int .i64 0, .int .i64 0] 50)) g gb w.heap.size 50 [.int .i64 0, .int .i64 0, .int .i64 0, .int .i64 0, .int .i64 0] F F s) := RBx.new h _ [.int .i64 0, .int .i64 0, .int .i64 0, .int .i64 0, .int .i64 0]
  clear h
  go_enter Try.func53, Try.ntmps53
  go_wp2_with fail
  generalize w.alloc (.cells #[.int .i64 0, .int .i64 0, .int .i64 0, .int .i64 0, .int .i64 0] 50) = w1 at *
  obtain ⟨wd, hwd⟩ : ∃ wd, w1.drew = wd := ⟨_, rfl⟩
  replace H0 : Hid (RBx w0 w wd g gb w.heap.size 50 [.int .i64 0, .int .i64 0, .int .i64 0, .int .i64 0, .int .i64 0] F F s) := by
    (show RBx _ _ _ _ _ _ _ _ _ _ _)
    rw [← hwd]
    exact H0.out.drew
  refine wp_region_held_drew (S := (fun w' => w'.cell? ⟨gb, 0, none⟩ = some (.pointer (some ⟨g, 0, none⟩)))) (by kernel_rfl) ((by rw [hwd]; exact H0.out.st.box)) (fun hHeld => ?_)
  rw [hwd] at hHeld ⊢
  clear hwd
  obtain ⟨wz, hw2⟩ : ∃ w2, wd = w2 := ⟨_, rfl⟩
  rw [hw2] at H0 hHeld ⊢
  clear hw2
  refine wpAnyH_take (i := 0) (v := ?_) rfl (by kernel_rfl) (by kernel_rfl) (by kernel_rfl) (fun _ _ _ h => h) (Or.inl ⟨by rfl, ?_⟩) (by assumption) ?_
  rotate_left 1
  · intro w hSw; (try dsimp only at hSw); go_simp; (try with_reducible rfl)
  simp only [Act.put, List.getElem_toArray, List.getElem_cons_zero, List.getElem_cons_succ, List.setIfInBounds_toArray, List.set_cons_zero, List.set_cons_succ]
  refine wpAnyH_take (i := 2) (v := ?_) rfl (by kernel_rfl) (by kernel_rfl) (by kernel_rfl) (fun _ _ _ h => h) (Or.inl ⟨by rfl, ?_⟩) (by assumption) ?_
  rotate_left 1
  · intro w hSw; (try dsimp only at hSw); go_simp; (try with_reducible rfl)
  simp only [Act.put, List.getElem_toArray, List.getElem_cons_zero, List.getElem_cons_succ, List.setIfInBounds_toArray, List.set_cons_zero, List.set_cons_succ]
  refine wpAnyH_take (i := 4) (v := ?_) rfl (by kernel_rfl) (by kernel_rfl) (by kernel_rfl) (fun _ _ _ h => h) (Or.inl ⟨by rfl, ?_⟩) (by assumption) ?_
  rotate_left 1
  · intro w hSw; (try dsimp only at hSw); go_simp; (try with_reducible rfl)
  simp only [Act.put, List.getElem_toArray, List.getElem_cons_zero, List.getElem_cons_succ, List.setIfInBounds_toArray, List.set_cons_zero, List.set_cons_succ]
  refine wpAnyH_take (i := 6) (v := ?_) rfl (by kernel_rfl) (by kernel_rfl) (by kernel_rfl) (fun _ _ _ h => h) (Or.inl ⟨by rfl, ?_⟩) (by assumption) ?_
  rotate_left 1
  · intro w hSw; (try dsimp only at hSw); go_simp; (try with_reducible rfl)
  simp only [Act.put, List.getElem_toArray, List.getElem_cons_zero, List.getElem_cons_succ, List.setIfInBounds_toArray, List.set_cons_zero, List.set_cons_succ]
  refine wpAnyH_take (i := 8) (v := ?_) rfl (by kernel_rfl) (by kernel_rfl) (by kernel_rfl) (fun _ _ _ h => h) (Or.inl ⟨by rfl, ?_⟩) (by assumption) ?_
  rotate_left 1
  · intro w hSw; (try dsimp only at hSw); go_simp; (try with_reducible rfl)
  simp only [Act.put, List.getElem_toArray, List.getElem_cons_zero, List.getElem_cons_succ, List.setIfInBounds_toArray, List.set_cons_zero, List.set_cons_succ]
  refine wpAnyH_ready (rs := [1]) (by kernel_rfl) (by simp) ?_
  refine AllReadyH.cons rfl (fun K hK => ?_) AllReadyH.nil
  go_simp
  refine (pInt g F _ wz H0.out.st.pr).mono ?_
  rintro e w2 ⟨rfl, hto⟩
  obtain ⟨F1, hh⟩ := H0.out.went hto
  have H1 := Lib.hid hh
  clear hto hh hHeld H0
  go_wp2_with fail
  refine hK.out _ _ (H1.out.st.box) (fun hHeld => ?_)
  clear hK K
  refine wpAnyH_ready (rs := [3]) (by kernel_rfl) (by simp) ?_
  refine AllReadyH.cons rfl (fun K hK => ?_) AllReadyH.nil
  go_simp
  refine (pInt g F1 _ w2 H1.out.st.pr).mono ?_
  rintro e w3 ⟨rfl, hto⟩
  obtain ⟨F2, hh⟩ := H1.out.went hto
  have H2 := Lib.hid hh
  clear hto hh hHeld H1
  go_wp2_with fail
  refine hK.out _ _ (H2.out.st.box) (fun hHeld => ?_)
  clear hK K
  refine wpAnyH_ready (rs := [5]) (by kernel_rfl) (by simp) ?_
  refine AllReadyH.cons rfl (fun K hK => ?_) AllReadyH.nil
  go_simp
  refine (pInt g F2 _ w3 H2.out.st.pr).mono ?_
  rintro e w4 ⟨rfl, hto⟩
  obtain ⟨F3, hh⟩ := H2.out.went hto
  have H3 := Lib.hid hh
  clear hto hh hHeld H2
  go_wp2_with fail
  refine hK.out _ _ (H3.out.st.box) (fun hHeld => ?_)
  clear hK K
  refine wpAnyH_ready (rs := [7]) (by kernel_rfl) (by simp) ?_
  refine AllReadyH.cons rfl (fun K hK => ?_) AllReadyH.nil
  go_simp
  refine (pInt g F3 _ w4 H3.out.st.pr).mono ?_
  rintro e w5 ⟨rfl, hto⟩
  obtain ⟨F4, hh⟩ := H3.out.went hto
  have H4 := Lib.hid hh
  clear hto hh hHeld H3
  go_wp2_with fail
  refine hK.out _ _ (H4.out.st.box) (fun hHeld => ?_)
  clear hK K
  refine wpAnyH_ready (rs := [9]) (by kernel_rfl) (by simp) ?_
  refine AllReadyH.cons rfl (fun K hK => ?_) AllReadyH.nil
  go_simp
  refine (pInt g F4 _ w5 H4.out.st.pr).mono ?_
  rintro e w6 ⟨rfl, hto⟩
  obtain ⟨F5, hh⟩ := H4.out.went hto
  have H5 := Lib.hid hh
  clear hto hh hHeld H4
  go_wp2_with fail
  refine hK.out _ _ (H5.out.st.box) (fun hHeld => ?_)
  clear hK K
  have XS := H5.out.sets (vs := [.int .i64 (intV s), .int .i64 (intV (s.next 8)), .int .i64 (intV ((s.next 8).next 8)), .int .i64 (intV (((s.next 8).next 8).next 8)), .int .i64 (intV ((((s.next 8).next 8).next 8).next 8))]) (by simp) (Nat.le_refl _) (Nat.ne_of_lt HGB.out) H00.out
  have z0 := H5.out.bx.at (j := 0) rfl
  have f0 := H5.out.bx.fz 0
  have z1 := H5.out.bx.at (j := 1) rfl
  have f1 := H5.out.bx.fz 1
  have z2 := H5.out.bx.at (j := 2) rfl
  have f2 := H5.out.bx.fz 2
  have z3 := H5.out.bx.at (j := 3) rfl
  have f3 := H5.out.bx.fz 3
  have z4 := H5.out.bx.at (j := 4) rfl
  have f4 := H5.out.bx.fz 4
  refine wpAnyH_take (i := 10) (v := ?_) rfl (by kernel_rfl) (by kernel_rfl) (by kernel_rfl) (fun _ _ _ h => h) (Or.inl ⟨by rfl, ?_⟩) (by assumption) ?_
  rotate_left 1
  · intro w hSw; (try dsimp only at hSw); go_simp; (try with_reducible rfl)
  simp only [Act.put, List.getElem_toArray, List.getElem_cons_zero, List.getElem_cons_succ, List.setIfInBounds_toArray, List.set_cons_zero, List.set_cons_succ]
  refine wpAnyH_ready (rs := [11]) (by kernel_rfl) (by simp) ?_
  refine AllReadyH.cons rfl (fun K hK => ?_) AllReadyH.nil
  go_simp
  refine hK.out _ _ (XS.st.box) (fun hHeld => ?_)
  clear hK K
  refine wpAnyH_done (by kernel_rfl) ?_ _
  clear hHeld
  go_wp2_with fail
  change bodyPost _ _ _ _ _ (setsC w6 w.heap.size 0 [.int .i64 (intV s), .int .i64 (intV (s.next 8)), .int .i64 (intV ((s.next 8).next 8)), .int .i64 (intV (((s.next 8).next 8).next 8)), .int .i64 (intV ((((s.next 8).next 8).next 8).next 8))])
  generalize setsC w6 w.heap.size 0 [.int .i64 (intV s), .int .i64 (intV (s.next 8)), .int .i64 (intV ((s.next 8).next 8)), .int .i64 (intV (((s.next 8).next 8).next 8)), .int .i64 (intV ((((s.next 8).next 8).next 8).next 8))] = w9 at *
  refine bodyPost_ret (res_ch1 rfl _ _ w.heap.size _ _ _ _ _ rfl XS.bx) rfl ⟨rfl, F5, XS.st, XS.wt⟩
theorem RBx.wentB {w0 wE w w' : World} {g gb gs : Nat} {T : TypeId} {cs : List Value} {FE F F' : Nat → Prop} {s s' : RS} {A : Option Addr} {m : Nat} (h : RBx w0 wE w g gb gs T cs FE F s) (h1 : PrAt w' g F' s') (ho : Off A m F') (h2 : ∀ k, F' k → F k ∨ w.heap.size ≤ k) (h3 : Keep F w w') :
    ∃ F'', RBx w0 wE w' g gb gs T cs FE F'' s' ∧ Off A m F'' ∧ Went w F F'' w' := by
  have hgb : gb < w.heap.size := cell_block h.st.box
  have hW : Went w F F' w' := ⟨h2, h3⟩
  refine ⟨F', ⟨⟨h1, hW.not hgb h.st.nb, (h3.cell (a := ⟨gb, 0, none⟩) hgb h.st.nb).trans h.st.box, fun k hk => ?_, h.st.bb, h3.below h.st.bel h.st.bel.size h.st.fb⟩, hW.not h.bx.lt h.ns, h.bx.kept h3 h.ns, h.wt.trans hW⟩, ho, hW⟩
  rcases h2 k hk with hk | hk
  · exact h.st.fb k hk
  · exact Nat.le_trans h.st.bel.size hk
set_option maxRecDepth 1000000 in
set_option maxHeartbeats 1000000 in
theorem dPt (w0 w : World) (g gb : Nat) (F : Nat → Prop) (s : RS) (h : RSt w0 w g gb F s) :
    Calls Try.prog 49 #[.pointer (some ⟨gb, 0, none⟩)] w fun e w' => ∃ A m c F', e = .returned (.agg #[.int .i64 (ptV s).id, .int .i64 (ptV s).base, .int .i64 (ptV s).size, .bool (ptV s).keep, .slice A m c]) ∧ OwR w' w.heap.size A m (ptV s).img ∧ m ≤ c ∧ c ≤ 9223372036854775807 ∧ Off A m F' ∧ RSt w0 w' g gb F' (ptS s) ∧ Went w F F' w' := by
  have HGB : Hid (gb < w.heap.size) := cell_block h.box
  have H00 : Hid (w0.heap.size ≤ w.heap.size) := h.bel.size
  have H0 : Hid (RBx w0 w (w.alloc (.cells #[.int .i64 0, .int .i64 0, .int .i64 0, .bool false, .slice none 0 0] 46)) g gb w.heap.size 46 [.int .i64 0, .int .i64 0, .int .i64 0, .bool false, .slice none 0 0] F F s) := RBx.new h _ [.int .i64 0, .int .i64 0, .int .i64 0, .bool false, .slice none 0 0]
  clear h
  go_enter Try.func49, Try.ntmps49
  go_wp2_with fail
  generalize w.alloc (.cells #[.int .i64 0, .int .i64 0, .int .i64 0, .bool false, .slice none 0 0] 46) = w1 at *
  obtain ⟨wd, hwd⟩ : ∃ wd, w1.drew = wd := ⟨_, rfl⟩
  replace H0 : Hid (RBx w0 w wd g gb w.heap.size 46 [.int .i64 0, .int .i64 0, .int .i64 0, .bool false, .slice none 0 0] F F s) := by
    (show RBx _ _ _ _ _ _ _ _ _ _ _)
    rw [← hwd]
    exact H0.out.drew
  refine wp_region_held_drew (S := (fun w' => w'.cell? ⟨gb, 0, none⟩ = some (.pointer (some ⟨g, 0, none⟩)))) (by kernel_rfl) ((by rw [hwd]; exact H0.out.st.box)) (fun hHeld => ?_)
  rw [hwd] at hHeld ⊢
  clear hwd
  obtain ⟨wz, hw2⟩ : ∃ w2, wd = w2 := ⟨_, rfl⟩
  rw [hw2] at H0 hHeld ⊢
  clear hw2
  refine wpAnyH_take (i := 0) (v := ?_) rfl (by kernel_rfl) (by kernel_rfl) (by kernel_rfl) (fun _ _ _ h => h) (Or.inl ⟨by rfl, ?_⟩) (by assumption) ?_
  rotate_left 1
  · intro w hSw; (try dsimp only at hSw); go_simp; (try with_reducible rfl)
  simp only [Act.put, List.getElem_toArray, List.getElem_cons_zero, List.getElem_cons_succ, List.setIfInBounds_toArray, List.set_cons_zero, List.set_cons_succ]
  refine wpAnyH_take (i := 2) (v := ?_) rfl (by kernel_rfl) (by kernel_rfl) (by kernel_rfl) (fun _ _ _ h => h) (Or.inl ⟨by rfl, ?_⟩) (by assumption) ?_
  rotate_left 1
  · intro w hSw; (try dsimp only at hSw); go_simp; (try with_reducible rfl)
  simp only [Act.put, List.getElem_toArray, List.getElem_cons_zero, List.getElem_cons_succ, List.setIfInBounds_toArray, List.set_cons_zero, List.set_cons_succ]
  refine wpAnyH_take (i := 4) (v := ?_) rfl (by kernel_rfl) (by kernel_rfl) (by kernel_rfl) (fun _ _ _ h => h) (Or.inl ⟨by rfl, ?_⟩) (by assumption) ?_
  rotate_left 1
  · intro w hSw; (try dsimp only at hSw); go_simp; (try with_reducible rfl)
  simp only [Act.put, List.getElem_toArray, List.getElem_cons_zero, List.getElem_cons_succ, List.setIfInBounds_toArray, List.set_cons_zero, List.set_cons_succ]
  refine wpAnyH_take (i := 7) (v := ?_) rfl (by kernel_rfl) (by kernel_rfl) (by kernel_rfl) (fun _ _ _ h => h) (Or.inl ⟨by rfl, ?_⟩) (by assumption) ?_
  rotate_left 1
  · intro w hSw; (try dsimp only at hSw); go_simp; (try with_reducible rfl)
  simp only [Act.put, List.getElem_toArray, List.getElem_cons_zero, List.getElem_cons_succ, List.setIfInBounds_toArray, List.set_cons_zero, List.set_cons_succ]
  refine wpAnyH_take (i := 9) (v := ?_) rfl (by kernel_rfl) (by kernel_rfl) (by kernel_rfl) (fun _ _ _ h => h) (Or.inl ⟨by rfl, ?_⟩) (by assumption) ?_
  rotate_left 1
  · intro w hSw; (try dsimp only at hSw); go_simp; (try with_reducible rfl)
  simp only [Act.put, List.getElem_toArray, List.getElem_cons_zero, List.getElem_cons_succ, List.setIfInBounds_toArray, List.set_cons_zero, List.set_cons_succ]
  refine wpAnyH_ready (rs := [1]) (by kernel_rfl) (by simp) ?_
  refine AllReadyH.cons rfl (fun K hK => ?_) AllReadyH.nil
  go_simp
  refine (pInt g F _ wz H0.out.st.pr).mono ?_
  rintro e w2 ⟨rfl, hto⟩
  obtain ⟨F1, hh⟩ := H0.out.went hto
  have H1 := Lib.hid hh
  clear hto hh hHeld H0
  go_wp2_with fail
  refine hK.out _ _ (H1.out.st.box) (fun hHeld => ?_)
  clear hK K
  refine wpAnyH_ready (rs := [3]) (by kernel_rfl) (by simp) ?_
  refine AllReadyH.cons rfl (fun K hK => ?_) AllReadyH.nil
  go_simp
  refine (pInt g F1 _ w2 H1.out.st.pr).mono ?_
  rintro e w3 ⟨rfl, hto⟩
  obtain ⟨F2, hh⟩ := H1.out.went hto
  have H2 := Lib.hid hh
  clear hto hh hHeld H1
  go_wp2_with fail
  refine hK.out _ _ (H2.out.st.box) (fun hHeld => ?_)
  clear hK K
  refine wpAnyH_ready (rs := [5]) (by kernel_rfl) (by simp) ?_
  refine AllReadyH.cons rfl (fun K hK => ?_) AllReadyH.nil
  go_simp
  refine (pInt g F2 _ w3 H2.out.st.pr).mono ?_
  rintro e w4 ⟨rfl, hto⟩
  obtain ⟨F3, hh⟩ := H2.out.went hto
  have H3 := Lib.hid hh
  clear hto hh hHeld H2
  go_wp2_with fail
  refine hK.out _ _ (H3.out.st.box) (fun hHeld => ?_)
  clear hK K
  refine wpAnyH_take (i := 6) (v := ?_) rfl (by kernel_rfl) (by kernel_rfl) (by kernel_rfl) (fun _ _ _ h => h) (Or.inl ⟨by rfl, ?_⟩) (by assumption) ?_
  rotate_left 1
  · intro w hSw; (try dsimp only at hSw); go_simp; (try with_reducible rfl)
  simp only [Act.put, List.getElem_toArray, List.getElem_cons_zero, List.getElem_cons_succ, List.setIfInBounds_toArray, List.set_cons_zero, List.set_cons_succ]
  refine wpAnyH_ready (rs := [8]) (by kernel_rfl) (by simp) ?_
  refine AllReadyH.cons rfl (fun K hK => ?_) AllReadyH.nil
  go_simp
  refine (pFlag g F3 _ w4 H3.out.st.pr).mono ?_
  rintro e w5 ⟨rfl, hto⟩
  obtain ⟨F4, hh⟩ := H3.out.went hto
  have H4 := Lib.hid hh
  clear hto hh hHeld H3
  go_wp2_with fail
  refine hK.out _ _ (H4.out.st.box) (fun hHeld => ?_)
  clear hK K
  refine wpAnyH_ready (rs := [10]) (by kernel_rfl) (by simp) ?_
  refine AllReadyH.cons rfl (fun K hK => ?_) AllReadyH.nil
  go_simp
  refine (pBytes g F4 _ w5 H4.out.st.pr).mono ?_
  rintro e w6 ⟨A, m, c, F5, rfl, ho, hmc, hcc, hp, hoff, hff, hkk⟩
  obtain ⟨F5', hh, hpo, hwt⟩ := H4.out.wentB hp hoff hff hkk
  have H5 := Lib.hid hh
  have HP := Lib.hid hpo
  have HO := Lib.hid ho
  have HSZ := Lib.hid H4.out.wt.kp.size
  have HGS := Lib.hid H4.out.bx.lt
  have HMC := Lib.hid (And.intro hmc hcc)
  clear hp hoff hff hkk hh hpo hwt ho hmc hcc hHeld H4
  go_wp2_with fail
  refine hK.out _ _ (H5.out.st.box) (fun hHeld => ?_)
  clear hK K
  have XS := H5.out.sets (vs := [.int .i64 (intV s), .int .i64 (intV (s.next 8)), .int .i64 (intV ((s.next 8).next 8)), .bool (decide ((((s.next 8).next 8).next 8).numb 1 = 1)), .slice A m c]) (by simp) (Nat.le_refl _) (Nat.ne_of_lt HGB.out) H00.out
  have z0 := H5.out.bx.at (j := 0) rfl
  have f0 := H5.out.bx.fz 0
  have z1 := H5.out.bx.at (j := 1) rfl
  have f1 := H5.out.bx.fz 1
  have z2 := H5.out.bx.at (j := 2) rfl
  have f2 := H5.out.bx.fz 2
  have z3 := H5.out.bx.at (j := 3) rfl
  have f3 := H5.out.bx.fz 3
  have z4 := H5.out.bx.at (j := 4) rfl
  have f4 := H5.out.bx.fz 4
  have O9 := Lib.hid (HO.out.kept (Keep.sets (R := (· = w.heap.size)) rfl [.int .i64 (intV s), .int .i64 (intV (s.next 8)), .int .i64 (intV ((s.next 8).next 8)), .bool (decide ((((s.next 8).next 8).next 8).numb 1 = 1)), .slice A m c] 0 (Keep.refl _ w6)) (HO.out.off (fun k hk => by have := HGS.out; have : k = w.heap.size := hk; omega)))
  refine wpAnyH_take (i := 11) (v := ?_) rfl (by kernel_rfl) (by kernel_rfl) (by kernel_rfl) (fun _ _ _ h => h) (Or.inl ⟨by rfl, ?_⟩) (by assumption) ?_
  rotate_left 1
  · intro w hSw; (try dsimp only at hSw); go_simp; (try with_reducible rfl)
  simp only [Act.put, List.getElem_toArray, List.getElem_cons_zero, List.getElem_cons_succ, List.setIfInBounds_toArray, List.set_cons_zero, List.set_cons_succ]
  refine wpAnyH_ready (rs := [12]) (by kernel_rfl) (by simp) ?_
  refine AllReadyH.cons rfl (fun K hK => ?_) AllReadyH.nil
  go_simp
  refine hK.out _ _ (XS.st.box) (fun hHeld => ?_)
  clear hK K
  refine wpAnyH_done (by kernel_rfl) ?_ _
  clear hHeld
  go_wp2_with fail
  change bodyPost _ _ _ _ _ (setsC w6 w.heap.size 0 [.int .i64 (intV s), .int .i64 (intV (s.next 8)), .int .i64 (intV ((s.next 8).next 8)), .bool (decide ((((s.next 8).next 8).next 8).numb 1 = 1)), .slice A m c])
  generalize setsC w6 w.heap.size 0 [.int .i64 (intV s), .int .i64 (intV (s.next 8)), .int .i64 (intV ((s.next 8).next 8)), .bool (decide ((((s.next 8).next 8).next 8).numb 1 = 1)), .slice A m c] = w9 at *
  refine bodyPost_ret (res_pt rfl _ _ w.heap.size _ _ _ _ _ rfl XS.bx) rfl ⟨A, m, c, F5', rfl, O9.out.mono HSZ.out, HMC.out.1, HMC.out.2, HP.out, XS.st, XS.wt⟩
end

/- The program's config: readList, three times. -/
section
open Go.RowKit
set_option linter.unusedVariables false
set_option linter.unusedSimpArgs false

/-- A list that is read: the reader, the row so far. -/
structure LSt (w0 wE : World) (g gb : Nat) (FE F : Nat → Prop) (U : TypeId) (z : Nat) (w : World) (s : RS) (v : Value) (k : Nat) (xs : List Value) : Prop where
  st : RSt w0 w g gb F s
  row : w.ownsRow wE.heap.size U z v k xs
  off : ∀ b, v.ownBlock = some b → ¬ F b
  wt : Went wE FE F w
section
variable {w0 wE w : World} {g gb : Nat} {FE F : Nat → Prop} {U : TypeId} {z : Nat} {s : RS} {v : Value} {k : Nat} {xs : List Value}
theorem LSt.start (h : RSt w0 w g gb F s) (hw : Went wE FE F w) (U : TypeId) (z : Nat) : LSt w0 wE g gb FE F U z w s (.slice none 0 0) 0 [] := ⟨h, World.ownsRow_nil _ _ _ _, fun _ hb => (by cases hb), hw⟩
theorem LSt.call {w1 : World} {F' : Nat → Prop} {s' : RS} (h : LSt w0 wE g gb FE F U z w s v k xs) (h1 : RSt w0 w1 g gb F' s') (hw : Went w F F' w1) : LSt w0 wE g gb FE F' U z w1 s' v k xs :=
  ⟨h1, own_kv h.row hw.kp (fun b hb => h.off b hb), fun b hb => hw.not (h.row.lt b hb).2 (h.off b hb), h.wt.trans hw⟩
theorem LSt.more {w1 : World} (h : LSt w0 wE g gb FE F U z w s v k xs) (hb : Below w.heap.size w w1) : LSt w0 wE g gb FE F U z w1 s v k xs :=
  ⟨h.st.to hb, own_bv h.row hb, h.off, h.wt.after hb⟩
theorem LSt.push {w1 : World} {v' : Value} {k' : Nat} {xs' : List Value} (h : LSt w0 wE g gb FE F U z w s v k xs) (hown : w1.ownsRow wE.heap.size U z v' k' xs') (hk : Keep (fun j => v.ownBlock = some j) w w1) (hv : ∀ b, v'.ownBlock = some b → v.ownBlock = some b ∨ w.heap.size ≤ b)
    (hgb : gb < wE.heap.size) (h0 : w0.heap.size ≤ wE.heap.size) : LSt w0 wE g gb FE F U z w1 s v' k' xs' := by
  refine ⟨h.st.kept hk (fun j hj hh => h.off j hh hj) (fun hh => by have := (h.row.lt _ hh).1; omega) (fun j hj => by have := (h.row.lt _ hj).1; omega), hown, fun b hb hh => ?_, h.wt.ff, h.wt.kp.new (hk.more fun j hj => .inr (h.row.lt j hj).1)⟩
  rcases hv b hb with hb | hb
  · exact h.off b hb hh
  · have := h.st.pr.lt b hh; omega
end
/-- .. of partitions, images and all. -/
structure LPt (w0 wE : World) (g gb : Nat) (FE F : Nat → Prop) (w : World) (s : RS) (v : Value) (qs : List QP) : Prop where
  l : LSt w0 wE g gb FE F 46 5 w s v qs.length (partsV qs)
  im : ∀ q ∈ qs, Img w wE.heap.size q ∧ (∀ b, v.ownBlock = some b → Off q.A q.m (· = b)) ∧ Off q.A q.m F
section
variable {w0 wE w : World} {g gb : Nat} {FE F : Nat → Prop} {s : RS} {v : Value} {qs : List QP}
theorem LPt.start (h : RSt w0 w g gb F s) (hw : Went wE FE F w) : LPt w0 wE g gb FE F w s (.slice none 0 0) [] := ⟨LSt.start h hw _ _, fun _ hq => absurd hq List.not_mem_nil⟩
theorem Img.offWent {w w1 : World} {B : Nat} {q : QP} {F F' : Nat → Prop} (h : Img w B q) (ho : Off q.A q.m F) (hw : Went w F F' w1) : Off q.A q.m F' := fun hn b o e hh => by
  obtain ⟨b', o', e', hlt, _⟩ := h.own.1.2 hn
  rw [e] at e'
  injection e' with e'; injection e' with e1 _
  rcases hw.ff _ hh with hh | hh
  · exact ho hn b o e hh
  · omega
theorem LPt.call {w1 : World} {F' : Nat → Prop} {s' : RS} (h : LPt w0 wE g gb FE F w s v qs) (h1 : RSt w0 w1 g gb F' s') (hw : Went w F F' w1) : LPt w0 wE g gb FE F' w1 s' v qs :=
  ⟨h.l.call h1 hw, fun q hq => ⟨(h.im q hq).1.kept hw.kp (h.im q hq).2.2, (h.im q hq).2.1, (h.im q hq).1.offWent (h.im q hq).2.2 hw⟩⟩
theorem LPt.more {w1 : World} (h : LPt w0 wE g gb FE F w s v qs) (hb : Below w.heap.size w w1) : LPt w0 wE g gb FE F w1 s v qs :=
  ⟨h.l.more hb, fun q hq => ⟨(h.im q hq).1.kept (R := fun _ => False) (Keep.of_below hb) (fun _ _ _ _ hh => hh), (h.im q hq).2⟩⟩
theorem LPt.push {w1 : World} {v' : Value} {q : QP} (h : LPt w0 wE g gb FE F w s v qs) (hq : Img w wE.heap.size q) (hqv : ∀ b, v.ownBlock = some b → Off q.A q.m (· = b)) (hqF : Off q.A q.m F) (hown : w1.ownsRow wE.heap.size 46 5 v' (qs.length + 1) (partsV qs ++ q.cells)) (hk : Keep (fun j => v.ownBlock = some j) w w1) (hv : ∀ b, v'.ownBlock = some b → v.ownBlock = some b ∨ w.heap.size ≤ b)
    (hgb : gb < wE.heap.size) (h0 : w0.heap.size ≤ wE.heap.size) : LPt w0 wE g gb FE F w1 s v' (qs ++ [q]) := by
  have hp := OwnP.push (w := w) (w' := w1) (B := wE.heap.size) (v := v) (v' := v') (l := qs) (q := q) ⟨h.l.row, fun x hx => (h.im x hx).1, fun x hx => (h.im x hx).2.1⟩ hq hqv hown hk hv
  refine ⟨h.l.push (by have := hp.row; exact this) hk hv hgb h0, fun x hx => ⟨hp.img x hx, hp.off x hx, ?_⟩⟩
  rcases List.mem_append.1 hx with hx | hx
  · exact (h.im x hx).2.2
  · obtain rfl := List.mem_singleton.1 hx
    exact hqF
end
theorem winsV_one1 (l : List Reg) (r : Reg) : winsV (l ++ [r]) = winsV l ++ regL r := by rw [winsV_app]; simp [winsV]
theorem chsV_one1 (l : List Ch) (r : Ch) : chsV (l ++ [r]) = chsV l ++ chL r := by rw [chsV_app]; simp [chsV]
set_option maxRecDepth 1000000 in
set_option maxHeartbeats 1000000 in
theorem wReadW (most : Nat) (w0 w : World) (g gb : Nat) (F : Nat → Prop) (s : RS) (h : RSt w0 w g gb F s) (hm : most ≤ 100) :
    Calls Try.prog 45 #[.pointer (some ⟨g, 0, none⟩), .int .i64 (most : Int), .func (.func 46) #[] #[.pointer (some ⟨gb, 0, none⟩)]] w fun e w' => ∃ A c F', e = .returned (.slice A (listR most winV winS s).1.length c) ∧
      LSt w0 w g gb F F' 62 2 w' (listR most winV winS s).2 (.slice A (listR most winV winS s).1.length c) (listR most winV winS s).1.length (winsV (listR most winV winS s).1) := by
  have H := Lib.hid h
  have HM := Lib.hid hm
  have HGB : Hid (gb < w.heap.size) := cell_block h.box
  have H00 : Hid (w0.heap.size ≤ w.heap.size) := h.bel.size
  obtain ⟨N, hN, hNm⟩ := count_nat s most
  have HNM := Lib.hid hNm
  have L1 : Hid (listR most winV winS s = manyR winV winS N (countS s (most : Int))) := by
    (show _ = _)
    unfold listR
    rw [hN, Int.toNat_natCast]
  have HMR : Hid (-9223372036854775808 ≤ (most : Int) ∧ (most : Int) ≤ 9223372036854775807) := ⟨by omega, by omega⟩
  replace hN := Lib.hid hN
  clear h hm hNm
  go_enter Try.func45, Try.ntmps45
  go_wp2_with fail
  refine (pCount g F s (most : Int) w H.out.pr HMR.out).mono ?_
  rintro e w1 ⟨rfl, hto⟩
  rw [hN.out]
  obtain ⟨F1, h1, hw1⟩ := H.out.went hto
  obtain ⟨s1, hs1⟩ : ∃ s1, countS s (most : Int) = s1 := ⟨_, rfl⟩
  rw [hs1] at h1 L1
  have HR : Hid (∃ vl F', LSt w0 w g gb F F' 62 2 w1 (manyR winV winS 0 s1).2 vl 0 (winsV (manyR winV winS 0 s1).1) ∧ vl = .slice none 0 0) := ⟨_, F1, LSt.start h1 hw1 _ _, rfl⟩
  clear hto h1 hw1 hs1 H HMR hN
  go_wp2_with fail
  go_loopw [7, 11] (fun s7 s11 wr => ∃ k : Nat, k ≤ N ∧ s11 = .int .i64 (k : Int) ∧ ∃ F', LSt w0 w g gb F F' 62 2 wr (manyR winV winS k s1).2 s7 k (winsV (manyR winV winS k s1).1)) (fun _ s11 _ => N - (intOf s11).toNat)
  case atStart =>
    obtain ⟨vl, F', hl, rfl⟩ := HR.out
    exact ⟨0, Nat.zero_le _, rfl, F', hl⟩
  case round =>
    clear HR
    obtain ⟨k, hk, rfl, F2, hl⟩ := hrel
    have H := Lib.hid hl
    have HK := Lib.hid hk
    clear hl hk
    by_cases hlt : k < N
    · have hltI : (k : Int) < (N : Int) := by omega
      have hwk : IntKind.i64.wrap ((k : Int) + 1) = (k : Int) + 1 := by have := HNM.out; have := HM.out; rw [IntKind.wrap_i64]; omega
      have HLT : Hid (k < N) := hlt
      generalize hMM : manyR winV winS k s1 = M at *
      replace hMM := Lib.hid hMM
      clear hlt
      go_wp2_with fail
      refine (dWin w0 wr g gb F2 M.2 H.out.st).mono ?_
      rintro e w4 ⟨rfl, F4, h4, hw4⟩
      have H4 := Lib.hid (H.out.call h4 hw4)
      clear h4 hw4 H
      generalize hv : winV M.2 = p at *
      replace hv := Lib.hid hv
      have H5 := Lib.hid (H4.out.more ((Below.refl w4.heap.size w4).alloc (Nat.le_refl _) (.cells #[.int .i64 p.1, .int .i64 p.2] 62)))
      have HNW := Lib.hid (cells_newV w4 62 (regL p))
      obtain ⟨A3, c3, rfl⟩ := own_slV H4.out.row
      clear H4
      go_wp2_with (at_builtin; refine wpList_pushV vtW rfl _ _ rfl rfl rfl H5.out.row (m := 1) (news := regL p) rfl (fun _ => ⟨_, rfl, HNW.out⟩) (by have := winsV_one [p]; simpa [winsV] using this) H5.out.wt.kp.size (by have := HLT.out; have := HNM.out; have := HM.out; omega) ?_; intro v9 w9 hown9 hk9 hv9; obtain ⟨A9, c9, rfl⟩ := own_slV hown9)
      have H9 := Lib.hid (H5.out.push hown9 hk9 hv9 HGB.out H00.out)
      clear hown9 hk9 hv9
      go_roundw
      case rel => exact ⟨k + 1, HLT.out, by go_num, F4, by rw [manyR, hMM.out, hv.out]; have hh := H9.out; rw [← winsV_one1] at hh; exact hh⟩
      case measure => simp [intOf]; omega
    · obtain rfl : k = N := by have := HK.out; omega
      clear hlt
      rw [← L1.out] at H
      have hlen : (listR most winV winS s).1.length = k := by rw [L1.out, manyR_len]
      obtain ⟨A3, c3, rfl⟩ := own_slV H.out.row
      replace hlen := Lib.hid hlen
      clear L1 HK
      go_wp2_with fail
      go_ret
      exact ⟨A3, c3, F2, by rw [hlen.out]; rfl, by rw [hlen.out]; exact H.out⟩
set_option maxRecDepth 1000000 in
set_option maxHeartbeats 1000000 in
theorem wReadC (most : Nat) (w0 w : World) (g gb : Nat) (F : Nat → Prop) (s : RS) (h : RSt w0 w g gb F s) (hm : most ≤ 100) :
    Calls Try.prog 52 #[.pointer (some ⟨g, 0, none⟩), .int .i64 (most : Int), .func (.func 53) #[] #[.pointer (some ⟨gb, 0, none⟩)]] w fun e w' => ∃ A c F', e = .returned (.slice A (listR most chV chS s).1.length c) ∧
      LSt w0 w g gb F F' 50 5 w' (listR most chV chS s).2 (.slice A (listR most chV chS s).1.length c) (listR most chV chS s).1.length (chsV (listR most chV chS s).1) := by
  have H := Lib.hid h
  have HM := Lib.hid hm
  have HGB : Hid (gb < w.heap.size) := cell_block h.box
  have H00 : Hid (w0.heap.size ≤ w.heap.size) := h.bel.size
  obtain ⟨N, hN, hNm⟩ := count_nat s most
  have HNM := Lib.hid hNm
  have L1 : Hid (listR most chV chS s = manyR chV chS N (countS s (most : Int))) := by
    (show _ = _)
    unfold listR
    rw [hN, Int.toNat_natCast]
  have HMR : Hid (-9223372036854775808 ≤ (most : Int) ∧ (most : Int) ≤ 9223372036854775807) := ⟨by omega, by omega⟩
  replace hN := Lib.hid hN
  clear h hm hNm
  go_enter Try.func52, Try.ntmps52
  go_wp2_with fail
  refine (pCount g F s (most : Int) w H.out.pr HMR.out).mono ?_
  rintro e w1 ⟨rfl, hto⟩
  rw [hN.out]
  obtain ⟨F1, h1, hw1⟩ := H.out.went hto
  obtain ⟨s1, hs1⟩ : ∃ s1, countS s (most : Int) = s1 := ⟨_, rfl⟩
  rw [hs1] at h1 L1
  have HR : Hid (∃ vl F', LSt w0 w g gb F F' 50 5 w1 (manyR chV chS 0 s1).2 vl 0 (chsV (manyR chV chS 0 s1).1) ∧ vl = .slice none 0 0) := ⟨_, F1, LSt.start h1 hw1 _ _, rfl⟩
  clear hto h1 hw1 hs1 H HMR hN
  go_wp2_with fail
  go_loopw [7, 11] (fun s7 s11 wr => ∃ k : Nat, k ≤ N ∧ s11 = .int .i64 (k : Int) ∧ ∃ F', LSt w0 w g gb F F' 50 5 wr (manyR chV chS k s1).2 s7 k (chsV (manyR chV chS k s1).1)) (fun _ s11 _ => N - (intOf s11).toNat)
  case atStart =>
    obtain ⟨vl, F', hl, rfl⟩ := HR.out
    exact ⟨0, Nat.zero_le _, rfl, F', hl⟩
  case round =>
    clear HR
    obtain ⟨k, hk, rfl, F2, hl⟩ := hrel
    have H := Lib.hid hl
    have HK := Lib.hid hk
    clear hl hk
    by_cases hlt : k < N
    · have hltI : (k : Int) < (N : Int) := by omega
      have hwk : IntKind.i64.wrap ((k : Int) + 1) = (k : Int) + 1 := by have := HNM.out; have := HM.out; rw [IntKind.wrap_i64]; omega
      have HLT : Hid (k < N) := hlt
      generalize hMM : manyR chV chS k s1 = M at *
      replace hMM := Lib.hid hMM
      clear hlt
      go_wp2_with fail
      refine (dCh w0 wr g gb F2 M.2 H.out.st).mono ?_
      rintro e w4 ⟨rfl, F4, h4, hw4⟩
      have H4 := Lib.hid (H.out.call h4 hw4)
      clear h4 hw4 H
      generalize hv : chV M.2 = p at *
      replace hv := Lib.hid hv
      have H5 := Lib.hid (H4.out.more ((Below.refl w4.heap.size w4).alloc (Nat.le_refl _) (.cells #[.int .i64 p.id, .int .i64 p.fr, .int .i64 p.dst, .int .i64 p.cap, .int .i64 p.size] 50)))
      have HNW := Lib.hid (cells_newV w4 50 (chL p))
      obtain ⟨A3, c3, rfl⟩ := own_slV H4.out.row
      clear H4
      go_wp2_with (at_builtin; refine wpList_pushV vtC rfl _ _ rfl rfl rfl H5.out.row (m := 1) (news := chL p) rfl (fun _ => ⟨_, rfl, HNW.out⟩) (by have := chsV_one [p]; simpa [chsV] using this) H5.out.wt.kp.size (by have := HLT.out; have := HNM.out; have := HM.out; omega) ?_; intro v9 w9 hown9 hk9 hv9; obtain ⟨A9, c9, rfl⟩ := own_slV hown9)
      have H9 := Lib.hid (H5.out.push hown9 hk9 hv9 HGB.out H00.out)
      clear hown9 hk9 hv9
      go_roundw
      case rel => exact ⟨k + 1, HLT.out, by go_num, F4, by rw [manyR, hMM.out, hv.out]; have hh := H9.out; rw [← chsV_one1] at hh; exact hh⟩
      case measure => simp [intOf]; omega
    · obtain rfl : k = N := by have := HK.out; omega
      clear hlt
      rw [← L1.out] at H
      have hlen : (listR most chV chS s).1.length = k := by rw [L1.out, manyR_len]
      obtain ⟨A3, c3, rfl⟩ := own_slV H.out.row
      replace hlen := Lib.hid hlen
      clear L1 HK
      go_wp2_with fail
      go_ret
      exact ⟨A3, c3, F2, by rw [hlen.out]; rfl, by rw [hlen.out]; exact H.out⟩
set_option maxRecDepth 1000000 in
set_option maxHeartbeats 1000000 in
theorem wReadP (most : Nat) (w0 w : World) (g gb : Nat) (F : Nat → Prop) (s : RS) (h : RSt w0 w g gb F s) (hm : most ≤ 100) :
    Calls Try.prog 48 #[.pointer (some ⟨g, 0, none⟩), .int .i64 (most : Int), .func (.func 49) #[] #[.pointer (some ⟨gb, 0, none⟩)]] w fun e w' => ∃ A c F' qs, e = .returned (.slice A qs.length c) ∧
      LPt w0 w g gb F F' w' (listR most ptV ptS s).2 (.slice A qs.length c) qs ∧ qs.map QP.p = (listR most ptV ptS s).1 := by
  have H := Lib.hid h
  have HM := Lib.hid hm
  have HGB : Hid (gb < w.heap.size) := cell_block h.box
  have H00 : Hid (w0.heap.size ≤ w.heap.size) := h.bel.size
  obtain ⟨N, hN, hNm⟩ := count_nat s most
  have HNM := Lib.hid hNm
  have L1 : Hid (listR most ptV ptS s = manyR ptV ptS N (countS s (most : Int))) := by
    (show _ = _)
    unfold listR
    rw [hN, Int.toNat_natCast]
  have HMR : Hid (-9223372036854775808 ≤ (most : Int) ∧ (most : Int) ≤ 9223372036854775807) := ⟨by omega, by omega⟩
  replace hN := Lib.hid hN
  clear h hm hNm
  go_enter Try.func48, Try.ntmps48
  go_wp2_with fail
  refine (pCount g F s (most : Int) w H.out.pr HMR.out).mono ?_
  rintro e w1 ⟨rfl, hto⟩
  rw [hN.out]
  obtain ⟨F1, h1, hw1⟩ := H.out.went hto
  obtain ⟨s1, hs1⟩ : ∃ s1, countS s (most : Int) = s1 := ⟨_, rfl⟩
  rw [hs1] at h1 L1
  have HR : Hid (∃ F', LPt w0 w g gb F F' w1 (manyR ptV ptS 0 s1).2 (.slice none 0 0) [] ∧ [].map QP.p = (manyR ptV ptS 0 s1).1) := ⟨F1, LPt.start h1 hw1, rfl⟩
  clear hto h1 hw1 hs1 H HMR hN
  go_wp2_with fail
  go_loopw [7, 11] (fun s7 s11 wr => ∃ k : Nat, k ≤ N ∧ s11 = .int .i64 (k : Int) ∧ ∃ F' qs, LPt w0 w g gb F F' wr (manyR ptV ptS k s1).2 s7 qs ∧ qs.map QP.p = (manyR ptV ptS k s1).1) (fun _ s11 _ => N - (intOf s11).toNat)
  case atStart =>
    obtain ⟨F', hl, he⟩ := HR.out
    exact ⟨0, Nat.zero_le _, rfl, F', [], hl, he⟩
  case round =>
    clear HR
    obtain ⟨k, hk, rfl, F2, qs, hl, hq⟩ := hrel
    have H := Lib.hid hl
    have HQ := Lib.hid hq
    have HK := Lib.hid hk
    clear hl hk hq
    obtain ⟨A3, c3, rfl⟩ := own_slV H.out.l.row
    by_cases hlt : k < N
    · have hltI : (k : Int) < (N : Int) := by omega
      have hwk : IntKind.i64.wrap ((k : Int) + 1) = (k : Int) + 1 := by have := HNM.out; have := HM.out; rw [IntKind.wrap_i64]; omega
      have HLT : Hid (k < N) := hlt
      have HQL : Hid (qs.length ≤ 100) := by (show _ ≤ _); have e := congrArg List.length HQ.out; rw [List.length_map, manyR_len] at e; have := HNM.out; have := HM.out; omega
      generalize hMM : manyR ptV ptS k s1 = M at *
      replace hMM := Lib.hid hMM
      clear hlt
      have hst := H.out.l.st
      go_wp2_with fail
      refine (dPt w0 wr g gb F2 M.2 hst).mono ?_
      rintro e w4 ⟨A4, m4, c4, F4, rfl, ho, hmc, hcc, hoff, h4, hw4⟩
      clear hst
      have H4 := Lib.hid (H.out.call h4 hw4)
      generalize hv : ptV M.2 = p at *
      have hbl : p.img.length ≤ 65536 := by rw [← hv]; exact bytesV_le _
      obtain ⟨id, base, size, keep, img⟩ := p
      replace hv := Lib.hid hv
      dsimp only at ho hbl
      have hm4 : m4 = img.length := ho.1.1.symm
      have HI4 : Hid (Img w4 w.heap.size ⟨⟨id, base, size, keep, img⟩, A4, m4, c4⟩) := ⟨ho.mono H.out.l.wt.kp.size, hmc, hcc, (show m4 ≤ 140737488351232 by omega)⟩
      have HIV : Hid (∀ b, (Value.slice A3 qs.length c3).ownBlock = some b → Off A4 m4 (· = b)) := fun b hb => ho.off (fun k hk => by have := (H.out.l.row.lt b hb).2; have : k = b := hk; omega)
      have HIF := Lib.hid hoff
      clear h4 hw4 ho hmc hcc hoff hbl hm4
      have hal := (Below.refl w4.heap.size w4).alloc (Nat.le_refl _) (.cells #[.int .i64 id, .int .i64 base, .int .i64 size, .bool keep, .slice A4 m4 c4] 46)
      have H5 := Lib.hid (H4.out.more hal)
      have HI5 := Lib.hid (HI4.out.kept (R := fun _ => False) (Keep.of_below hal) (fun _ _ _ _ hh => hh))
      have HNW := Lib.hid (cells_newV w4 46 (QP.cells ⟨⟨id, base, size, keep, img⟩, A4, m4, c4⟩))
      clear H4 HI4 hal H
      go_wp2_with (at_builtin; refine wpList_pushV vtP rfl _ _ rfl rfl rfl H5.out.l.row (m := 1) (news := QP.cells ⟨⟨id, base, size, keep, img⟩, A4, m4, c4⟩) rfl (fun _ => ⟨_, rfl, HNW.out⟩) (by have := partsV_one [⟨⟨id, base, size, keep, img⟩, A4, m4, c4⟩]; simpa [partsV] using this) H5.out.l.wt.kp.size (by have := HQL.out; omega) ?_; intro v9 w9 hown9 hk9 hv9; obtain ⟨A9, c9, rfl⟩ := own_slV hown9)
      have H9 := Lib.hid (H5.out.push HI5.out HIV.out HIF.out hown9 hk9 hv9 HGB.out H00.out)
      clear hown9 hk9 hv9
      go_roundw
      case rel => exact ⟨k + 1, HLT.out, by go_num, F4, _, by rw [manyR, hMM.out]; exact H9.out, by rw [manyR, hMM.out, hv.out, List.map_append, HQ.out]; rfl⟩
      case measure => simp [intOf]; omega
    · obtain rfl : k = N := by have := HK.out; omega
      clear hlt
      rw [← L1.out] at H HQ
      clear L1 HK
      go_wp2_with fail
      go_ret
      exact ⟨A3, c3, F2, qs, rfl, H.out, HQ.out⟩
end

/- The program's config: Parse. -/
section
open Go.RowKit
set_option linter.unusedVariables false
set_option linter.unusedSimpArgs false

theorem own_lo {w : World} {B B' z : Nat} {T : TypeId} {v : Value} {n : Nat} {xs : List Value} (h : w.ownsRow B T z v n xs) (hB : B' ≤ B) : w.ownsRow B' T z v n xs := by
  refine ⟨h.1, ?_⟩
  rcases h.2 with h | ⟨g, cap, cur, e, hg, hh, h⟩
  · exact .inl h
  · exact .inr ⟨g, cap, cur, e, Nat.le_trans hB hg, hh, h⟩
structure QSt (w0 : World) (T : Nat) (w : World) (g gb gc : Nat) (F : Nat → Prop) (s : RS) (vw vp vc : Value) (lw : List Reg) (qs : List QP) (lc : List Ch) : Prop where
  st : RSt w0 w g gb F s
  bx : Bx w gc 26 (fld3 vw vp vc)
  nc : ¬ F gc
  ow : w.ownsRow T 62 2 vw lw.length (winsV lw)
  fw : ∀ b, vw.ownBlock = some b → ¬ F b
  op : OwnP w T vp qs
  fp : ∀ b, vp.ownBlock = some b → ¬ F b
  fq : ∀ q ∈ qs, Off q.A q.m F
  oc : w.ownsRow T 50 5 vc lc.length (chsV lc)
  fc : ∀ b, vc.ownBlock = some b → ¬ F b
  gct : gc < T
  gbt : gb < T
  gbc : gb ≠ gc
  g0 : w0.heap.size ≤ gc
  tw : T ≤ w.heap.size
section
variable {w0 w : World} {T g gb gc : Nat} {F : Nat → Prop} {s : RS} {vw vp vc : Value} {lw : List Reg} {qs : List QP} {lc : List Ch}
theorem QSt.call {w' : World} {F' : Nat → Prop} {s' : RS} (h : QSt w0 T w g gb gc F s vw vp vc lw qs lc) (hst : RSt w0 w' g gb F' s') (hw : Went w F F' w') : QSt w0 T w' g gb gc F' s' vw vp vc lw qs lc :=
  ⟨hst, h.bx.kept hw.kp h.nc, hw.not h.bx.lt h.nc, own_kv h.ow hw.kp (fun b hb => h.fw b hb), fun b hb => hw.not (h.ow.lt b hb).2 (h.fw b hb),
    h.op.kept hw.kp (fun b hb => h.fp b hb) h.fq, fun b hb => hw.not (h.op.row.lt b hb).2 (h.fp b hb), fun q hq => (h.op.img q hq).offWent (h.fq q hq) hw,
    own_kv h.oc hw.kp (fun b hb => h.fc b hb), fun b hb => hw.not (h.oc.lt b hb).2 (h.fc b hb), h.gct, h.gbt, h.gbc, h.g0, Nat.le_trans h.tw hw.kp.size⟩
theorem QSt.put {vw' vp' vc' : Value} {lw' : List Reg} {qs' : List QP} {lc' : List Ch} (h : QSt w0 T w g gb gc F s vw vp vc lw qs lc) (j : Nat) (v : Value) (hj : (fld3 vw vp vc).set j v = fld3 vw' vp' vc')
    (ow : w.ownsRow T 62 2 vw' lw'.length (winsV lw')) (fw : ∀ b, vw'.ownBlock = some b → ¬ F b) (op : OwnP w T vp' qs') (fp : ∀ b, vp'.ownBlock = some b → ¬ F b) (fq : ∀ q ∈ qs', Off q.A q.m F)
    (oc : w.ownsRow T 50 5 vc' lc'.length (chsV lc')) (fc : ∀ b, vc'.ownBlock = some b → ¬ F b) : QSt w0 T (w.setCell ⟨gc, j, none⟩ v) g gb gc F s vw' vp' vc' lw' qs' lc' := by
  have hk : Keep (· = gc) w (w.setCell ⟨gc, j, none⟩ v) := (Keep.refl _ _).setCell _ _ rfl
  have hR : ∀ k, (· = gc) k → k < T ∨ w.heap.size ≤ k := fun k hk => .inl (by have := h.gct; have : k = gc := hk; omega)
  refine ⟨h.st.kept hk (fun k hk hh => h.nc (hh ▸ hk)) h.gbc (fun k hk => hk ▸ h.g0), ?_, h.nc, own_tv ow hk hR, fw, op.to hk hR, fp, fq, own_tv oc hk hR, fc, h.gct, h.gbt, h.gbc, h.g0, Nat.le_trans h.tw hk.size⟩
  rw [← hj]
  exact h.bx.set j v
theorem QSt.more {w' : World} (h : QSt w0 T w g gb gc F s vw vp vc lw qs lc) (hb : Below w.heap.size w w') : QSt w0 T w' g gb gc F s vw vp vc lw qs lc :=
  h.call (h.st.to hb) ⟨fun k hk => .inl hk, Keep.of_below hb⟩
theorem QSt.out {w' : World} {v : CV} {R : Nat → Prop} (h : QSt w0 T w g gb gc F s (.slice v.aw v.nw v.kw) (.slice v.ap v.np v.kp) (.slice v.ac v.nc v.kc) lw qs lc) (hk : Keep R w w') (hR : ∀ k, R k → k < T ∨ w.heap.size ≤ k) : OwCf w' T v ⟨lw, qs.map QP.p, lc⟩ := by
  have h1 := own_tv h.ow hk hR
  have h3 := own_tv h.oc hk hR
  rw [(own_capV h1).1] at h1
  rw [(own_capV h3).1] at h3
  exact OwCf.of_rows h1 (h.op.to hk hR) rfl h3
end
theorem two_more (w : World) (p : Value) (T : TypeId) : ∃ w2, ((w.alloc (.cells #[p] T)).alloc (.cells #[.slice none 0 0, .slice none 0 0, .slice none 0 0] 26)) = w2 ∧
    Below w.heap.size w w2 ∧ w2.cell? ⟨w.heap.size, 0, none⟩ = some p ∧ Bx w2 (w.heap.size + 1) 26 [.slice none 0 0, .slice none 0 0, .slice none 0 0] ∧ w2.heap.size = w.heap.size + 2 := by
  refine ⟨_, rfl, (((Below.refl w.heap.size w).alloc (Nat.le_refl _) _).alloc (by simp) _), ?_, ?_, by simp⟩
  · have h := Bx.new w T [p]
    exact (h.to ((Below.refl _ _).alloc (Nat.le_refl _) (.cells #[.slice none 0 0, .slice none 0 0, .slice none 0 0] 26))).at (j := 0) rfl
  · have h := Bx.new (w.alloc (.cells #[p] T)) 26 [.slice none 0 0, .slice none 0 0, .slice none 0 0]
    simpa using h
set_option maxRecDepth 1000000 in
set_option maxHeartbeats 1000000 in
theorem wParse (A : Option Addr) (n c : Nat) (bs : List UInt8) (w : World) (ha : Rd w w.heap.size A n bs) (hc : n ≤ c) (hc' : c ≤ 9223372036854775807) (hn : n ≤ 1000000) :
    Calls Try.prog 17 #[.slice A n c] w fun e w' => ∃ v : CV, e = .returned (.tuple #[v.val, .int .i64 (cfErr bs)]) ∧ OwCf w' w.heap.size v (cfOut bs) ∧ Below w.heap.size w w' := by
  have hb0 := (Below.refl w.heap.size w).alloc (Nat.le_refl _) (.cells #[.slice none 0 0, .slice none 0 0, .slice none 0 0] 26)
  have X0 : Hid (Bx (w.alloc (.cells #[.slice none 0 0, .slice none 0 0, .slice none 0 0] 26)) w.heap.size 26 [.slice none 0 0, .slice none 0 0, .slice none 0 0]) := Bx.new w _ [.slice none 0 0, .slice none 0 0, .slice none 0 0]
  have B0 := Lib.hid hb0
  have RA := Lib.hid (ha.to hb0)
  have S0 : Hid ((w.alloc (.cells #[.slice none 0 0, .slice none 0 0, .slice none 0 0] 26)).heap.size = w.heap.size + 1) := by (show _ = _); simp
  have HN := Lib.hid hn
  have HC := Lib.hid hc
  have HC' := Lib.hid hc'
  clear ha hb0 hn hc hc'
  go_enter Try.func17, Try.ntmps17
  go_wp2_with fail
  generalize w.alloc (.cells #[.slice none 0 0, .slice none 0 0, .slice none 0 0] 26) = wa at *
  refine (pNew A n c bs wa RA.out HC.out HC'.out HN.out).mono ?_
  rintro e w1 ⟨g, F, rfl, hpr, hF, hb1⟩
  obtain ⟨w2, hw2, hb2, hc0, hbx, hs2⟩ := two_more w1 (.pointer (some ⟨g, 0, none⟩)) 79
  have H0 : Hid (QSt wa w2.heap.size w2 g w1.heap.size (w1.heap.size + 1) F (newRS bs) (.slice none 0 0) (.slice none 0 0) (.slice none 0 0) [] [] []) := by
    have hlt := hpr.lt
    have h1 := hb1.size
    exact ⟨⟨hpr.to hb2, fun hh => by have := hlt _ hh; omega, hc0, hF, h1, hb1.trans (hb2.mono h1)⟩, hbx, fun hh => by have := hlt _ hh; omega, World.ownsRow_nil _ _ _ _, fun _ hb => (by cases hb), OwnP.nil _ _, fun _ hb => (by cases hb), fun _ hq => absurd hq List.not_mem_nil,
      World.ownsRow_nil _ _ _ _, fun _ hb => (by cases hb), by omega, by omega, by omega, by omega, Nat.le_refl _⟩
  replace hw2 := Lib.hid hw2
  clear hpr hF hb1 hb2 hc0 hbx hs2 RA
  go_upto_region 3 with (fail)
  rw [show (w1.alloc (.cells #[.pointer (some ⟨g, 0, none⟩)] 79)).alloc (.cells #[.slice none 0 0, .slice none 0 0, .slice none 0 0] 26) = w2 from hw2.out]
  clear hw2
  have HT := Lib.hid (Nat.le_refl w2.heap.size)
  obtain ⟨T, hT⟩ : ∃ T, w2.heap.size = T := ⟨_, rfl⟩
  rw [hT] at H0 HT
  replace hT := Lib.hid hT
  have b0 := H0.out.st.box
  go_wp2_with fail
  have hW := wReadW 12 wa w2 g w1.heap.size F (newRS bs) H0.out.st (by decide)
  rw [show ((12 : Nat) : Int) = 12 from rfl] at hW
  refine hW.mono ?_
  rintro e w3 ⟨A1, c1, F1, rfl, hl⟩
  have H1 := Lib.hid (H0.out.call hl.st hl.wt)
  have R1 := Lib.hid (own_lo hl.row (Nat.le_of_eq hT.out.symm))
  have O1 := Lib.hid hl.off
  generalize hL1 : listR 12 winV winS (newRS bs) = L1 at *
  replace hL1 := Lib.hid hL1
  clear hW hl b0 H0
  have x0 := H1.out.bx.at (j := 0) rfl
  have f0 := H1.out.bx.fz 0
  go_upto_region 4 with (fail)
  have H2 := Lib.hid (H1.out.put 0 (.slice A1 L1.1.length c1) rfl R1.out O1.out H1.out.op H1.out.fp H1.out.fq H1.out.oc H1.out.fc)
  generalize w3.setCell ⟨w1.heap.size + 1, 0, none⟩ (.slice A1 L1.1.length c1) = w4 at *
  clear H1 R1 O1 x0 f0
  have b0 := H2.out.st.box
  go_wp2_with fail
  have hW := wReadP 6 wa w4 g w1.heap.size F1 L1.2 H2.out.st (by decide)
  rw [show ((6 : Nat) : Int) = 6 from rfl] at hW
  refine hW.mono ?_
  rintro e w5 ⟨A2, c2, F2, qs, rfl, hl, hq⟩
  have H3 := Lib.hid (H2.out.call hl.l.st hl.l.wt)
  have R2 : Hid (OwnP w5 T (.slice A2 qs.length c2) qs) := ⟨own_lo hl.l.row H2.out.tw, fun q hq => ⟨(hl.im q hq).1.own.mono H2.out.tw, (hl.im q hq).1.mc, (hl.im q hq).1.cc⟩, fun q hq => (hl.im q hq).2.1⟩
  have O2 := Lib.hid hl.l.off
  have I2 : Hid (∀ q ∈ qs, Off q.A q.m F2) := fun q hq => (hl.im q hq).2.2
  have HQ := Lib.hid hq
  generalize hL2 : listR 6 ptV ptS L1.2 = L2 at *
  replace hL2 := Lib.hid hL2
  clear hW hl hq b0 H2
  have x0 := H3.out.bx.at (j := 1) rfl
  have f0 := H3.out.bx.fz 1
  go_upto_region 5 with (fail)
  have H4 := Lib.hid (H3.out.put 1 (.slice A2 qs.length c2) rfl H3.out.ow H3.out.fw R2.out O2.out I2.out H3.out.oc H3.out.fc)
  generalize w5.setCell ⟨w1.heap.size + 1, 1, none⟩ (.slice A2 qs.length c2) = w6 at *
  clear H3 R2 O2 I2 x0 f0
  have b0 := H4.out.st.box
  go_wp2_with fail
  have hW := wReadC 8 wa w6 g w1.heap.size F2 L2.2 H4.out.st (by decide)
  rw [show ((8 : Nat) : Int) = 8 from rfl] at hW
  refine hW.mono ?_
  rintro e w7 ⟨A3, c3, F3, rfl, hl⟩
  have H5 := Lib.hid (H4.out.call hl.st hl.wt)
  have R3 := Lib.hid (own_lo hl.row H4.out.tw)
  have O3 := Lib.hid hl.off
  generalize hL3 : listR 8 chV chS L2.2 = L3 at *
  replace hL3 := Lib.hid hL3
  clear hW hl b0 H4
  have x0 := H5.out.bx.at (j := 2) rfl
  have f0 := H5.out.bx.fz 2
  go_upto_region 6 with (fail)
  have H6 := Lib.hid (H5.out.put 2 (.slice A3 L3.1.length c3) rfl H5.out.ow H5.out.fw H5.out.op H5.out.fp H5.out.fq R3.out O3.out)
  generalize w7.setCell ⟨w1.heap.size + 1, 2, none⟩ (.slice A3 L3.1.length c3) = w8 at *
  clear H5 R3 O3 x0 f0
  have HG : Hid (cfR (newRS bs) = (⟨L1.1, L2.1, L3.1⟩, L3.2)) := by
    (show _ = _)
    unfold cfR
    rw [hL1.out, hL2.out, hL3.out]
  have HNP : Hid (qs.length ≤ 1000) := by
    (show _ ≤ _)
    have e := congrArg List.length HQ.out
    have e6 : L2.1.length ≤ 6 := by
      rw [← hL2.out]
      unfold listR
      rw [manyR_len]
      have := count_range L1.2 6
      have h6 : ((6 : Nat) : Int) = 6 := rfl
      omega
    rw [List.length_map] at e
    omega
  clear hL1 hL2 hL3 hT HT
  have b0 := H6.out.st.box
  go_wp2_with fail
  refine (pEnd g F3 L3.2 w8 H6.out.st.pr).mono ?_
  rintro e w9 ⟨rfl, hb9⟩
  have H7 := Lib.hid (H6.out.more hb9)
  clear b0 hb9 H6
  have X1 := Lib.hid (X0.out.below (by have := S0.out; omega) H7.out.st.bel)
  have HWT : Hid (w.heap.size < T) := by (show _ < _); have := H7.out.g0; have := H7.out.gct; have := S0.out; omega
  have BW : Hid (Below w.heap.size w w9) := B0.out.trans (H7.out.st.bel.mono B0.out.size)
  clear B0 S0 X0
  have b0 := H7.out.bx.at (j := 0) rfl
  have b1 := H7.out.bx.at (j := 1) rfl
  have b2 := H7.out.bx.at (j := 2) rfl
  have z0 := X1.out.at (j := 0) rfl
  have z1 := X1.out.at (j := 1) rfl
  have z2 := X1.out.at (j := 2) rfl
  have f0 := X1.out.fz 0
  have f1 := X1.out.fz 1
  have f2 := X1.out.fz 2
  by_cases hE : endV L3.2 = 0
  · have HE := Lib.hid hE
    rw [hE]
    clear hE
    have hne : (((0 : Nat) : Int) != 0) = false := rfl
    go_wp2_with fail
    have HRD := Lib.hid (H7.out.out (v := ⟨A1, L1.1.length, c1, A2, qs.length, c2, A3, L3.1.length, c3⟩) (R := fun _ => False) (Keep.refl _ w9) (fun _ h => h.elim)).rd
    rw [HQ.out] at HRD
    refine (pCanOf ⟨A1, L1.1.length, c1, A2, qs.length, c2, A3, L3.1.length, c3⟩ _ w9 HRD.out HNP.out).mono ?_
    rintro e wc ⟨rfl, hbc⟩
    replace H7 := Lib.hid (H7.out.more hbc)
    replace X1 := Lib.hid (X1.out.to hbc)
    replace BW := Lib.hid (BW.out.trans (hbc.mono BW.out.size))
    clear b0 b1 b2 z0 z1 z2 f0 f1 f2 hbc HRD
    have b0 := H7.out.bx.at (j := 0) rfl
    have b1 := H7.out.bx.at (j := 1) rfl
    have b2 := H7.out.bx.at (j := 2) rfl
    have z0 := X1.out.at (j := 0) rfl
    have z1 := X1.out.at (j := 1) rfl
    have z2 := X1.out.at (j := 2) rfl
    have f0 := X1.out.fz 0
    have f1 := X1.out.fz 1
    have f2 := X1.out.fz 2
    cases hcan : canC ⟨L1.1, L2.1, L3.1⟩
    · have HE : Hid (okC bs = false) := by
        (show _ = _)
        unfold okC gotC
        rw [HG.out, hcan, Bool.and_false]
      replace hcan := Lib.hid hcan
      go_wp2_with fail
      change bodyPost _ _ _ _ _ (setsC wc w.heap.size 0 [.slice none 0 0, .slice none 0 0, .slice none 0 0])
      have P9 := X1.out.sets [.slice none 0 0, .slice none 0 0, .slice none 0 0] rfl
      have B9 := below_sets (Nat.le_refl w.heap.size) [.slice none 0 0, .slice none 0 0, .slice none 0 0] 0 BW.out
      generalize setsC wc w.heap.size 0 [.slice none 0 0, .slice none 0 0, .slice none 0 0] = wz at *
      refine bodyPost_ret (res_cf rfl _ _ w.heap.size (.slice none 0 0) (.slice none 0 0) (.slice none 0 0) (.int .i64 110) rfl rfl P9) rfl ⟨⟨none, 0, 0, none, 0, 0, none, 0, 0⟩, ?_, ?_, B9⟩
      · rw [(cfOut_no HE.out).2]; rfl
      · rw [(cfOut_no HE.out).1]; exact ⟨rdCf_nil _ _, sp_nil _ _⟩
    · have HO : Hid (okC bs = true) := by
        (show _ = _)
        unfold okC gotC
        rw [HG.out, hcan, HE.out]; rfl
      replace hcan := Lib.hid hcan
      go_wp2_with fail
      change bodyPost _ _ _ _ _ (setsC wc w.heap.size 0 [.slice A1 L1.1.length c1, .slice A2 qs.length c2, .slice A3 L3.1.length c3])
      have P9 := X1.out.sets [.slice A1 L1.1.length c1, .slice A2 qs.length c2, .slice A3 L3.1.length c3] rfl
      have B9 := below_sets (Nat.le_refl w.heap.size) [.slice A1 L1.1.length c1, .slice A2 qs.length c2, .slice A3 L3.1.length c3] 0 BW.out
      have HR := H7.out.out (v := ⟨A1, L1.1.length, c1, A2, qs.length, c2, A3, L3.1.length, c3⟩) (Keep.sets (R := (· = w.heap.size)) rfl [.slice A1 L1.1.length c1, .slice A2 qs.length c2, .slice A3 L3.1.length c3] 0 (Keep.refl _ wc)) (fun k hk => .inl (by have := HWT.out; have : k = w.heap.size := hk; omega))
      rw [HQ.out] at HR
      generalize setsC wc w.heap.size 0 [.slice A1 L1.1.length c1, .slice A2 qs.length c2, .slice A3 L3.1.length c3] = wz at *
      refine bodyPost_ret (res_cf rfl _ _ w.heap.size _ _ _ (.int .i64 0) rfl rfl P9) rfl ⟨⟨A1, L1.1.length, c1, A2, qs.length, c2, A3, L3.1.length, c3⟩, ?_, ?_, B9⟩
      · rw [(cfOut_yes HO.out).2]; rfl
      · rw [(cfOut_yes HO.out).1]
        unfold gotC
        rw [HG.out]
        exact ⟨HR.rd, HR.sp.mono (Nat.le_of_lt HWT.out)⟩
  · have HE : Hid (okC bs = false) := by
      (show _ = _)
      unfold okC
      rw [HG.out, decide_eq_false hE]
      rfl
    have hne : ((endV L3.2 : Int) != 0) = true := bne_iff_ne.2 (by omega)
    clear hE
    go_wp2_with fail
    change bodyPost _ _ _ _ _ (setsC w9 w.heap.size 0 [.slice none 0 0, .slice none 0 0, .slice none 0 0])
    have P9 := X1.out.sets [.slice none 0 0, .slice none 0 0, .slice none 0 0] rfl
    have B9 := below_sets (Nat.le_refl w.heap.size) [.slice none 0 0, .slice none 0 0, .slice none 0 0] 0 BW.out
    generalize setsC w9 w.heap.size 0 [.slice none 0 0, .slice none 0 0, .slice none 0 0] = wz at *
    refine bodyPost_ret (res_cf rfl _ _ w.heap.size (.slice none 0 0) (.slice none 0 0) (.slice none 0 0) (.int .i64 110) rfl rfl P9) rfl ⟨⟨none, 0, 0, none, 0, 0, none, 0, 0⟩, ?_, ?_, B9⟩
    · rw [(cfOut_no HE.out).2]; rfl
    · rw [(cfOut_no HE.out).1]; exact ⟨rdCf_nil _ _, sp_nil _ _⟩
end
end Go.Proofs.Ytljgliagciblbaa
