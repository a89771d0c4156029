/- Several texts in one (a claim has 60 files at most): CfJ, CfK, CfL. -/
import Derived.Test.YtljgliagciblbaaCfA
import Derived.Test.YtljgliagciblbaaWireI
import Derived.Test.YtljgliagciblbaaCfX
namespace Go.Proofs.Ytljgliagciblbaa

/- The program's config while it prints: a writer whose pointer is in a box (WSt); the closures that write a window, a partition, a channel. -/
section
open Go.RowKit
set_option linter.unusedVariables false
set_option linter.unusedSimpArgs false

structure WSt (w0 w : World) (g gb : Nat) (F : Nat → Prop) (form : List UInt8) : Prop where
  wr : WrAt w g F form false
  nb : ¬ F gb
  box : w.cell? ⟨gb, 0, none⟩ = some (.pointer (some ⟨g, 0, none⟩))
  fb : ∀ k, F k → w0.heap.size ≤ k
  bb : w0.heap.size ≤ gb
  bel : Below w0.heap.size w0 w
theorem WSt.to {w0 w w' : World} {g gb : Nat} {F : Nat → Prop} {form : List UInt8} (h : WSt w0 w g gb F form) (hb : Below w.heap.size w w') : WSt w0 w' g gb F form :=
  ⟨h.wr.to hb, h.nb, (hb.cell (p := ⟨gb, 0, none⟩) (cell_block h.box)).trans h.box, h.fb, h.bb, h.bel.trans (hb.mono h.bel.size)⟩
theorem WSt.ends {w0 w w' : World} {g gb : Nat} {F : Nat → Prop} {form b : List UInt8} {e : Ending} (h : WSt w0 w g gb F form) (hl : form.length + b.length ≤ 65536) (ht : WrTo w g F form b false e w') :
    e = .returned (.pointer (some ⟨g, 0, none⟩)) ∧ ∃ F', WSt w0 w' g gb F' (form ++ b) ∧ Keep F w w' := by
  obtain ⟨he, F', h1, h2, h3⟩ := ht
  have e1 : wForm form b false = form ++ b := by unfold wForm; rw [if_pos ⟨rfl, hl⟩]
  have e2 : wBad form b false = false := by unfold wBad; rw [if_pos hl]
  rw [e1, e2] at h1
  have hgb : gb < w.heap.size := cell_block h.box
  refine ⟨he, F', ⟨h1, fun hh => ?_, (h3.cell (a := ⟨gb, 0, none⟩) hgb h.nb).trans h.box, fun k hk => ?_, h.bb, h3.below h.bel h.bel.size h.fb⟩, h3⟩
  · rcases h2 _ hh with hh | hh
    · exact h.nb hh
    · omega
  · rcases h2 k hk with hk | hk
    · exact h.fb k hk
    · exact Nat.le_trans h.bel.size hk
/-- With a box that the writer does not write into. -/
structure WBx (w0 w : World) (g gb gs : Nat) (T : TypeId) (cs : List Value) (F : Nat → Prop) (form : List UInt8) : Prop where
  st : WSt w0 w g gb F form
  ns : ¬ F gs
  bx : Bx w gs T cs
theorem WBx.ends {w0 w w' : World} {g gb gs : Nat} {T : TypeId} {cs : List Value} {F : Nat → Prop} {form b : List UInt8} {e : Ending} (h : WBx w0 w g gb gs T cs F form) (hl : form.length + b.length ≤ 65536) (ht : WrTo w g F form b false e w') :
    e = .returned (.pointer (some ⟨g, 0, none⟩)) ∧ ∃ F', WBx w0 w' g gb gs T cs F' (form ++ b) := by
  obtain ⟨he, F', hw, hk⟩ := h.st.ends hl ht
  obtain ⟨_, F2, h1, h2, h3⟩ := ht
  have hs := h.bx.lt
  refine ⟨he, fun k => F2 k, ?_⟩
  have e1 : wForm form b false = form ++ b := by unfold wForm; rw [if_pos ⟨rfl, hl⟩]
  have e2 : wBad form b false = false := by unfold wBad; rw [if_pos hl]
  rw [e1, e2] at h1
  have hgb : gb < w.heap.size := cell_block h.st.box
  refine ⟨⟨h1, fun hh => ?_, (h3.cell (a := ⟨gb, 0, none⟩) hgb h.st.nb).trans h.st.box, fun k hk => ?_, h.st.bb, h3.below h.st.bel h.st.bel.size h.st.fb⟩, fun hh => ?_, h.bx.kept h3 h.ns⟩
  · rcases h2 _ hh with hh | hh
    · exact h.st.nb hh
    · omega
  · rcases h2 k hk with hk | hk
    · exact h.st.fb k hk
    · exact Nat.le_trans h.st.bel.size hk
  · rcases h2 _ hh with hh | hh
    · exact h.ns hh
    · omega
theorem WBx.new {w0 w : World} {g gb : Nat} {F : Nat → Prop} {form : List UInt8} (h : WSt w0 w g gb F form) (T : TypeId) (cs : List Value) : WBx w0 (w.alloc (.cells cs.toArray T)) g gb w.heap.size T cs F form :=
  ⟨h.to ((Below.refl w.heap.size w).alloc (Nat.le_refl _) _), fun hh => by have := h.wr.lt _ hh; omega, Bx.new w T cs⟩
theorem WBx.drew {w0 w : World} {g gb gs : Nat} {T : TypeId} {cs : List Value} {F : Nat → Prop} {form : List UInt8} (h : WBx w0 w g gb gs T cs F form) : WBx w0 w.drew g gb gs T cs F form :=
  ⟨h.st.to ((Below.refl _ w).drew), h.ns, h.bx⟩
theorem len_on {form b : List UInt8} {m k : Nat} (h : form.length ≤ m) (hb : b.length ≤ k) : (form ++ b).length ≤ m + k := by rw [List.length_append]; omega
theorem len_ok {form b : List UInt8} {m k : Nat} (h : form.length ≤ m) (hb : b.length ≤ k) (hm : m + k ≤ 65536) : form.length + b.length ≤ 65536 := by omega
theorem enc8_le (x : Nat) : (enc x 8).length ≤ 8 := by rw [enc_len]; exact Nat.le_refl _
set_option maxRecDepth 1000000 in
set_option maxHeartbeats 1000000 in
theorem cWin (x y : Int) (w0 w : World) (g gb : Nat) (F : Nat → Prop) (form : List UInt8) (h : WSt w0 w g gb F form) (hl : form.length ≤ 60000) :
    Calls Try.prog 29 #[.agg #[.int .i64 x, .int .i64 y], .pointer (some ⟨gb, 0, none⟩)] w fun e w' => e = .returned (.tuple #[]) ∧ ∃ F', WSt w0 w' g gb F' (form ++ winB (x, y)) := by
  have L0 := Lib.hid hl
  have H0 : Hid (WBx w0 (w.alloc (.cells #[.int .i64 x, .int .i64 y] 62)) g gb w.heap.size 62 [.int .i64 x, .int .i64 y] F form) := WBx.new h _ [.int .i64 x, .int .i64 y]
  clear h hl
  go_enter Try.func29, Try.ntmps29
  go_wp2_with fail
  generalize w.alloc (.cells #[.int .i64 x, .int .i64 y] 62) = w1 at *
  obtain ⟨wd, hwd⟩ : ∃ wd, w1.drew = wd := ⟨_, rfl⟩
  replace H0 : Hid (WBx w0 wd g gb w.heap.size 62 [.int .i64 x, .int .i64 y] F form) := by
    (show WBx _ _ _ _ _ _ _ _ _)
    rw [← hwd]
    exact H0.out.drew
  refine wp_region_held_drew (S := (fun w' => w'.cell? ⟨gb, 0, none⟩ = some (.pointer (some ⟨g, 0, none⟩)) ∧ w'.cell? ⟨w.heap.size, 0, none⟩ = some (.int .i64 x) ∧ w'.cell? ⟨w.heap.size, 1, none⟩ = some (.int .i64 y))) (by kernel_rfl) ((by rw [hwd]; exact ⟨H0.out.st.box, H0.out.bx.at (j := 0) rfl, H0.out.bx.at (j := 1) rfl⟩)) (fun hHeld => ?_)
  rw [hwd] at hHeld ⊢
  clear hwd
  obtain ⟨w2, hw2⟩ : ∃ w2, wd = w2 := ⟨_, rfl⟩
  rw [hw2] at H0 hHeld ⊢
  clear hw2
  refine wpAnyH_take (i := 0) (v := ?_) rfl (by kernel_rfl) (by kernel_rfl) (by kernel_rfl) (fun _ _ _ h => h) (Or.inl ⟨by rfl, ?_⟩) (by assumption) ?_
  rotate_left 1
  · intro w hSw; (try dsimp only at hSw); go_simp; (try with_reducible rfl)
  simp only [Act.put, List.getElem_toArray, List.getElem_cons_zero, List.getElem_cons_succ, List.setIfInBounds_toArray, List.set_cons_zero, List.set_cons_succ]
  refine wpAnyH_take (i := 1) (v := ?_) rfl (by kernel_rfl) (by kernel_rfl) (by kernel_rfl) (fun _ _ _ h => h) (Or.inl ⟨by rfl, ?_⟩) (by assumption) ?_
  rotate_left 1
  · intro w hSw; (try dsimp only at hSw); go_simp; (try with_reducible rfl)
  simp only [Act.put, List.getElem_toArray, List.getElem_cons_zero, List.getElem_cons_succ, List.setIfInBounds_toArray, List.set_cons_zero, List.set_cons_succ]
  refine wpAnyH_take (i := 2) (v := ?_) rfl (by kernel_rfl) (by kernel_rfl) (by kernel_rfl) (fun _ _ _ h => h) (Or.inl ⟨by rfl, ?_⟩) (by assumption) ?_
  rotate_left 1
  · intro w hSw; (try dsimp only at hSw); go_simp; (try with_reducible rfl)
  simp only [Act.put, List.getElem_toArray, List.getElem_cons_zero, List.getElem_cons_succ, List.setIfInBounds_toArray, List.set_cons_zero, List.set_cons_succ]
  refine wpAnyH_take (i := 4) (v := ?_) rfl (by kernel_rfl) (by kernel_rfl) (by kernel_rfl) (fun _ _ _ h => h) (Or.inl ⟨by rfl, ?_⟩) (by assumption) ?_
  rotate_left 1
  · intro w hSw; (try dsimp only at hSw); go_simp; (try with_reducible rfl)
  simp only [Act.put, List.getElem_toArray, List.getElem_cons_zero, List.getElem_cons_succ, List.setIfInBounds_toArray, List.set_cons_zero, List.set_cons_succ]
  refine wpAnyH_take (i := 5) (v := ?_) rfl (by kernel_rfl) (by kernel_rfl) (by kernel_rfl) (fun _ _ _ h => h) (Or.inl ⟨by rfl, ?_⟩) (by assumption) ?_
  rotate_left 1
  · intro w hSw; (try dsimp only at hSw); go_simp; (try with_reducible rfl)
  simp only [Act.put, List.getElem_toArray, List.getElem_cons_zero, List.getElem_cons_succ, List.setIfInBounds_toArray, List.set_cons_zero, List.set_cons_succ]
  refine wpAnyH_ready (rs := [3]) (by kernel_rfl) (by simp) ?_
  refine AllReadyH.cons rfl (fun K hK => ?_) AllReadyH.nil
  go_simp
  refine (wInt g F (form) false x w2 H0.out.st.wr).mono ?_
  rintro e wz0 ht
  obtain ⟨rfl, F0, hw2⟩ := H0.out.ends (len_ok (k := 8) L0.out (enc8_le _) (by decide)) ht
  have H1 := Lib.hid hw2
  have L1 := Lib.hid (len_on (k := 8) (b := enc (u64N x) 8) L0.out (enc8_le _))
  clear ht hw2 hHeld H0 L0
  go_wp2_with fail
  refine hK.out _ _ (⟨H1.out.st.box, H1.out.bx.at (j := 0) rfl, H1.out.bx.at (j := 1) rfl⟩) (fun hHeld => ?_)
  clear hK K
  refine wpAnyH_ready (rs := [6]) (by kernel_rfl) (by simp) ?_
  refine AllReadyH.cons rfl (fun K hK => ?_) AllReadyH.nil
  go_simp
  refine (wInt g F0 (form ++ enc (u64N x) 8) false y wz0 H1.out.st.wr).mono ?_
  rintro e wz1 ht
  obtain ⟨rfl, F1, hw2⟩ := H1.out.ends (len_ok (k := 8) L1.out (enc8_le _) (by decide)) ht
  have H2 := Lib.hid hw2
  have L2 := Lib.hid (len_on (k := 8) (b := enc (u64N y) 8) L1.out (enc8_le _))
  clear ht hw2 hHeld H1 L1
  go_wp2_with fail
  refine hK.out _ _ (⟨H2.out.st.box, H2.out.bx.at (j := 0) rfl, H2.out.bx.at (j := 1) rfl⟩) (fun hHeld => ?_)
  clear hK K
  refine wpAnyH_done (by kernel_rfl) ?_ _
  go_wp2_with fail
  have hf := H2.out.st
  have e2 : form ++ winB (x, y) = form ++ enc (u64N x) 8 ++ enc (u64N y) 8 := by simp [winB]
  rw [← e2] at hf
  exact bodyPost_end (results_none rfl _ _ _) rfl ⟨rfl, F1, hf⟩
set_option maxRecDepth 1000000 in
set_option maxHeartbeats 1000000 in
theorem cCh (a b d q s : Int) (w0 w : World) (g gb : Nat) (F : Nat → Prop) (form : List UInt8) (h : WSt w0 w g gb F form) (hl : form.length ≤ 60000) :
    Calls Try.prog 36 #[.agg #[.int .i64 a, .int .i64 b, .int .i64 d, .int .i64 q, .int .i64 s], .pointer (some ⟨gb, 0, none⟩)] w fun e w' => e = .returned (.tuple #[]) ∧ ∃ F', WSt w0 w' g gb F' (form ++ chB ⟨a, b, d, q, s⟩) := by
  have L0 := Lib.hid hl
  have H0 : Hid (WBx w0 (w.alloc (.cells #[.int .i64 a, .int .i64 b, .int .i64 d, .int .i64 q, .int .i64 s] 50)) g gb w.heap.size 50 [.int .i64 a, .int .i64 b, .int .i64 d, .int .i64 q, .int .i64 s] F form) := WBx.new h _ [.int .i64 a, .int .i64 b, .int .i64 d, .int .i64 q, .int .i64 s]
  clear h hl
  go_enter Try.func36, Try.ntmps36
  go_wp2_with fail
  generalize w.alloc (.cells #[.int .i64 a, .int .i64 b, .int .i64 d, .int .i64 q, .int .i64 s] 50) = w1 at *
  obtain ⟨wd, hwd⟩ : ∃ wd, w1.drew = wd := ⟨_, rfl⟩
  replace H0 : Hid (WBx w0 wd g gb w.heap.size 50 [.int .i64 a, .int .i64 b, .int .i64 d, .int .i64 q, .int .i64 s] F form) := by
    (show WBx _ _ _ _ _ _ _ _ _)
    rw [← hwd]
    exact H0.out.drew
  refine wp_region_held_drew (S := (fun w' => w'.cell? ⟨gb, 0, none⟩ = some (.pointer (some ⟨g, 0, none⟩)) ∧ w'.cell? ⟨w.heap.size, 0, none⟩ = some (.int .i64 a) ∧ w'.cell? ⟨w.heap.size, 1, none⟩ = some (.int .i64 b) ∧ w'.cell? ⟨w.heap.size, 2, none⟩ = some (.int .i64 d) ∧ w'.cell? ⟨w.heap.size, 3, none⟩ = some (.int .i64 q) ∧ w'.cell? ⟨w.heap.size, 4, none⟩ = some (.int .i64 s))) (by kernel_rfl) ((by rw [hwd]; exact ⟨H0.out.st.box, H0.out.bx.at (j := 0) rfl, H0.out.bx.at (j := 1) rfl, H0.out.bx.at (j := 2) rfl, H0.out.bx.at (j := 3) rfl, H0.out.bx.at (j := 4) rfl⟩)) (fun hHeld => ?_)
  rw [hwd] at hHeld ⊢
  clear hwd
  obtain ⟨w2, hw2⟩ : ∃ w2, wd = w2 := ⟨_, rfl⟩
  rw [hw2] at H0 hHeld ⊢
  clear hw2
  refine wpAnyH_take (i := 0) (v := ?_) rfl (by kernel_rfl) (by kernel_rfl) (by kernel_rfl) (fun _ _ _ h => h) (Or.inl ⟨by rfl, ?_⟩) (by assumption) ?_
  rotate_left 1
  · intro w hSw; (try dsimp only at hSw); go_simp; (try with_reducible rfl)
  simp only [Act.put, List.getElem_toArray, List.getElem_cons_zero, List.getElem_cons_succ, List.setIfInBounds_toArray, List.set_cons_zero, List.set_cons_succ]
  refine wpAnyH_take (i := 1) (v := ?_) rfl (by kernel_rfl) (by kernel_rfl) (by kernel_rfl) (fun _ _ _ h => h) (Or.inl ⟨by rfl, ?_⟩) (by assumption) ?_
  rotate_left 1
  · intro w hSw; (try dsimp only at hSw); go_simp; (try with_reducible rfl)
  simp only [Act.put, List.getElem_toArray, List.getElem_cons_zero, List.getElem_cons_succ, List.setIfInBounds_toArray, List.set_cons_zero, List.set_cons_succ]
  refine wpAnyH_take (i := 2) (v := ?_) rfl (by kernel_rfl) (by kernel_rfl) (by kernel_rfl) (fun _ _ _ h => h) (Or.inl ⟨by rfl, ?_⟩) (by assumption) ?_
  rotate_left 1
  · intro w hSw; (try dsimp only at hSw); go_simp; (try with_reducible rfl)
  simp only [Act.put, List.getElem_toArray, List.getElem_cons_zero, List.getElem_cons_succ, List.setIfInBounds_toArray, List.set_cons_zero, List.set_cons_succ]
  refine wpAnyH_take (i := 4) (v := ?_) rfl (by kernel_rfl) (by kernel_rfl) (by kernel_rfl) (fun _ _ _ h => h) (Or.inl ⟨by rfl, ?_⟩) (by assumption) ?_
  rotate_left 1
  · intro w hSw; (try dsimp only at hSw); go_simp; (try with_reducible rfl)
  simp only [Act.put, List.getElem_toArray, List.getElem_cons_zero, List.getElem_cons_succ, List.setIfInBounds_toArray, List.set_cons_zero, List.set_cons_succ]
  refine wpAnyH_take (i := 5) (v := ?_) rfl (by kernel_rfl) (by kernel_rfl) (by kernel_rfl) (fun _ _ _ h => h) (Or.inl ⟨by rfl, ?_⟩) (by assumption) ?_
  rotate_left 1
  · intro w hSw; (try dsimp only at hSw); go_simp; (try with_reducible rfl)
  simp only [Act.put, List.getElem_toArray, List.getElem_cons_zero, List.getElem_cons_succ, List.setIfInBounds_toArray, List.set_cons_zero, List.set_cons_succ]
  refine wpAnyH_take (i := 7) (v := ?_) rfl (by kernel_rfl) (by kernel_rfl) (by kernel_rfl) (fun _ _ _ h => h) (Or.inl ⟨by rfl, ?_⟩) (by assumption) ?_
  rotate_left 1
  · intro w hSw; (try dsimp only at hSw); go_simp; (try with_reducible rfl)
  simp only [Act.put, List.getElem_toArray, List.getElem_cons_zero, List.getElem_cons_succ, List.setIfInBounds_toArray, List.set_cons_zero, List.set_cons_succ]
  refine wpAnyH_take (i := 8) (v := ?_) rfl (by kernel_rfl) (by kernel_rfl) (by kernel_rfl) (fun _ _ _ h => h) (Or.inl ⟨by rfl, ?_⟩) (by assumption) ?_
  rotate_left 1
  · intro w hSw; (try dsimp only at hSw); go_simp; (try with_reducible rfl)
  simp only [Act.put, List.getElem_toArray, List.getElem_cons_zero, List.getElem_cons_succ, List.setIfInBounds_toArray, List.set_cons_zero, List.set_cons_succ]
  refine wpAnyH_take (i := 10) (v := ?_) rfl (by kernel_rfl) (by kernel_rfl) (by kernel_rfl) (fun _ _ _ h => h) (Or.inl ⟨by rfl, ?_⟩) (by assumption) ?_
  rotate_left 1
  · intro w hSw; (try dsimp only at hSw); go_simp; (try with_reducible rfl)
  simp only [Act.put, List.getElem_toArray, List.getElem_cons_zero, List.getElem_cons_succ, List.setIfInBounds_toArray, List.set_cons_zero, List.set_cons_succ]
  refine wpAnyH_take (i := 11) (v := ?_) rfl (by kernel_rfl) (by kernel_rfl) (by kernel_rfl) (fun _ _ _ h => h) (Or.inl ⟨by rfl, ?_⟩) (by assumption) ?_
  rotate_left 1
  · intro w hSw; (try dsimp only at hSw); go_simp; (try with_reducible rfl)
  simp only [Act.put, List.getElem_toArray, List.getElem_cons_zero, List.getElem_cons_succ, List.setIfInBounds_toArray, List.set_cons_zero, List.set_cons_succ]
  refine wpAnyH_take (i := 13) (v := ?_) rfl (by kernel_rfl) (by kernel_rfl) (by kernel_rfl) (fun _ _ _ h => h) (Or.inl ⟨by rfl, ?_⟩) (by assumption) ?_
  rotate_left 1
  · intro w hSw; (try dsimp only at hSw); go_simp; (try with_reducible rfl)
  simp only [Act.put, List.getElem_toArray, List.getElem_cons_zero, List.getElem_cons_succ, List.setIfInBounds_toArray, List.set_cons_zero, List.set_cons_succ]
  refine wpAnyH_take (i := 14) (v := ?_) rfl (by kernel_rfl) (by kernel_rfl) (by kernel_rfl) (fun _ _ _ h => h) (Or.inl ⟨by rfl, ?_⟩) (by assumption) ?_
  rotate_left 1
  · intro w hSw; (try dsimp only at hSw); go_simp; (try with_reducible rfl)
  simp only [Act.put, List.getElem_toArray, List.getElem_cons_zero, List.getElem_cons_succ, List.setIfInBounds_toArray, List.set_cons_zero, List.set_cons_succ]
  refine wpAnyH_ready (rs := [3]) (by kernel_rfl) (by simp) ?_
  refine AllReadyH.cons rfl (fun K hK => ?_) AllReadyH.nil
  go_simp
  refine (wInt g F (form) false a w2 H0.out.st.wr).mono ?_
  rintro e wz0 ht
  obtain ⟨rfl, F0, hw2⟩ := H0.out.ends (len_ok (k := 8) L0.out (enc8_le _) (by decide)) ht
  have H1 := Lib.hid hw2
  have L1 := Lib.hid (len_on (k := 8) (b := enc (u64N a) 8) L0.out (enc8_le _))
  clear ht hw2 hHeld H0 L0
  go_wp2_with fail
  refine hK.out _ _ (⟨H1.out.st.box, H1.out.bx.at (j := 0) rfl, H1.out.bx.at (j := 1) rfl, H1.out.bx.at (j := 2) rfl, H1.out.bx.at (j := 3) rfl, H1.out.bx.at (j := 4) rfl⟩) (fun hHeld => ?_)
  clear hK K
  refine wpAnyH_ready (rs := [6]) (by kernel_rfl) (by simp) ?_
  refine AllReadyH.cons rfl (fun K hK => ?_) AllReadyH.nil
  go_simp
  refine (wInt g F0 (form ++ enc (u64N a) 8) false b wz0 H1.out.st.wr).mono ?_
  rintro e wz1 ht
  obtain ⟨rfl, F1, hw2⟩ := H1.out.ends (len_ok (k := 8) L1.out (enc8_le _) (by decide)) ht
  have H2 := Lib.hid hw2
  have L2 := Lib.hid (len_on (k := 8) (b := enc (u64N b) 8) L1.out (enc8_le _))
  clear ht hw2 hHeld H1 L1
  go_wp2_with fail
  refine hK.out _ _ (⟨H2.out.st.box, H2.out.bx.at (j := 0) rfl, H2.out.bx.at (j := 1) rfl, H2.out.bx.at (j := 2) rfl, H2.out.bx.at (j := 3) rfl, H2.out.bx.at (j := 4) rfl⟩) (fun hHeld => ?_)
  clear hK K
  refine wpAnyH_ready (rs := [9]) (by kernel_rfl) (by simp) ?_
  refine AllReadyH.cons rfl (fun K hK => ?_) AllReadyH.nil
  go_simp
  refine (wInt g F1 ((form ++ enc (u64N a) 8) ++ enc (u64N b) 8) false d wz1 H2.out.st.wr).mono ?_
  rintro e wz2 ht
  obtain ⟨rfl, F2, hw2⟩ := H2.out.ends (len_ok (k := 8) L2.out (enc8_le _) (by decide)) ht
  have H3 := Lib.hid hw2
  have L3 := Lib.hid (len_on (k := 8) (b := enc (u64N d) 8) L2.out (enc8_le _))
  clear ht hw2 hHeld H2 L2
  go_wp2_with fail
  refine hK.out _ _ (⟨H3.out.st.box, H3.out.bx.at (j := 0) rfl, H3.out.bx.at (j := 1) rfl, H3.out.bx.at (j := 2) rfl, H3.out.bx.at (j := 3) rfl, H3.out.bx.at (j := 4) rfl⟩) (fun hHeld => ?_)
  clear hK K
  refine wpAnyH_ready (rs := [12]) (by kernel_rfl) (by simp) ?_
  refine AllReadyH.cons rfl (fun K hK => ?_) AllReadyH.nil
  go_simp
  refine (wInt g F2 (((form ++ enc (u64N a) 8) ++ enc (u64N b) 8) ++ enc (u64N d) 8) false q wz2 H3.out.st.wr).mono ?_
  rintro e wz3 ht
  obtain ⟨rfl, F3, hw2⟩ := H3.out.ends (len_ok (k := 8) L3.out (enc8_le _) (by decide)) ht
  have H4 := Lib.hid hw2
  have L4 := Lib.hid (len_on (k := 8) (b := enc (u64N q) 8) L3.out (enc8_le _))
  clear ht hw2 hHeld H3 L3
  go_wp2_with fail
  refine hK.out _ _ (⟨H4.out.st.box, H4.out.bx.at (j := 0) rfl, H4.out.bx.at (j := 1) rfl, H4.out.bx.at (j := 2) rfl, H4.out.bx.at (j := 3) rfl, H4.out.bx.at (j := 4) rfl⟩) (fun hHeld => ?_)
  clear hK K
  refine wpAnyH_ready (rs := [15]) (by kernel_rfl) (by simp) ?_
  refine AllReadyH.cons rfl (fun K hK => ?_) AllReadyH.nil
  go_simp
  refine (wInt g F3 ((((form ++ enc (u64N a) 8) ++ enc (u64N b) 8) ++ enc (u64N d) 8) ++ enc (u64N q) 8) false s wz3 H4.out.st.wr).mono ?_
  rintro e wz4 ht
  obtain ⟨rfl, F4, hw2⟩ := H4.out.ends (len_ok (k := 8) L4.out (enc8_le _) (by decide)) ht
  have H5 := Lib.hid hw2
  have L5 := Lib.hid (len_on (k := 8) (b := enc (u64N s) 8) L4.out (enc8_le _))
  clear ht hw2 hHeld H4 L4
  go_wp2_with fail
  refine hK.out _ _ (⟨H5.out.st.box, H5.out.bx.at (j := 0) rfl, H5.out.bx.at (j := 1) rfl, H5.out.bx.at (j := 2) rfl, H5.out.bx.at (j := 3) rfl, H5.out.bx.at (j := 4) rfl⟩) (fun hHeld => ?_)
  clear hK K
  refine wpAnyH_done (by kernel_rfl) ?_ _
  go_wp2_with fail
  have hf := H5.out.st
  have e2 : form ++ chB ⟨a, b, d, q, s⟩ = form ++ enc (u64N a) 8 ++ enc (u64N b) 8 ++ enc (u64N d) 8 ++ enc (u64N q) 8 ++ enc (u64N s) 8 := by simp [chB, numsB, chN]
  rw [← e2] at hf
  exact bodyPost_end (results_none rfl _ _ _) rfl ⟨rfl, F4, hf⟩
set_option maxRecDepth 1000000 in
set_option maxHeartbeats 1000000 in
theorem cPt (i b s : Int) (kp : Bool) (A : Option Addr) (m c : Nat) (im : List UInt8) (w0 w : World) (g gb : Nat) (F : Nat → Prop) (form : List UInt8) (h : WSt w0 w g gb F form) (hl : form.length ≤ 60000) (hr : Rd w0 w0.heap.size A m im) (hm : m ≤ 512) (hc : m ≤ c ∧ c ≤ 9223372036854775807) :
    Calls Try.prog 32 #[.agg #[.int .i64 i, .int .i64 b, .int .i64 s, .bool kp, .slice A m c], .pointer (some ⟨gb, 0, none⟩)] w fun e w' => e = .returned (.tuple #[]) ∧ ∃ F', WSt w0 w' g gb F' (form ++ ptB ⟨i, b, s, kp, im⟩) := by
  have L0 := Lib.hid hl
  have R := Lib.hid hr
  have CC := Lib.hid hc
  have M6 : Hid (m ≤ 1000000) := by (show _ ≤ _); omega
  have IB : Hid ((enc im.length 4 ++ im).length ≤ 516) := by (show _ ≤ _); rw [List.length_append, enc_len, hr.1]; omega
  clear hr hm hc
  have H0 : Hid (WBx w0 (w.alloc (.cells #[.int .i64 i, .int .i64 b, .int .i64 s, .bool kp, .slice A m c] 46)) g gb w.heap.size 46 [.int .i64 i, .int .i64 b, .int .i64 s, .bool kp, .slice A m c] F form) := WBx.new h _ [.int .i64 i, .int .i64 b, .int .i64 s, .bool kp, .slice A m c]
  clear h hl
  go_enter Try.func32, Try.ntmps32
  go_wp2_with fail
  generalize w.alloc (.cells #[.int .i64 i, .int .i64 b, .int .i64 s, .bool kp, .slice A m c] 46) = w1 at *
  obtain ⟨wd, hwd⟩ : ∃ wd, w1.drew = wd := ⟨_, rfl⟩
  replace H0 : Hid (WBx w0 wd g gb w.heap.size 46 [.int .i64 i, .int .i64 b, .int .i64 s, .bool kp, .slice A m c] F form) := by
    (show WBx _ _ _ _ _ _ _ _ _)
    rw [← hwd]
    exact H0.out.drew
  refine wp_region_held_drew (S := (fun w' => w'.cell? ⟨gb, 0, none⟩ = some (.pointer (some ⟨g, 0, none⟩)) ∧ w'.cell? ⟨w.heap.size, 0, none⟩ = some (.int .i64 i) ∧ w'.cell? ⟨w.heap.size, 1, none⟩ = some (.int .i64 b) ∧ w'.cell? ⟨w.heap.size, 2, none⟩ = some (.int .i64 s) ∧ w'.cell? ⟨w.heap.size, 3, none⟩ = some (.bool kp) ∧ w'.cell? ⟨w.heap.size, 4, none⟩ = some (.slice A m c))) (by kernel_rfl) ((by rw [hwd]; exact ⟨H0.out.st.box, H0.out.bx.at (j := 0) rfl, H0.out.bx.at (j := 1) rfl, H0.out.bx.at (j := 2) rfl, H0.out.bx.at (j := 3) rfl, H0.out.bx.at (j := 4) rfl⟩)) (fun hHeld => ?_)
  rw [hwd] at hHeld ⊢
  clear hwd
  obtain ⟨w2, hw2⟩ : ∃ w2, wd = w2 := ⟨_, rfl⟩
  rw [hw2] at H0 hHeld ⊢
  clear hw2
  refine wpAnyH_take (i := 0) (v := ?_) rfl (by kernel_rfl) (by kernel_rfl) (by kernel_rfl) (fun _ _ _ h => h) (Or.inl ⟨by rfl, ?_⟩) (by assumption) ?_
  rotate_left 1
  · intro w hSw; (try dsimp only at hSw); go_simp; (try with_reducible rfl)
  simp only [Act.put, List.getElem_toArray, List.getElem_cons_zero, List.getElem_cons_succ, List.setIfInBounds_toArray, List.set_cons_zero, List.set_cons_succ]
  refine wpAnyH_take (i := 1) (v := ?_) rfl (by kernel_rfl) (by kernel_rfl) (by kernel_rfl) (fun _ _ _ h => h) (Or.inl ⟨by rfl, ?_⟩) (by assumption) ?_
  rotate_left 1
  · intro w hSw; (try dsimp only at hSw); go_simp; (try with_reducible rfl)
  simp only [Act.put, List.getElem_toArray, List.getElem_cons_zero, List.getElem_cons_succ, List.setIfInBounds_toArray, List.set_cons_zero, List.set_cons_succ]
  refine wpAnyH_take (i := 2) (v := ?_) rfl (by kernel_rfl) (by kernel_rfl) (by kernel_rfl) (fun _ _ _ h => h) (Or.inl ⟨by rfl, ?_⟩) (by assumption) ?_
  rotate_left 1
  · intro w hSw; (try dsimp only at hSw); go_simp; (try with_reducible rfl)
  simp only [Act.put, List.getElem_toArray, List.getElem_cons_zero, List.getElem_cons_succ, List.setIfInBounds_toArray, List.set_cons_zero, List.set_cons_succ]
  refine wpAnyH_take (i := 4) (v := ?_) rfl (by kernel_rfl) (by kernel_rfl) (by kernel_rfl) (fun _ _ _ h => h) (Or.inl ⟨by rfl, ?_⟩) (by assumption) ?_
  rotate_left 1
  · intro w hSw; (try dsimp only at hSw); go_simp; (try with_reducible rfl)
  simp only [Act.put, List.getElem_toArray, List.getElem_cons_zero, List.getElem_cons_succ, List.setIfInBounds_toArray, List.set_cons_zero, List.set_cons_succ]
  refine wpAnyH_take (i := 5) (v := ?_) rfl (by kernel_rfl) (by kernel_rfl) (by kernel_rfl) (fun _ _ _ h => h) (Or.inl ⟨by rfl, ?_⟩) (by assumption) ?_
  rotate_left 1
  · intro w hSw; (try dsimp only at hSw); go_simp; (try with_reducible rfl)
  simp only [Act.put, List.getElem_toArray, List.getElem_cons_zero, List.getElem_cons_succ, List.setIfInBounds_toArray, List.set_cons_zero, List.set_cons_succ]
  refine wpAnyH_take (i := 6) (v := ?_) rfl (by kernel_rfl) (by kernel_rfl) (by kernel_rfl) (fun _ _ _ h => h) (Or.inl ⟨by rfl, ?_⟩) (by assumption) ?_
  rotate_left 1
  · intro w hSw; (try dsimp only at hSw); go_simp; (try with_reducible rfl)
  simp only [Act.put, List.getElem_toArray, List.getElem_cons_zero, List.getElem_cons_succ, List.setIfInBounds_toArray, List.set_cons_zero, List.set_cons_succ]
  refine wpAnyH_take (i := 8) (v := ?_) rfl (by kernel_rfl) (by kernel_rfl) (by kernel_rfl) (fun _ _ _ h => h) (Or.inl ⟨by rfl, ?_⟩) (by assumption) ?_
  rotate_left 1
  · intro w hSw; (try dsimp only at hSw); go_simp; (try with_reducible rfl)
  simp only [Act.put, List.getElem_toArray, List.getElem_cons_zero, List.getElem_cons_succ, List.setIfInBounds_toArray, List.set_cons_zero, List.set_cons_succ]
  refine wpAnyH_take (i := 9) (v := ?_) rfl (by kernel_rfl) (by kernel_rfl) (by kernel_rfl) (fun _ _ _ h => h) (Or.inl ⟨by rfl, ?_⟩) (by assumption) ?_
  rotate_left 1
  · intro w hSw; (try dsimp only at hSw); go_simp; (try with_reducible rfl)
  simp only [Act.put, List.getElem_toArray, List.getElem_cons_zero, List.getElem_cons_succ, List.setIfInBounds_toArray, List.set_cons_zero, List.set_cons_succ]
  refine wpAnyH_take (i := 10) (v := ?_) rfl (by kernel_rfl) (by kernel_rfl) (by kernel_rfl) (fun _ _ _ h => h) (Or.inl ⟨by rfl, ?_⟩) (by assumption) ?_
  rotate_left 1
  · intro w hSw; (try dsimp only at hSw); go_simp; (try with_reducible rfl)
  simp only [Act.put, List.getElem_toArray, List.getElem_cons_zero, List.getElem_cons_succ, List.setIfInBounds_toArray, List.set_cons_zero, List.set_cons_succ]
  refine wpAnyH_take (i := 12) (v := ?_) rfl (by kernel_rfl) (by kernel_rfl) (by kernel_rfl) (fun _ _ _ h => h) (Or.inl ⟨by rfl, ?_⟩) (by assumption) ?_
  rotate_left 1
  · intro w hSw; (try dsimp only at hSw); go_simp; (try with_reducible rfl)
  simp only [Act.put, List.getElem_toArray, List.getElem_cons_zero, List.getElem_cons_succ, List.setIfInBounds_toArray, List.set_cons_zero, List.set_cons_succ]
  refine wpAnyH_take (i := 13) (v := ?_) rfl (by kernel_rfl) (by kernel_rfl) (by kernel_rfl) (fun _ _ _ h => h) (Or.inl ⟨by rfl, ?_⟩) (by assumption) ?_
  rotate_left 1
  · intro w hSw; (try dsimp only at hSw); go_simp; (try with_reducible rfl)
  simp only [Act.put, List.getElem_toArray, List.getElem_cons_zero, List.getElem_cons_succ, List.setIfInBounds_toArray, List.set_cons_zero, List.set_cons_succ]
  refine wpAnyH_take (i := 15) (v := ?_) rfl (by kernel_rfl) (by kernel_rfl) (by kernel_rfl) (fun _ _ _ h => h) (Or.inl ⟨by rfl, ?_⟩) (by assumption) ?_
  rotate_left 1
  · intro w hSw; (try dsimp only at hSw); go_simp; (try with_reducible rfl)
  simp only [Act.put, List.getElem_toArray, List.getElem_cons_zero, List.getElem_cons_succ, List.setIfInBounds_toArray, List.set_cons_zero, List.set_cons_succ]
  refine wpAnyH_take (i := 16) (v := ?_) rfl (by kernel_rfl) (by kernel_rfl) (by kernel_rfl) (fun _ _ _ h => h) (Or.inl ⟨by rfl, ?_⟩) (by assumption) ?_
  rotate_left 1
  · intro w hSw; (try dsimp only at hSw); go_simp; (try with_reducible rfl)
  simp only [Act.put, List.getElem_toArray, List.getElem_cons_zero, List.getElem_cons_succ, List.setIfInBounds_toArray, List.set_cons_zero, List.set_cons_succ]
  refine wpAnyH_ready (rs := [3]) (by kernel_rfl) (by simp) ?_
  refine AllReadyH.cons rfl (fun K hK => ?_) AllReadyH.nil
  go_simp
  refine (wInt g F (form) false i w2 H0.out.st.wr).mono ?_
  rintro e wz0 ht
  obtain ⟨rfl, F0, hw2⟩ := H0.out.ends (len_ok (k := 8) L0.out (enc8_le _) (by decide)) ht
  have H1 := Lib.hid hw2
  have L1 := Lib.hid (len_on (k := 8) (b := enc (u64N i) 8) L0.out (enc8_le _))
  clear ht hw2 hHeld H0 L0
  go_wp2_with fail
  refine hK.out _ _ (⟨H1.out.st.box, H1.out.bx.at (j := 0) rfl, H1.out.bx.at (j := 1) rfl, H1.out.bx.at (j := 2) rfl, H1.out.bx.at (j := 3) rfl, H1.out.bx.at (j := 4) rfl⟩) (fun hHeld => ?_)
  clear hK K
  refine wpAnyH_ready (rs := [7]) (by kernel_rfl) (by simp) ?_
  refine AllReadyH.cons rfl (fun K hK => ?_) AllReadyH.nil
  go_simp
  refine (wInt g F0 (form ++ enc (u64N i) 8) false b wz0 H1.out.st.wr).mono ?_
  rintro e wz1 ht
  obtain ⟨rfl, F1, hw2⟩ := H1.out.ends (len_ok (k := 8) L1.out (enc8_le _) (by decide)) ht
  have H2 := Lib.hid hw2
  have L2 := Lib.hid (len_on (k := 8) (b := enc (u64N b) 8) L1.out (enc8_le _))
  clear ht hw2 hHeld H1 L1
  go_wp2_with fail
  refine hK.out _ _ (⟨H2.out.st.box, H2.out.bx.at (j := 0) rfl, H2.out.bx.at (j := 1) rfl, H2.out.bx.at (j := 2) rfl, H2.out.bx.at (j := 3) rfl, H2.out.bx.at (j := 4) rfl⟩) (fun hHeld => ?_)
  clear hK K
  refine wpAnyH_ready (rs := [11]) (by kernel_rfl) (by simp) ?_
  refine AllReadyH.cons rfl (fun K hK => ?_) AllReadyH.nil
  go_simp
  refine (wInt g F1 ((form ++ enc (u64N i) 8) ++ enc (u64N b) 8) false s wz1 H2.out.st.wr).mono ?_
  rintro e wz2 ht
  obtain ⟨rfl, F2, hw2⟩ := H2.out.ends (len_ok (k := 8) L2.out (enc8_le _) (by decide)) ht
  have H3 := Lib.hid hw2
  have L3 := Lib.hid (len_on (k := 8) (b := enc (u64N s) 8) L2.out (enc8_le _))
  clear ht hw2 hHeld H2 L2
  go_wp2_with fail
  refine hK.out _ _ (⟨H3.out.st.box, H3.out.bx.at (j := 0) rfl, H3.out.bx.at (j := 1) rfl, H3.out.bx.at (j := 2) rfl, H3.out.bx.at (j := 3) rfl, H3.out.bx.at (j := 4) rfl⟩) (fun hHeld => ?_)
  clear hK K
  refine wpAnyH_ready (rs := [14]) (by kernel_rfl) (by simp) ?_
  refine AllReadyH.cons rfl (fun K hK => ?_) AllReadyH.nil
  go_simp
  refine (wFlag g F2 (((form ++ enc (u64N i) 8) ++ enc (u64N b) 8) ++ enc (u64N s) 8) false kp wz2 H3.out.st.wr).mono ?_
  rintro e wz3 ht
  obtain ⟨rfl, F3, hw2⟩ := H3.out.ends (len_ok (k := 1) L3.out (show [flagB kp].length ≤ 1 from Nat.le_refl 1) (by decide)) ht
  have H4 := Lib.hid hw2
  have L4 := Lib.hid (len_on (k := 1) (b := [flagB kp]) L3.out (show [flagB kp].length ≤ 1 from Nat.le_refl 1))
  clear ht hw2 hHeld H3 L3
  go_wp2_with fail
  refine hK.out _ _ (⟨H4.out.st.box, H4.out.bx.at (j := 0) rfl, H4.out.bx.at (j := 1) rfl, H4.out.bx.at (j := 2) rfl, H4.out.bx.at (j := 3) rfl, H4.out.bx.at (j := 4) rfl⟩) (fun hHeld => ?_)
  clear hK K
  refine wpAnyH_ready (rs := [17]) (by kernel_rfl) (by simp) ?_
  refine AllReadyH.cons rfl (fun K hK => ?_) AllReadyH.nil
  go_simp
  refine (wBytes g F3 ((((form ++ enc (u64N i) 8) ++ enc (u64N b) 8) ++ enc (u64N s) 8) ++ [flagB kp]) false A m c im wz3 H4.out.st.wr ((R.out.below H4.out.st.bel).more H4.out.st.bel.size) (R.out.off H4.out.st.fb) CC.out.1 CC.out.2 M6.out).mono ?_
  rintro e wz4 ht
  obtain ⟨rfl, F4, hw2⟩ := H4.out.ends (len_ok (k := 516) L4.out IB.out (by decide)) ht
  have H5 := Lib.hid hw2
  have L5 := Lib.hid (len_on (k := 516) (b := (enc im.length 4 ++ im)) L4.out IB.out)
  clear ht hw2 hHeld H4 L4
  go_wp2_with fail
  refine hK.out _ _ (⟨H5.out.st.box, H5.out.bx.at (j := 0) rfl, H5.out.bx.at (j := 1) rfl, H5.out.bx.at (j := 2) rfl, H5.out.bx.at (j := 3) rfl, H5.out.bx.at (j := 4) rfl⟩) (fun hHeld => ?_)
  clear hK K
  refine wpAnyH_done (by kernel_rfl) ?_ _
  go_wp2_with fail
  have hf := H5.out.st
  have e2 : form ++ ptB ⟨i, b, s, kp, im⟩ = form ++ enc (u64N i) 8 ++ enc (u64N b) 8 ++ enc (u64N s) 8 ++ [flagB kp] ++ ((enc im.length 4 ++ im)) := by simp [ptB]
  rw [← e2] at hf
  exact bodyPost_end (results_none rfl _ _ _) rfl ⟨rfl, F4, hf⟩
end

/- The program's config: writeList, three times. -/
section
open Go.RowKit
set_option linter.unusedVariables false
set_option linter.unusedSimpArgs false

set_option maxRecDepth 1000000 in
set_option maxHeartbeats 1000000 in
theorem wListW (A : Option Addr) (n c : Nat) (l : List Reg) (w0 w : World) (g gb : Nat) (F : Nat → Prop) (form : List UInt8) (h : WSt w0 w g gb F form) (hR : RdG w0 w0.heap.size A n l) (hn : n ≤ 12) (hl : form.length ≤ 20000) :
    Calls Try.prog 28 #[.pointer (some ⟨g, 0, none⟩), .slice A n c, .func (.func 29) #[] #[.pointer (some ⟨gb, 0, none⟩)]] w fun e w' => e = .returned (.tuple #[]) ∧ ∃ F', WSt w0 w' g gb F' (form ++ wsB l n) := by
  have H := Lib.hid h
  have R := Lib.hid hR
  have HN := Lib.hid hn
  have HL := Lib.hid hl
  have LL : Hid (l.length = n) := hR.1
  clear h hR hn hl
  go_enter Try.func28, Try.ntmps28
  go_wp2_with fail
  refine (wInt g F form false (n : Int) w H.out.wr).mono ?_
  intro e w1 ht
  obtain ⟨rfl, F1, hw, _⟩ := H.out.ends (len_ok (k := 8) HL.out (enc8_le _) (by decide)) ht
  rw [show enc (u64N (n : Int)) 8 = wsB l 0 by rw [wsB_zero, LL.out]; rfl] at hw
  have HR : Hid (∃ F, WSt w0 w1 g gb F (form ++ wsB l 0)) := ⟨F1, hw⟩
  clear ht hw H
  go_wp2_with fail
  go_loopw [7, 14] (fun s7 s14 wr => ∃ k : Nat, k ≤ n ∧ s14 = .int .i64 (k : Int) ∧ ∃ F, WSt w0 wr g gb F (form ++ wsB l k)) (fun _ s14 _ => n - (intOf s14).toNat)
  case atStart => exact ⟨0, Nat.zero_le _, rfl, HR.out⟩
  case round =>
    clear HR
    obtain ⟨k, hk, rfl, F2, hw⟩ := hrel
    have H := Lib.hid hw
    have HK := Lib.hid hk
    clear hw hk
    by_cases hlt : k < n
    · have hltI : (k : Int) < (n : Int) := by omega
      have hwk : IntKind.i64.wrap ((k : Int) + 1) = (k : Int) + 1 := by have := HN.out; rw [IntKind.wrap_i64]; omega
      have HLT : Hid (k < n) := hlt
      have HS := Lib.hid (wsB_snoc (l := l) (k := k) (by rw [LL.out]; exact hlt))
      have HLE : Hid ((form ++ wsB l k).length ≤ 60000) := by
        (show _ ≤ _)
        have := wsB_le l k (by rw [LL.out]; exact HN.out)
        have := HL.out
        rw [List.length_append]; omega
      obtain ⟨bb, o, hA, _, hc⟩ := (R.out.below H.out.bel).2 (by omega)
      obtain ⟨y0, y1⟩ := hc k hlt
      subst hA
      clear hc hlt
      generalize hp : rat l k = p at *
      replace hp := Lib.hid hp
      go_wp2_with fail
      have HB := Lib.hid (H.out.to ((Below.refl wr.heap.size wr).alloc (Nat.le_refl _) (.cells #[.int .i64 p.1, .int .i64 p.2] 62)))
      refine (cWin p.1 p.2 w0 _ g gb F2 _ HB.out HLE.out).mono ?_
      rintro e w2 ⟨rfl, F3, hw3⟩
      have H3 := Lib.hid hw3
      clear hw3 HB
      go_wp2_with fail
      go_roundw
      case rel => exact ⟨k + 1, HLT.out, by go_num, F3, by rw [HS.out, ← List.append_assoc]; exact H3.out⟩
      case measure => simp [intOf]; omega
    · obtain rfl : k = n := by have := HK.out; omega
      go_wp2_with fail
      exact bodyPost_end (results_none rfl _ _ _) rfl ⟨rfl, F2, H.out⟩
set_option maxRecDepth 1000000 in
set_option maxHeartbeats 1000000 in
theorem wListC (A : Option Addr) (n c : Nat) (l : List Ch) (w0 w : World) (g gb : Nat) (F : Nat → Prop) (form : List UInt8) (h : WSt w0 w g gb F form) (hR : RdC w0 w0.heap.size A n l) (hn : n ≤ 8) (hl : form.length ≤ 20000) :
    Calls Try.prog 35 #[.pointer (some ⟨g, 0, none⟩), .slice A n c, .func (.func 36) #[] #[.pointer (some ⟨gb, 0, none⟩)]] w fun e w' => e = .returned (.tuple #[]) ∧ ∃ F', WSt w0 w' g gb F' (form ++ csB l n) := by
  have H := Lib.hid h
  have R := Lib.hid hR
  have HN := Lib.hid hn
  have HL := Lib.hid hl
  have LL : Hid (l.length = n) := hR.1
  clear h hR hn hl
  go_enter Try.func35, Try.ntmps35
  go_wp2_with fail
  refine (wInt g F form false (n : Int) w H.out.wr).mono ?_
  intro e w1 ht
  obtain ⟨rfl, F1, hw, _⟩ := H.out.ends (len_ok (k := 8) HL.out (enc8_le _) (by decide)) ht
  rw [show enc (u64N (n : Int)) 8 = csB l 0 by rw [csB_zero, LL.out]; rfl] at hw
  have HR : Hid (∃ F, WSt w0 w1 g gb F (form ++ csB l 0)) := ⟨F1, hw⟩
  clear ht hw H
  go_wp2_with fail
  go_loopw [7, 14] (fun s7 s14 wr => ∃ k : Nat, k ≤ n ∧ s14 = .int .i64 (k : Int) ∧ ∃ F, WSt w0 wr g gb F (form ++ csB l k)) (fun _ s14 _ => n - (intOf s14).toNat)
  case atStart => exact ⟨0, Nat.zero_le _, rfl, HR.out⟩
  case round =>
    clear HR
    obtain ⟨k, hk, rfl, F2, hw⟩ := hrel
    have H := Lib.hid hw
    have HK := Lib.hid hk
    clear hw hk
    by_cases hlt : k < n
    · have hltI : (k : Int) < (n : Int) := by omega
      have hwk : IntKind.i64.wrap ((k : Int) + 1) = (k : Int) + 1 := by have := HN.out; rw [IntKind.wrap_i64]; omega
      have HLT : Hid (k < n) := hlt
      have HS := Lib.hid (csB_snoc (l := l) (k := k) (by rw [LL.out]; exact hlt))
      have HLE : Hid ((form ++ csB l k).length ≤ 60000) := by
        (show _ ≤ _)
        have := csB_le l k (by rw [LL.out]; exact HN.out)
        have := HL.out
        rw [List.length_append]; omega
      obtain ⟨bb, o, hA, y0, y1, y2, y3, y4⟩ := (R.out.below H.out.bel).at_ hlt
      subst hA
      clear hlt
      generalize hp : chAt l k = p at *
      replace hp := Lib.hid hp
      go_wp2_with fail
      have HB := Lib.hid (H.out.to ((Below.refl wr.heap.size wr).alloc (Nat.le_refl _) (.cells #[.int .i64 p.id, .int .i64 p.fr, .int .i64 p.dst, .int .i64 p.cap, .int .i64 p.size] 50)))
      refine (cCh p.id p.fr p.dst p.cap p.size w0 _ g gb F2 _ HB.out HLE.out).mono ?_
      rintro e w2 ⟨rfl, F3, hw3⟩
      have H3 := Lib.hid hw3
      clear hw3 HB
      go_wp2_with fail
      go_roundw
      case rel => exact ⟨k + 1, HLT.out, by go_num, F3, by rw [HS.out, ← List.append_assoc]; exact H3.out⟩
      case measure => simp [intOf]; omega
    · obtain rfl : k = n := by have := HK.out; omega
      go_wp2_with fail
      exact bodyPost_end (results_none rfl _ _ _) rfl ⟨rfl, F2, H.out⟩
set_option maxRecDepth 1000000 in
set_option maxHeartbeats 1000000 in
theorem wListP (A : Option Addr) (n c : Nat) (l : List Pt) (w0 w : World) (g gb : Nat) (F : Nat → Prop) (form : List UInt8) (h : WSt w0 w g gb F form) (hR : RdP w0 w0.heap.size A n l) (hn : n ≤ 6) (hl : form.length ≤ 20000) (hi : ∀ p ∈ l, p.img.length ≤ 512) :
    Calls Try.prog 31 #[.pointer (some ⟨g, 0, none⟩), .slice A n c, .func (.func 32) #[] #[.pointer (some ⟨gb, 0, none⟩)]] w fun e w' => e = .returned (.tuple #[]) ∧ ∃ F', WSt w0 w' g gb F' (form ++ psB l n) := by
  have H := Lib.hid h
  have R := Lib.hid hR
  have HN := Lib.hid hn
  have HL := Lib.hid hl
  have LL : Hid (l.length = n) := hR.1
  have HI := Lib.hid hi
  clear hi
  clear h hR hn hl
  go_enter Try.func31, Try.ntmps31
  go_wp2_with fail
  refine (wInt g F form false (n : Int) w H.out.wr).mono ?_
  intro e w1 ht
  obtain ⟨rfl, F1, hw, _⟩ := H.out.ends (len_ok (k := 8) HL.out (enc8_le _) (by decide)) ht
  rw [show enc (u64N (n : Int)) 8 = psB l 0 by rw [psB_zero, LL.out]; rfl] at hw
  have HR : Hid (∃ F, WSt w0 w1 g gb F (form ++ psB l 0)) := ⟨F1, hw⟩
  clear ht hw H
  go_wp2_with fail
  go_loopw [7, 14] (fun s7 s14 wr => ∃ k : Nat, k ≤ n ∧ s14 = .int .i64 (k : Int) ∧ ∃ F, WSt w0 wr g gb F (form ++ psB l k)) (fun _ s14 _ => n - (intOf s14).toNat)
  case atStart => exact ⟨0, Nat.zero_le _, rfl, HR.out⟩
  case round =>
    clear HR
    obtain ⟨k, hk, rfl, F2, hw⟩ := hrel
    have H := Lib.hid hw
    have HK := Lib.hid hk
    clear hw hk
    by_cases hlt : k < n
    · have hltI : (k : Int) < (n : Int) := by omega
      have hwk : IntKind.i64.wrap ((k : Int) + 1) = (k : Int) + 1 := by have := HN.out; rw [IntKind.wrap_i64]; omega
      have HLT : Hid (k < n) := hlt
      have HS := Lib.hid (psB_snoc (l := l) (k := k) (by rw [LL.out]; exact hlt))
      have HLE : Hid ((form ++ psB l k).length ≤ 60000) := by
        (show _ ≤ _)
        have := psB_le l k (by rw [LL.out]; exact HN.out) HI.out
        have := HL.out
        rw [List.length_append]; omega
      have hc5 := R.out.at_ hlt
      obtain ⟨bb, o, A', m, c', hA, y0, y1, y2, y3, y4, hrd, hmc, hcc, hm7⟩ := hc5
      obtain ⟨_, _, _, _, _, hA', x0, x1, x2, x3, x4, _⟩ := (R.out.below H.out.bel).at_ hlt
      rw [hA] at hA'
      injection hA' with hA'; injection hA' with e1 e2
      subst e1; subst e2
      have z4 := (H.out.bel.cell (p := ⟨bb, _, none⟩) (cell_block y4)).trans y4
      have hm : m ≤ 512 := by rw [← hrd.1, ptAt_lt (by rw [LL.out]; exact hlt)]; exact HI.out _ (List.getElem_mem _)
      have RD := Lib.hid hrd
      have HM := Lib.hid hm
      have HC := Lib.hid (And.intro hmc hcc)
      subst hA
      clear hlt hrd hm hmc hcc hm7 y0 y1 y2 y3 y4 x4
      generalize hp : ptAt l k = p at *
      replace hp := Lib.hid hp
      go_wp2_with fail
      have HB := Lib.hid (H.out.to ((Below.refl wr.heap.size wr).alloc (Nat.le_refl _) (.cells #[.int .i64 p.id, .int .i64 p.base, .int .i64 p.size, .bool p.keep, .slice A' m c'] 46)))
      refine (cPt p.id p.base p.size p.keep A' m c' p.img w0 _ g gb F2 _ HB.out HLE.out RD.out HM.out HC.out).mono ?_
      rintro e w2 ⟨rfl, F3, hw3⟩
      have H3 := Lib.hid hw3
      clear hw3 HB
      go_wp2_with fail
      go_roundw
      case rel => exact ⟨k + 1, HLT.out, by go_num, F3, by rw [HS.out, ← List.append_assoc]; exact H3.out⟩
      case measure => simp [intOf]; omega
    · obtain rfl : k = n := by have := HK.out; omega
      go_wp2_with fail
      exact bodyPost_end (results_none rfl _ _ _) rfl ⟨rfl, F2, H.out⟩
end

/- The program's config: Print. -/
section
open Go.RowKit
set_option linter.unusedVariables false
set_option linter.unusedSimpArgs false

def prB (c : Cf) : List UInt8 := if canC c = true then formC c else []
def prE (c : Cf) : Int := if canC c = true then 0 else 2
theorem pr_yes {c : Cf} (h : canC c = true) : prB c = formC c ∧ prE c = 0 := by unfold prB prE; rw [if_pos h, if_pos h]; exact ⟨rfl, rfl⟩
theorem pr_no {c : Cf} (h : canC c = false) : prB c = [] ∧ prE c = 2 := by unfold prB prE; rw [h]; exact ⟨rfl, rfl⟩
theorem res_two {fn : Func} {p q : Tmp} (h : fn.results = #[.tmp p, .tmp q]) (tmps : Array Value) (w : World) (u v : Value) (hp : tmps.getD p undef = u) (hq : tmps.getD q undef = v) : (results fn tmps).run Try.prog w = .ok (.tuple #[u, v]) w := by
  have hp' : tmps[p]?.getD undef = u := by simpa using hp
  have hq' : tmps[q]?.getD undef = v := by simpa using hq
  simp [results, h, hp', hq']
set_option maxRecDepth 1000000 in
set_option maxHeartbeats 1000000 in
theorem wPrint (v : CV) (c : Cf) (w : World) (h : RdCf w w.heap.size v c) (hp : v.np ≤ 1000) :
    Calls Try.prog 11 #[.agg #[.slice v.aw v.nw v.kw, .slice v.ap v.np v.kp, .slice v.ac v.nc v.kc]] w fun e w' => ∃ A n k, e = .returned (.tuple #[.slice A n k, .int .i64 (prE c)]) ∧ OwR w' w.heap.size A n (prB c) ∧ n ≤ k ∧ k ≤ 9223372036854775807 ∧ Below w.heap.size w w' := by
  have hb := (Below.refl w.heap.size w).alloc (Nat.le_refl _) (.cells #[.slice v.aw v.nw v.kw, .slice v.ap v.np v.kp, .slice v.ac v.nc v.kc] 26)
  have B := Lib.hid hb
  have X := Lib.hid (Cfx.new w v 26)
  have R := Lib.hid (h.to hb)
  have HN := Lib.hid hp
  clear h hb hp
  go_enter Try.func11, Try.ntmps11
  obtain ⟨x0, x1, x2, _⟩ := X.out
  go_wp2_with fail
  generalize w.alloc (.cells #[.slice v.aw v.nw v.kw, .slice v.ap v.np v.kp, .slice v.ac v.nc v.kc] 26) = w1 at *
  refine (pCanOf v c w1 R.out HN.out).mono ?_
  rintro e w2 ⟨rfl, hb2⟩
  replace X := Lib.hid (X.out.to hb2)
  replace R := Lib.hid (R.out.to hb2)
  replace B := Lib.hid (B.out.trans (hb2.mono B.out.size))
  clear hb2 x0 x1 x2
  cases hcan : canC c
  · have HC := Lib.hid (pr_no hcan)
    clear hcan
    go_wp2_with fail
    refine bodyPost_ret (res_two rfl _ _ (.slice none 0 0) (.int .i64 2) rfl rfl) rfl ⟨none, 0, 0, by rw [HC.out.2], by rw [HC.out.1]; exact ⟨Rd.nil _ _ _, fun h => absurd h (Nat.lt_irrefl 0)⟩, Nat.le_refl _, by decide, B.out⟩
  · have HC := Lib.hid (pr_yes hcan)
    obtain ⟨ci, cw, cp, cc⟩ := canC_iff.1 hcan
    have HI := Lib.hid ci
    have HNW : Hid (v.nw ≤ 12) := by (show _ ≤ _); rw [← R.out.ww.1]; exact cw
    have HNP : Hid (v.np ≤ 6) := by (show _ ≤ _); rw [← R.out.pp.1]; exact cp
    have HNC : Hid (v.nc ≤ 8) := by (show _ ≤ _); rw [← R.out.cc.1]; exact cc
    have HCW := Lib.hid cw
    have HCP := Lib.hid cp
    have HCC := Lib.hid cc
    clear hcan ci cw cp cc
    go_wp2_with fail
    refine (wNew w2).mono ?_
    rintro e w3 ⟨g, F, rfl, hwr, hF, hb3⟩
    have HW : Hid (WSt w2 (w3.alloc (.cells #[.pointer (some ⟨g, 0, none⟩)] 58)) g w3.heap.size F []) := by
      have hal := (Below.refl w3.heap.size w3).alloc (Nat.le_refl _) (.cells #[.pointer (some ⟨g, 0, none⟩)] 58)
      exact ⟨hwr.to hal, fun hh => by have := hwr.lt _ hh; omega, by simp, hF, hb3.size, hb3.trans (hal.mono hb3.size)⟩
    clear hwr hF hb3
    obtain ⟨x0, _, _, _⟩ := X.out.to HW.out.bel
    go_wp2_with fail
    refine (wListW v.aw v.nw v.kw c.ws w2 _ g w3.heap.size F [] HW.out R.out.ww HNW.out (by decide)).mono ?_
    rintro e w4 ⟨rfl, F4, hw4⟩
    have H4 := Lib.hid hw4
    clear hw4 x0 HW
    obtain ⟨_, x1, _, _⟩ := X.out.to H4.out.bel
    have b4 := H4.out.box
    have L4 : Hid ((([] : List UInt8) ++ wsB c.ws v.nw).length ≤ 20000) := by (show _ ≤ _); have := wsB_le c.ws v.nw HCW.out; rw [List.nil_append]; omega
    go_wp2_with fail
    refine (wListP v.ap v.np v.kp c.ps w2 w4 g w3.heap.size F4 _ H4.out R.out.pp HNP.out L4.out HI.out).mono ?_
    rintro e w5 ⟨rfl, F5, hw5⟩
    have H5 := Lib.hid hw5
    clear hw5 x1 b4 H4
    obtain ⟨_, _, x2, _⟩ := X.out.to H5.out.bel
    have b5 := H5.out.box
    have L5 : Hid ((([] : List UInt8) ++ wsB c.ws v.nw ++ psB c.ps v.np).length ≤ 20000) := by (show _ ≤ _); have := wsB_le c.ws v.nw HCW.out; have := psB_le c.ps v.np HCP.out HI.out; rw [List.nil_append, List.length_append]; omega
    go_wp2_with fail
    refine (wListC v.ac v.nc v.kc c.cs w2 w5 g w3.heap.size F5 _ H5.out R.out.cc HNC.out L5.out).mono ?_
    rintro e w6 ⟨rfl, F6, hw6⟩
    have H6 := Lib.hid hw6
    clear hw6 x2 b5 H5
    have b6 := H6.out.box
    go_wp2_with fail
    refine (wDone g F6 _ false w6 H6.out.wr).mono ?_
    rintro e w7 ⟨A, n, k, rfl, ho, hk1, hk2, hb7⟩
    have O := Lib.hid ho
    have K1 := Lib.hid hk1
    have K2 := Lib.hid hk2
    have B7 := Lib.hid ((B.out.trans (H6.out.bel.mono B.out.size)).trans (hb7.mono (Nat.le_trans B.out.size H6.out.bel.size)))
    have HS := Lib.hid (Nat.le_trans B.out.size H6.out.bel.size)
    have HF : Hid (([] : List UInt8) ++ wsB c.ws v.nw ++ psB c.ps v.np ++ csB c.cs v.nc = formC c) := by
      (show _ = _)
      unfold formC
      rw [List.nil_append, R.out.ww.1, R.out.pp.1, R.out.cc.1]
    clear ho hk1 hk2 hb7 b6 H6
    go_wp2_with fail
    refine bodyPost_ret (res_two rfl _ _ (.slice A n k) (.int .i64 0) rfl rfl) rfl ⟨A, n, k, by rw [HC.out.2], ?_, K1.out, K2.out, B7.out⟩
    rw [HC.out.1, ← HF.out]
    exact O.out.mono HS.out
end
end Go.Proofs.Ytljgliagciblbaa
