/- Several texts in one (a claim has 60 files at most): CfJ. -/
import Derived.Test.YtlmdidblgeeplaaGreatDoorTz
import Derived.Test.YtlmdidblgeeplaaGreatDoorPVaPbx
import Derived.Test.YtlmdidblgeeplaaGreatDoorPWireIx
import Derived.Test.YtlmdidblgeeplaaGreatDoorPCfLcx
namespace Go.Proofs.YtlmdidblgeeplaaGreatDoor
set_option maxRecDepth 1000000
set_option maxHeartbeats 8000000
set_option linter.unusedVariables false
set_option linter.unusedSimpArgs false
section
open Go.RowKit
structure WSt (w0 w : World) (g gb : Nat) (F : Nat → Prop) (form : List UInt8) : Prop where
 wr : WrAt w g F form false
 nb : ¬ F gb
 box : w.cell? ⟨gb, 0, none⟩ = some (.pointer (some ⟨g, 0, none⟩))
 fb : ∀ k, F k → w0.heap.size ≤ k
 bb : w0.heap.size ≤ gb
 bel : Below w0.heap.size w0 w
theorem WSt.to {w0 w w' : World} {g gb : Nat} {F : Nat → Prop} {form : List UInt8} (h : WSt w0 w g gb F form) (hb : Below w.heap.size w w') : WSt w0 w' g gb F form :=
 ⟨h.wr.to hb, h.nb, (hb.cell (p := ⟨gb, 0, none⟩) (cell_block h.box)).trans h.box, h.fb, h.bb, h.bel.trans (hb.mono h.bel.size)⟩
theorem WSt.ends {w0 w w' : World} {g gb : Nat} {F : Nat → Prop} {form b : List UInt8} {e : Ending} (h : WSt w0 w g gb F form) (hl : form.length + b.length ≤ 65536) (ht : WrTo w g F form b false e w') :
  e = .returned (.pointer (some ⟨g, 0, none⟩)) ∧ ∃ F', WSt w0 w' g gb F' (form ++ b) ∧ Keep F w w' := by
 obtain ⟨he, F', h1, h2, h3⟩ := ht
 have e1 : wForm form b false = form ++ b := by unfold wForm; rw [if_pos ⟨rfl, hl⟩]
 have e2 : wBad form b false = false := by unfold wBad; rw [if_pos hl]
 rw [e1, e2] at h1
 have hgb : gb < w.heap.size := cell_block h.box
 refine ⟨he, F', ⟨h1, fun hh => ?_, (h3.cell (a := ⟨gb, 0, none⟩) hgb h.nb).trans h.box, fun k hk => ?_, h.bb, h3.below h.bel h.bel.size h.fb⟩, h3⟩
 ·rcases h2 _ hh with hh | hh
  ·exact h.nb hh
  ·omega
 ·rcases h2 k hk with hk | hk
  ·exact h.fb k hk
  ·exact Nat.le_trans h.bel.size hk
structure WBx (w0 w : World) (g gb gs : Nat) (T : TypeId) (cs : List Value) (F : Nat → Prop) (form : List UInt8) : Prop where
 st : WSt w0 w g gb F form
 ns : ¬ F gs
 bx : Bx w gs T cs
theorem WBx.ends {w0 w w' : World} {g gb gs : Nat} {T : TypeId} {cs : List Value} {F : Nat → Prop} {form b : List UInt8} {e : Ending} (h : WBx w0 w g gb gs T cs F form) (hl : form.length + b.length ≤ 65536) (ht : WrTo w g F form b false e w') :
  e = .returned (.pointer (some ⟨g, 0, none⟩)) ∧ ∃ F', WBx w0 w' g gb gs T cs F' (form ++ b) := by
 obtain ⟨he, F', hw, hk⟩ := h.st.ends hl ht
 obtain ⟨_, F2, h1, h2, h3⟩ := ht
 have hs := h.bx.lt
 refine ⟨he, fun k => F2 k, ?_⟩
 have e1 : wForm form b false = form ++ b := by unfold wForm; rw [if_pos ⟨rfl, hl⟩]
 have e2 : wBad form b false = false := by unfold wBad; rw [if_pos hl]
 rw [e1, e2] at h1
 have hgb : gb < w.heap.size := cell_block h.st.box
 refine ⟨⟨h1, fun hh => ?_, (h3.cell (a := ⟨gb, 0, none⟩) hgb h.st.nb).trans h.st.box, fun k hk => ?_, h.st.bb, h3.below h.st.bel h.st.bel.size h.st.fb⟩, fun hh => ?_, h.bx.kept h3 h.ns⟩
 ·rcases h2 _ hh with hh | hh
  ·exact h.st.nb hh
  ·omega
 ·rcases h2 k hk with hk | hk
  ·exact h.st.fb k hk
  ·exact Nat.le_trans h.st.bel.size hk
 ·rcases h2 _ hh with hh | hh
  ·exact h.ns hh
  ·omega
theorem WBx.new {w0 w : World} {g gb : Nat} {F : Nat → Prop} {form : List UInt8} (h : WSt w0 w g gb F form) (T : TypeId) (cs : List Value) : WBx w0 (w.alloc (.cells cs.toArray T)) g gb w.heap.size T cs F form :=
 ⟨h.to ((Below.refl w.heap.size w).alloc (Nat.le_refl _) _), fun hh => by have := h.wr.lt _ hh; omega, Bx.new w T cs⟩
theorem WBx.drew {w0 w : World} {g gb gs : Nat} {T : TypeId} {cs : List Value} {F : Nat → Prop} {form : List UInt8} (h : WBx w0 w g gb gs T cs F form) : WBx w0 w.drew g gb gs T cs F form :=
 ⟨h.st.to ((Below.refl _ w).drew), h.ns, h.bx⟩
theorem len_on {form b : List UInt8} {m k : Nat} (h : form.length ≤ m) (hb : b.length ≤ k) : (form ++ b).length ≤ m + k := by rw [List.length_append]; omega
theorem len_ok {form b : List UInt8} {m k : Nat} (h : form.length ≤ m) (hb : b.length ≤ k) (hm : m + k ≤ 65536) : form.length + b.length ≤ 65536 := by omega
theorem enc8_le (x : Nat) : (enc x 8).length ≤ 8 := by rw [enc_len]; exact Nat.le_refl _
theorem cWin (x y : Int) (w0 w : World) (g gb : Nat) (F : Nat → Prop) (form : List UInt8) (h : WSt w0 w g gb F form) (hl : form.length ≤ 60000) :
  Calls Tryz.prog 133 #[.agg #[.int .i64 x, .int .i64 y], .pointer (some ⟨gb, 0, none⟩)] w fun e w' => e = .returned (.tuple #[]) ∧ ∃ F', WSt w0 w' g gb F' (form ++ winB (x, y)) := by
 have L0 := qH hl
 have H0 : Hid (WBx w0 (w.alloc (.cells #[.int .i64 x, .int .i64 y] 82)) g gb w.heap.size 82 [.int .i64 x, .int .i64 y] F form) := WBx.new h _ [.int .i64 x, .int .i64 y]
 clear h hl
 go_enter Tryz.func133, Tryz.ntmps133
 go_wp2_with fail
 generalize w.alloc (.cells #[.int .i64 x, .int .i64 y] 82) = w1 at *
 obtain ⟨wd, hwd⟩ : ∃ wd, w1.drew = wd := ⟨_, rfl⟩
 replace H0 : Hid (WBx w0 wd g gb w.heap.size 82 [.int .i64 x, .int .i64 y] F form) := by
  (show WBx _ _ _ _ _ _ _ _ _)
  rw [← hwd]
  exact H0.out.drew
 refine wp_region_held_drew (S := (fun w' => w'.cell? ⟨gb, 0, none⟩ = some (.pointer (some ⟨g, 0, none⟩)) ∧ w'.cell? ⟨w.heap.size, 0, none⟩ = some (.int .i64 x) ∧ w'.cell? ⟨w.heap.size, 1, none⟩ = some (.int .i64 y))) (by kernel_rfl) ((by rw [hwd]; exact ⟨H0.out.st.box, H0.out.bx.at (j := 0) rfl, H0.out.bx.at (j := 1) rfl⟩)) (fun hHeld => ?_)
 rw [hwd] at hHeld ⊢
 clear hwd
 obtain ⟨w2, hw2⟩ : ∃ w2, wd = w2 := ⟨_, rfl⟩
 rw [hw2] at H0 hHeld ⊢
 clear hw2
 refine tk 0 ?_
 simp only [pR]
 refine tk 1 ?_
 simp only [pR]
 refine tk 2 ?_
 simp only [pR]
 refine tk 4 ?_
 simp only [pR]
 refine tk 5 ?_
 simp only [pR]
 refine rd1 3 (fun K hK => ?_)
 go_simp
 refine (wInt g F (form) false x w2 H0.out.st.wr).mono ?_
 rintro e wz0 ht
 obtain ⟨rfl, F0, hw2⟩ := H0.out.ends (len_ok (k := 8) L0.out (enc8_le _) (by decide)) ht
 have H1 := qH hw2
 have L1 := qH (len_on (k := 8) (b := enc (u64N x) 8) L0.out (enc8_le _))
 clear ht hw2 hHeld H0 L0
 go_wp2_with fail
 refine hK.out _ _ (⟨H1.out.st.box, H1.out.bx.at (j := 0) rfl, H1.out.bx.at (j := 1) rfl⟩) (fun hHeld => ?_)
 clear hK K
 refine rd1 6 (fun K hK => ?_)
 go_simp
 refine (wInt g F0 (form ++ enc (u64N x) 8) false y wz0 H1.out.st.wr).mono ?_
 rintro e wz1 ht
 obtain ⟨rfl, F1, hw2⟩ := H1.out.ends (len_ok (k := 8) L1.out (enc8_le _) (by decide)) ht
 have H2 := qH hw2
 have L2 := qH (len_on (k := 8) (b := enc (u64N y) 8) L1.out (enc8_le _))
 clear ht hw2 hHeld H1 L1
 go_wp2_with fail
 refine hK.out _ _ (⟨H2.out.st.box, H2.out.bx.at (j := 0) rfl, H2.out.bx.at (j := 1) rfl⟩) (fun hHeld => ?_)
 clear hK K
 refine wpAnyH_done (by kernel_rfl) ?_ _
 go_wp2_with fail
 have hf := H2.out.st
 have e2 : form ++ winB (x, y) = form ++ enc (u64N x) 8 ++ enc (u64N y) 8 := by simp [winB]
 rw [← e2] at hf
 exact bodyPost_end (results_none rfl _ _ _) rfl ⟨rfl, F1, hf⟩
theorem cCh (a b d q s : Int) (w0 w : World) (g gb : Nat) (F : Nat → Prop) (form : List UInt8) (h : WSt w0 w g gb F form) (hl : form.length ≤ 60000) :
  Calls Tryz.prog 138 #[.agg #[.int .i64 a, .int .i64 b, .int .i64 d, .int .i64 q, .int .i64 s], .pointer (some ⟨gb, 0, none⟩)] w fun e w' => e = .returned (.tuple #[]) ∧ ∃ F', WSt w0 w' g gb F' (form ++ chB ⟨a, b, d, q, s⟩) := by
 have L0 := qH hl
 have H0 : Hid (WBx w0 (w.alloc (.cells #[.int .i64 a, .int .i64 b, .int .i64 d, .int .i64 q, .int .i64 s] 130)) g gb w.heap.size 130 [.int .i64 a, .int .i64 b, .int .i64 d, .int .i64 q, .int .i64 s] F form) := WBx.new h _ [.int .i64 a, .int .i64 b, .int .i64 d, .int .i64 q, .int .i64 s]
 clear h hl
 go_enter Tryz.func138, Tryz.ntmps138
 go_wp2_with fail
 generalize w.alloc (.cells #[.int .i64 a, .int .i64 b, .int .i64 d, .int .i64 q, .int .i64 s] 130) = w1 at *
 obtain ⟨wd, hwd⟩ : ∃ wd, w1.drew = wd := ⟨_, rfl⟩
 replace H0 : Hid (WBx w0 wd g gb w.heap.size 130 [.int .i64 a, .int .i64 b, .int .i64 d, .int .i64 q, .int .i64 s] F form) := by
  (show WBx _ _ _ _ _ _ _ _ _)
  rw [← hwd]
  exact H0.out.drew
 refine wp_region_held_drew (S := (fun w' => w'.cell? ⟨gb, 0, none⟩ = some (.pointer (some ⟨g, 0, none⟩)) ∧ w'.cell? ⟨w.heap.size, 0, none⟩ = some (.int .i64 a) ∧ w'.cell? ⟨w.heap.size, 1, none⟩ = some (.int .i64 b) ∧ w'.cell? ⟨w.heap.size, 2, none⟩ = some (.int .i64 d) ∧ w'.cell? ⟨w.heap.size, 3, none⟩ = some (.int .i64 q) ∧ w'.cell? ⟨w.heap.size, 4, none⟩ = some (.int .i64 s))) (by kernel_rfl) ((by rw [hwd]; exact ⟨H0.out.st.box, H0.out.bx.at (j := 0) rfl, H0.out.bx.at (j := 1) rfl, H0.out.bx.at (j := 2) rfl, H0.out.bx.at (j := 3) rfl, H0.out.bx.at (j := 4) rfl⟩)) (fun hHeld => ?_)
 rw [hwd] at hHeld ⊢
 clear hwd
 obtain ⟨w2, hw2⟩ : ∃ w2, wd = w2 := ⟨_, rfl⟩
 rw [hw2] at H0 hHeld ⊢
 clear hw2
 refine tk 0 ?_
 simp only [pR]
 refine tk 1 ?_
 simp only [pR]
 refine tk 2 ?_
 simp only [pR]
 refine tk 4 ?_
 simp only [pR]
 refine tk 5 ?_
 simp only [pR]
 refine tk 7 ?_
 simp only [pR]
 refine tk 8 ?_
 simp only [pR]
 refine tk 10 ?_
 simp only [pR]
 refine tk 11 ?_
 simp only [pR]
 refine tk 13 ?_
 simp only [pR]
 refine tk 14 ?_
 simp only [pR]
 refine rd1 3 (fun K hK => ?_)
 go_simp
 refine (wInt g F (form) false a w2 H0.out.st.wr).mono ?_
 rintro e wz0 ht
 obtain ⟨rfl, F0, hw2⟩ := H0.out.ends (len_ok (k := 8) L0.out (enc8_le _) (by decide)) ht
 have H1 := qH hw2
 have L1 := qH (len_on (k := 8) (b := enc (u64N a) 8) L0.out (enc8_le _))
 clear ht hw2 hHeld H0 L0
 go_wp2_with fail
 refine hK.out _ _ (⟨H1.out.st.box, H1.out.bx.at (j := 0) rfl, H1.out.bx.at (j := 1) rfl, H1.out.bx.at (j := 2) rfl, H1.out.bx.at (j := 3) rfl, H1.out.bx.at (j := 4) rfl⟩) (fun hHeld => ?_)
 clear hK K
 refine rd1 6 (fun K hK => ?_)
 go_simp
 refine (wInt g F0 (form ++ enc (u64N a) 8) false b wz0 H1.out.st.wr).mono ?_
 rintro e wz1 ht
 obtain ⟨rfl, F1, hw2⟩ := H1.out.ends (len_ok (k := 8) L1.out (enc8_le _) (by decide)) ht
 have H2 := qH hw2
 have L2 := qH (len_on (k := 8) (b := enc (u64N b) 8) L1.out (enc8_le _))
 clear ht hw2 hHeld H1 L1
 go_wp2_with fail
 refine hK.out _ _ (⟨H2.out.st.box, H2.out.bx.at (j := 0) rfl, H2.out.bx.at (j := 1) rfl, H2.out.bx.at (j := 2) rfl, H2.out.bx.at (j := 3) rfl, H2.out.bx.at (j := 4) rfl⟩) (fun hHeld => ?_)
 clear hK K
 refine rd1 9 (fun K hK => ?_)
 go_simp
 refine (wInt g F1 ((form ++ enc (u64N a) 8) ++ enc (u64N b) 8) false d wz1 H2.out.st.wr).mono ?_
 rintro e wz2 ht
 obtain ⟨rfl, F2, hw2⟩ := H2.out.ends (len_ok (k := 8) L2.out (enc8_le _) (by decide)) ht
 have H3 := qH hw2
 have L3 := qH (len_on (k := 8) (b := enc (u64N d) 8) L2.out (enc8_le _))
 clear ht hw2 hHeld H2 L2
 go_wp2_with fail
 refine hK.out _ _ (⟨H3.out.st.box, H3.out.bx.at (j := 0) rfl, H3.out.bx.at (j := 1) rfl, H3.out.bx.at (j := 2) rfl, H3.out.bx.at (j := 3) rfl, H3.out.bx.at (j := 4) rfl⟩) (fun hHeld => ?_)
 clear hK K
 refine rd1 12 (fun K hK => ?_)
 go_simp
 refine (wInt g F2 (((form ++ enc (u64N a) 8) ++ enc (u64N b) 8) ++ enc (u64N d) 8) false q wz2 H3.out.st.wr).mono ?_
 rintro e wz3 ht
 obtain ⟨rfl, F3, hw2⟩ := H3.out.ends (len_ok (k := 8) L3.out (enc8_le _) (by decide)) ht
 have H4 := qH hw2
 have L4 := qH (len_on (k := 8) (b := enc (u64N q) 8) L3.out (enc8_le _))
 clear ht hw2 hHeld H3 L3
 go_wp2_with fail
 refine hK.out _ _ (⟨H4.out.st.box, H4.out.bx.at (j := 0) rfl, H4.out.bx.at (j := 1) rfl, H4.out.bx.at (j := 2) rfl, H4.out.bx.at (j := 3) rfl, H4.out.bx.at (j := 4) rfl⟩) (fun hHeld => ?_)
 clear hK K
 refine rd1 15 (fun K hK => ?_)
 go_simp
 refine (wInt g F3 ((((form ++ enc (u64N a) 8) ++ enc (u64N b) 8) ++ enc (u64N d) 8) ++ enc (u64N q) 8) false s wz3 H4.out.st.wr).mono ?_
 rintro e wz4 ht
 obtain ⟨rfl, F4, hw2⟩ := H4.out.ends (len_ok (k := 8) L4.out (enc8_le _) (by decide)) ht
 have H5 := qH hw2
 have L5 := qH (len_on (k := 8) (b := enc (u64N s) 8) L4.out (enc8_le _))
 clear ht hw2 hHeld H4 L4
 go_wp2_with fail
 refine hK.out _ _ (⟨H5.out.st.box, H5.out.bx.at (j := 0) rfl, H5.out.bx.at (j := 1) rfl, H5.out.bx.at (j := 2) rfl, H5.out.bx.at (j := 3) rfl, H5.out.bx.at (j := 4) rfl⟩) (fun hHeld => ?_)
 clear hK K
 refine wpAnyH_done (by kernel_rfl) ?_ _
 go_wp2_with fail
 have hf := H5.out.st
 have e2 : form ++ chB ⟨a, b, d, q, s⟩ = form ++ enc (u64N a) 8 ++ enc (u64N b) 8 ++ enc (u64N d) 8 ++ enc (u64N q) 8 ++ enc (u64N s) 8 := by simp [chB, numsB, chN]
 rw [← e2] at hf
 exact bodyPost_end (results_none rfl _ _ _) rfl ⟨rfl, F4, hf⟩
theorem cPt (i b s : Int) (kp : Bool) (A : Option Addr) (m c : Nat) (im : List UInt8) (w0 w : World) (g gb : Nat) (F : Nat → Prop) (form : List UInt8) (h : WSt w0 w g gb F form) (hl : form.length ≤ 60000) (hr : Rd w0 w0.heap.size A m im) (hm : m ≤ 512) (hc : m ≤ c ∧ c ≤ 9223372036854775807) :
  Calls Tryz.prog 135 #[.agg #[.int .i64 i, .int .i64 b, .int .i64 s, .bool kp, .slice A m c], .pointer (some ⟨gb, 0, none⟩)] w fun e w' => e = .returned (.tuple #[]) ∧ ∃ F', WSt w0 w' g gb F' (form ++ ptB ⟨i, b, s, kp, im⟩) := by
 have L0 := qH hl
 have R := qH hr
 have CC := qH hc
 have M6 : Hid (m ≤ 1000000) := by (show _ ≤ _); omega
 have IB : Hid ((enc im.length 4 ++ im).length ≤ 516) := by (show _ ≤ _); rw [List.length_append, enc_len, hr.1]; omega
 clear hr hm hc
 have H0 : Hid (WBx w0 (w.alloc (.cells #[.int .i64 i, .int .i64 b, .int .i64 s, .bool kp, .slice A m c] 58)) g gb w.heap.size 58 [.int .i64 i, .int .i64 b, .int .i64 s, .bool kp, .slice A m c] F form) := WBx.new h _ [.int .i64 i, .int .i64 b, .int .i64 s, .bool kp, .slice A m c]
 clear h hl
 go_enter Tryz.func135, Tryz.ntmps135
 go_wp2_with fail
 generalize w.alloc (.cells #[.int .i64 i, .int .i64 b, .int .i64 s, .bool kp, .slice A m c] 58) = w1 at *
 obtain ⟨wd, hwd⟩ : ∃ wd, w1.drew = wd := ⟨_, rfl⟩
 replace H0 : Hid (WBx w0 wd g gb w.heap.size 58 [.int .i64 i, .int .i64 b, .int .i64 s, .bool kp, .slice A m c] F form) := by
  (show WBx _ _ _ _ _ _ _ _ _)
  rw [← hwd]
  exact H0.out.drew
 refine wp_region_held_drew (S := (fun w' => w'.cell? ⟨gb, 0, none⟩ = some (.pointer (some ⟨g, 0, none⟩)) ∧ w'.cell? ⟨w.heap.size, 0, none⟩ = some (.int .i64 i) ∧ w'.cell? ⟨w.heap.size, 1, none⟩ = some (.int .i64 b) ∧ w'.cell? ⟨w.heap.size, 2, none⟩ = some (.int .i64 s) ∧ w'.cell? ⟨w.heap.size, 3, none⟩ = some (.bool kp) ∧ w'.cell? ⟨w.heap.size, 4, none⟩ = some (.slice A m c))) (by kernel_rfl) ((by rw [hwd]; exact ⟨H0.out.st.box, H0.out.bx.at (j := 0) rfl, H0.out.bx.at (j := 1) rfl, H0.out.bx.at (j := 2) rfl, H0.out.bx.at (j := 3) rfl, H0.out.bx.at (j := 4) rfl⟩)) (fun hHeld => ?_)
 rw [hwd] at hHeld ⊢
 clear hwd
 obtain ⟨w2, hw2⟩ : ∃ w2, wd = w2 := ⟨_, rfl⟩
 rw [hw2] at H0 hHeld ⊢
 clear hw2
 refine tk 0 ?_
 simp only [pR]
 refine tk 1 ?_
 simp only [pR]
 refine tk 2 ?_
 simp only [pR]
 refine tk 4 ?_
 simp only [pR]
 refine tk 5 ?_
 simp only [pR]
 refine tk 6 ?_
 simp only [pR]
 refine tk 8 ?_
 simp only [pR]
 refine tk 9 ?_
 simp only [pR]
 refine tk 10 ?_
 simp only [pR]
 refine tk 12 ?_
 simp only [pR]
 refine tk 13 ?_
 simp only [pR]
 refine tk 15 ?_
 simp only [pR]
 refine tk 16 ?_
 simp only [pR]
 refine rd1 3 (fun K hK => ?_)
 go_simp
 refine (wInt g F (form) false i w2 H0.out.st.wr).mono ?_
 rintro e wz0 ht
 obtain ⟨rfl, F0, hw2⟩ := H0.out.ends (len_ok (k := 8) L0.out (enc8_le _) (by decide)) ht
 have H1 := qH hw2
 have L1 := qH (len_on (k := 8) (b := enc (u64N i) 8) L0.out (enc8_le _))
 clear ht hw2 hHeld H0 L0
 go_wp2_with fail
 refine hK.out _ _ (⟨H1.out.st.box, H1.out.bx.at (j := 0) rfl, H1.out.bx.at (j := 1) rfl, H1.out.bx.at (j := 2) rfl, H1.out.bx.at (j := 3) rfl, H1.out.bx.at (j := 4) rfl⟩) (fun hHeld => ?_)
 clear hK K
 refine rd1 7 (fun K hK => ?_)
 go_simp
 refine (wInt g F0 (form ++ enc (u64N i) 8) false b wz0 H1.out.st.wr).mono ?_
 rintro e wz1 ht
 obtain ⟨rfl, F1, hw2⟩ := H1.out.ends (len_ok (k := 8) L1.out (enc8_le _) (by decide)) ht
 have H2 := qH hw2
 have L2 := qH (len_on (k := 8) (b := enc (u64N b) 8) L1.out (enc8_le _))
 clear ht hw2 hHeld H1 L1
 go_wp2_with fail
 refine hK.out _ _ (⟨H2.out.st.box, H2.out.bx.at (j := 0) rfl, H2.out.bx.at (j := 1) rfl, H2.out.bx.at (j := 2) rfl, H2.out.bx.at (j := 3) rfl, H2.out.bx.at (j := 4) rfl⟩) (fun hHeld => ?_)
 clear hK K
 refine rd1 11 (fun K hK => ?_)
 go_simp
 refine (wInt g F1 ((form ++ enc (u64N i) 8) ++ enc (u64N b) 8) false s wz1 H2.out.st.wr).mono ?_
 rintro e wz2 ht
 obtain ⟨rfl, F2, hw2⟩ := H2.out.ends (len_ok (k := 8) L2.out (enc8_le _) (by decide)) ht
 have H3 := qH hw2
 have L3 := qH (len_on (k := 8) (b := enc (u64N s) 8) L2.out (enc8_le _))
 clear ht hw2 hHeld H2 L2
 go_wp2_with fail
 refine hK.out _ _ (⟨H3.out.st.box, H3.out.bx.at (j := 0) rfl, H3.out.bx.at (j := 1) rfl, H3.out.bx.at (j := 2) rfl, H3.out.bx.at (j := 3) rfl, H3.out.bx.at (j := 4) rfl⟩) (fun hHeld => ?_)
 clear hK K
 refine rd1 14 (fun K hK => ?_)
 go_simp
 refine (wFlag g F2 (((form ++ enc (u64N i) 8) ++ enc (u64N b) 8) ++ enc (u64N s) 8) false kp wz2 H3.out.st.wr).mono ?_
 rintro e wz3 ht
 obtain ⟨rfl, F3, hw2⟩ := H3.out.ends (len_ok (k := 1) L3.out (show [flagB kp].length ≤ 1 from Nat.le_refl 1) (by decide)) ht
 have H4 := qH hw2
 have L4 := qH (len_on (k := 1) (b := [flagB kp]) L3.out (show [flagB kp].length ≤ 1 from Nat.le_refl 1))
 clear ht hw2 hHeld H3 L3
 go_wp2_with fail
 refine hK.out _ _ (⟨H4.out.st.box, H4.out.bx.at (j := 0) rfl, H4.out.bx.at (j := 1) rfl, H4.out.bx.at (j := 2) rfl, H4.out.bx.at (j := 3) rfl, H4.out.bx.at (j := 4) rfl⟩) (fun hHeld => ?_)
 clear hK K
 refine rd1 17 (fun K hK => ?_)
 go_simp
 refine (wBytes g F3 ((((form ++ enc (u64N i) 8) ++ enc (u64N b) 8) ++ enc (u64N s) 8) ++ [flagB kp]) false A m c im wz3 H4.out.st.wr ((R.out.below H4.out.st.bel).more H4.out.st.bel.size) (R.out.off H4.out.st.fb) CC.out.1 CC.out.2 M6.out).mono ?_
 rintro e wz4 ht
 obtain ⟨rfl, F4, hw2⟩ := H4.out.ends (len_ok (k := 516) L4.out IB.out (by decide)) ht
 have H5 := qH hw2
 have L5 := qH (len_on (k := 516) (b := (enc im.length 4 ++ im)) L4.out IB.out)
 clear ht hw2 hHeld H4 L4
 go_wp2_with fail
 refine hK.out _ _ (⟨H5.out.st.box, H5.out.bx.at (j := 0) rfl, H5.out.bx.at (j := 1) rfl, H5.out.bx.at (j := 2) rfl, H5.out.bx.at (j := 3) rfl, H5.out.bx.at (j := 4) rfl⟩) (fun hHeld => ?_)
 clear hK K
 refine wpAnyH_done (by kernel_rfl) ?_ _
 go_wp2_with fail
 have hf := H5.out.st
 have e2 : form ++ ptB ⟨i, b, s, kp, im⟩ = form ++ enc (u64N i) 8 ++ enc (u64N b) 8 ++ enc (u64N s) 8 ++ [flagB kp] ++ ((enc im.length 4 ++ im)) := by simp [ptB]
 rw [← e2] at hf
 exact bodyPost_end (results_none rfl _ _ _) rfl ⟨rfl, F4, hf⟩
end
end Go.Proofs.YtlmdidblgeeplaaGreatDoor