/- Several texts in one (a claim has 60 files at most): CfM. -/
import Derived.Test.YtlmdidblgeeplaaGreatDoorTz
import Derived.Test.YtlmdidblgeeplaaGreatDoorPVaPbx
import Derived.Test.YtlmdidblgeeplaaGreatDoorPWireIx
import Derived.Test.YtlmdidblgeeplaaGreatDoorPCfLcx
namespace Go.Proofs.YtlmdidblgeeplaaGreatDoor
set_option maxRecDepth 1000000
set_option maxHeartbeats 8000000
set_option linter.unusedVariables false
set_option linter.unusedSimpArgs false
section
open Go.RowKit
structure RSt (w0 w : World) (g gb : Nat) (F : Nat → Prop) (s : RS) : Prop where
 pr : PrAt w g F s
 nb : ¬ F gb
 box : w.cell? ⟨gb, 0, none⟩ = some (.pointer (some ⟨g, 0, none⟩))
 fb : ∀ k, F k → w0.heap.size ≤ k
 bb : w0.heap.size ≤ gb
 bel : Below w0.heap.size w0 w
theorem RSt.to {w0 w w' : World} {g gb : Nat} {F : Nat → Prop} {s : RS} (h : RSt w0 w g gb F s) (hb : Below w.heap.size w w') : RSt w0 w' g gb F s :=
 ⟨h.pr.to hb, h.nb, (hb.cell (p := ⟨gb, 0, none⟩) (cell_block h.box)).trans h.box, h.fb, h.bb, h.bel.trans (hb.mono h.bel.size)⟩
theorem RSt.kept {R : Nat → Prop} {w0 w w' : World} {g gb : Nat} {F : Nat → Prop} {s : RS} (h : RSt w0 w g gb F s) (hk : Keep R w w') (hF : ∀ k, F k → ¬ R k) (hb : ¬ R gb) (h0 : ∀ k, R k → w0.heap.size ≤ k) : RSt w0 w' g gb F s :=
 ⟨h.pr.kept hk hF, h.nb, (hk.cell (a := ⟨gb, 0, none⟩) (cell_block h.box) hb).trans h.box, h.fb, h.bb, hk.below h.bel h.bel.size h0⟩
structure Went (w : World) (F F' : Nat → Prop) (w' : World) : Prop where
 ff : ∀ k, F' k → F k ∨ w.heap.size ≤ k
 kp : Keep F w w'
theorem Went.not {w w' : World} {F F' : Nat → Prop} (h : Went w F F' w') {b : Nat} (hb : b < w.heap.size) (hn : ¬ F b) : ¬ F' b := fun hh => by
 rcases h.ff b hh with hh | hh
 ·exact hn hh
 ·omega
theorem Went.trans {a b c : World} {F F' F'' : Nat → Prop} (h : Went a F F' b) (h' : Went b F' F'' c) : Went a F F'' c :=
 ⟨fun k hk => by
  rcases h'.ff k hk with hk | hk
  ·exact h.ff k hk
  ·exact .inr (Nat.le_trans h.kp.size hk), h.kp.new (h'.kp.more h.ff)⟩
theorem Went.after {a w w' : World} {F F' : Nat → Prop} (h : Went a F F' w) (hb : Below w.heap.size w w') : Went a F F' w' := ⟨h.ff, h.kp.trans (Keep.of_below hb)⟩
theorem RSt.went {w0 w w' : World} {g gb : Nat} {F : Nat → Prop} {s s' : RS} (h : RSt w0 w g gb F s) (ht : PrTo w g F s' w') : ∃ F', RSt w0 w' g gb F' s' ∧ Went w F F' w' := by
 obtain ⟨F', h1, h2, h3⟩ := ht
 have hgb : gb < w.heap.size := cell_block h.box
 refine ⟨F', ⟨h1, fun hh => ?_, (h3.cell (a := ⟨gb, 0, none⟩) hgb h.nb).trans h.box, fun k hk => ?_, h.bb, h3.below h.bel h.bel.size h.fb⟩, h2, h3⟩
 ·rcases h2 _ hh with hh | hh
  ·exact h.nb hh
  ·omega
 ·rcases h2 k hk with hk | hk
  ·exact h.fb k hk
  ·exact Nat.le_trans h.bel.size hk
structure RBx (w0 wE w : World) (g gb gs : Nat) (T : TypeId) (cs : List Value) (FE F : Nat → Prop) (s : RS) : Prop where
 st : RSt w0 w g gb F s
 ns : ¬ F gs
 bx : Bx w gs T cs
 wt : Went wE FE F w
theorem RBx.went {w0 wE w w' : World} {g gb gs : Nat} {T : TypeId} {cs : List Value} {FE F : Nat → Prop} {s s' : RS} (h : RBx w0 wE w g gb gs T cs FE F s) (ht : PrTo w g F s' w') : ∃ F', RBx w0 wE w' g gb gs T cs FE F' s' := by
 obtain ⟨F', h1, h2⟩ := h.st.went ht
 exact ⟨F', h1, h2.not h.bx.lt h.ns, h.bx.kept h2.kp h.ns, h.wt.trans h2⟩
theorem RBx.new {w0 w : World} {g gb : Nat} {F : Nat → Prop} {s : RS} (h : RSt w0 w g gb F s) (T : TypeId) (cs : List Value) : RBx w0 w (w.alloc (.cells cs.toArray T)) g gb w.heap.size T cs F F s := by
 have hal := (Below.refl w.heap.size w).alloc (Nat.le_refl _) (.cells cs.toArray T)
 exact ⟨h.to hal, fun hh => by have := h.pr.lt _ hh; omega, Bx.new w T cs, fun k hk => .inl hk, Keep.of_below hal⟩
theorem RBx.drew {w0 wE w : World} {g gb gs : Nat} {T : TypeId} {cs : List Value} {FE F : Nat → Prop} {s : RS} (h : RBx w0 wE w g gb gs T cs FE F s) : RBx w0 wE w.drew g gb gs T cs FE F s :=
 ⟨h.st.to ((Below.refl _ w).drew), h.ns, h.bx, h.wt.after ((Below.refl _ w).drew)⟩
theorem RBx.sets {w0 wE w : World} {g gb gs : Nat} {T : TypeId} {cs vs : List Value} {FE F : Nat → Prop} {s : RS} (h : RBx w0 wE w g gb gs T cs FE F s) (hl : vs.length = cs.length) (hg : wE.heap.size ≤ gs) (hne : gb ≠ gs) (h0 : w0.heap.size ≤ gs) : RBx w0 wE (setsC w gs 0 vs) g gb gs T vs FE F s := by
 have hK := Keep.sets (R := (· = gs)) rfl vs 0 (Keep.refl _ w)
 exact ⟨h.st.kept hK (fun k hk hh => h.ns (hh ▸ hk)) hne (fun k hk => hk ▸ h0), h.ns, h.bx.sets vs hl, h.wt.ff, h.wt.kp.new (hK.more fun k hk => .inr (hk ▸ hg))⟩
theorem res_win1 {fn : Func} {p : Tmp} (h : fn.results = #[.cell p 82]) (tmps : Array Value) (w : World) (g : Nat) (a b : Value) (hp : tmps.getD p undef = .pointer (some ⟨g, 0, none⟩)) (hx : Bx w g 82 [a, b]) :
  (results fn tmps).run Tryz.prog w = .ok (.agg #[a, b]) w := by
 have hp' : tmps[p]?.getD undef = .pointer (some ⟨g, 0, none⟩) := by simpa using hp
 have c0 := hx.at (j := 0) rfl
 have c1 := hx.at (j := 1) rfl
 simp [results, h, hp', asAddr]
 go_simp
 try rfl
theorem res_ch1 {fn : Func} {p : Tmp} (h : fn.results = #[.cell p 130]) (tmps : Array Value) (w : World) (g : Nat) (a b c d e : Value) (hp : tmps.getD p undef = .pointer (some ⟨g, 0, none⟩)) (hx : Bx w g 130 [a, b, c, d, e]) :
  (results fn tmps).run Tryz.prog w = .ok (.agg #[a, b, c, d, e]) w := by
 have hp' : tmps[p]?.getD undef = .pointer (some ⟨g, 0, none⟩) := by simpa using hp
 have c0 := hx.at (j := 0) rfl
 have c1 := hx.at (j := 1) rfl
 have c2 := hx.at (j := 2) rfl
 have c3 := hx.at (j := 3) rfl
 have c4 := hx.at (j := 4) rfl
 simp [results, h, hp', asAddr]
 go_simp
 try rfl
theorem dWin (w0 w : World) (g gb : Nat) (F : Nat → Prop) (s : RS) (h : RSt w0 w g gb F s) :
  Calls Tryz.prog 96 #[.pointer (some ⟨gb, 0, none⟩)] w fun e w' => e = .returned (.agg #[.int .i64 (winV s).1, .int .i64 (winV s).2]) ∧ ∃ F', RSt w0 w' g gb F' (winS s) ∧ Went w F F' w' := by
 have HGB : Hid (gb < w.heap.size) := cell_block h.box
 have H00 : Hid (w0.heap.size ≤ w.heap.size) := h.bel.size
 have H0 : Hid (RBx w0 w (w.alloc (.cells #[.int .i64 0, .int .i64 0] 82)) g gb w.heap.size 82 [.int .i64 0, .int .i64 0] F F s) := RBx.new h _ [.int .i64 0, .int .i64 0]
 clear h
 go_enter Tryz.func96, Tryz.ntmps96
 go_wp2_with fail
 generalize w.alloc (.cells #[.int .i64 0, .int .i64 0] 82) = w1 at *
 obtain ⟨wd, hwd⟩ : ∃ wd, w1.drew = wd := ⟨_, rfl⟩
 replace H0 : Hid (RBx w0 w wd g gb w.heap.size 82 [.int .i64 0, .int .i64 0] F F s) := by
  (show RBx _ _ _ _ _ _ _ _ _ _ _)
  rw [← hwd]
  exact H0.out.drew
 refine wp_region_held_drew (S := (fun w' => w'.cell? ⟨gb, 0, none⟩ = some (.pointer (some ⟨g, 0, none⟩)))) (by kernel_rfl) ((by rw [hwd]; exact H0.out.st.box)) (fun hHeld => ?_)
 rw [hwd] at hHeld ⊢
 clear hwd
 obtain ⟨wz, hw2⟩ : ∃ w2, wd = w2 := ⟨_, rfl⟩
 rw [hw2] at H0 hHeld ⊢
 clear hw2
 refine tk 0 ?_
 simp only [pR]
 refine tk 2 ?_
 simp only [pR]
 refine rd1 1 (fun K hK => ?_)
 go_simp
 refine (pInt g F _ wz H0.out.st.pr).mono ?_
 rintro e w2 ⟨rfl, hto⟩
 obtain ⟨F1, hh⟩ := H0.out.went hto
 have H1 := qH hh
 clear hto hh hHeld H0
 go_wp2_with fail
 refine hK.out _ _ (H1.out.st.box) (fun hHeld => ?_)
 clear hK K
 refine rd1 3 (fun K hK => ?_)
 go_simp
 refine (pInt g F1 _ w2 H1.out.st.pr).mono ?_
 rintro e w3 ⟨rfl, hto⟩
 obtain ⟨F2, hh⟩ := H1.out.went hto
 have H2 := qH hh
 clear hto hh hHeld H1
 go_wp2_with fail
 refine hK.out _ _ (H2.out.st.box) (fun hHeld => ?_)
 clear hK K
 have XS := H2.out.sets (vs := [.int .i64 (intV s), .int .i64 (intV (s.next 8))]) (by simp) (Nat.le_refl _) (Nat.ne_of_lt HGB.out) H00.out
 have z0 := H2.out.bx.at (j := 0) rfl
 have f0 := H2.out.bx.fz 0
 have z1 := H2.out.bx.at (j := 1) rfl
 have f1 := H2.out.bx.fz 1
 refine tk 4 ?_
 simp only [pR]
 refine rd1 5 (fun K hK => ?_)
 go_simp
 refine hK.out _ _ (XS.st.box) (fun hHeld => ?_)
 clear hK K
 refine wpAnyH_done (by kernel_rfl) ?_ _
 clear hHeld
 go_wp2_with fail
 change bodyPost _ _ _ _ _ (setsC w3 w.heap.size 0 [.int .i64 (intV s), .int .i64 (intV (s.next 8))])
 generalize setsC w3 w.heap.size 0 [.int .i64 (intV s), .int .i64 (intV (s.next 8))] = w9 at *
 refine bodyPost_ret (res_win1 rfl _ _ w.heap.size _ _ rfl XS.bx) rfl ⟨rfl, F2, XS.st, XS.wt⟩
theorem dCh (w0 w : World) (g gb : Nat) (F : Nat → Prop) (s : RS) (h : RSt w0 w g gb F s) :
  Calls Tryz.prog 101 #[.pointer (some ⟨gb, 0, none⟩)] w fun e w' => e = .returned (.agg #[.int .i64 (chV s).id, .int .i64 (chV s).fr, .int .i64 (chV s).dst, .int .i64 (chV s).cap, .int .i64 (chV s).size]) ∧ ∃ F', RSt w0 w' g gb F' (chS s) ∧ Went w F F' w' := by
 have HGB : Hid (gb < w.heap.size) := cell_block h.box
 have H00 : Hid (w0.heap.size ≤ w.heap.size) := h.bel.size
 have H0 : Hid (RBx w0 w (w.alloc (.cells #[.int .i64 0, .int .i64 0, .int .i64 0, .int .i64 0, .int .i64 0] 130)) g gb w.heap.size 130 [.int .i64 0, .int .i64 0, .int .i64 0, .int .i64 0, .int .i64 0] F F s) := RBx.new h _ [.int .i64 0, .int .i64 0, .int .i64 0, .int .i64 0, .int .i64 0]
 clear h
 go_enter Tryz.func101, Tryz.ntmps101
 go_wp2_with fail
 generalize w.alloc (.cells #[.int .i64 0, .int .i64 0, .int .i64 0, .int .i64 0, .int .i64 0] 130) = w1 at *
 obtain ⟨wd, hwd⟩ : ∃ wd, w1.drew = wd := ⟨_, rfl⟩
 replace H0 : Hid (RBx w0 w wd g gb w.heap.size 130 [.int .i64 0, .int .i64 0, .int .i64 0, .int .i64 0, .int .i64 0] F F s) := by
  (show RBx _ _ _ _ _ _ _ _ _ _ _)
  rw [← hwd]
  exact H0.out.drew
 refine wp_region_held_drew (S := (fun w' => w'.cell? ⟨gb, 0, none⟩ = some (.pointer (some ⟨g, 0, none⟩)))) (by kernel_rfl) ((by rw [hwd]; exact H0.out.st.box)) (fun hHeld => ?_)
 rw [hwd] at hHeld ⊢
 clear hwd
 obtain ⟨wz, hw2⟩ : ∃ w2, wd = w2 := ⟨_, rfl⟩
 rw [hw2] at H0 hHeld ⊢
 clear hw2
 refine tk 0 ?_
 simp only [pR]
 refine tk 2 ?_
 simp only [pR]
 refine tk 4 ?_
 simp only [pR]
 refine tk 6 ?_
 simp only [pR]
 refine tk 8 ?_
 simp only [pR]
 refine rd1 1 (fun K hK => ?_)
 go_simp
 refine (pInt g F _ wz H0.out.st.pr).mono ?_
 rintro e w2 ⟨rfl, hto⟩
 obtain ⟨F1, hh⟩ := H0.out.went hto
 have H1 := qH hh
 clear hto hh hHeld H0
 go_wp2_with fail
 refine hK.out _ _ (H1.out.st.box) (fun hHeld => ?_)
 clear hK K
 refine rd1 3 (fun K hK => ?_)
 go_simp
 refine (pInt g F1 _ w2 H1.out.st.pr).mono ?_
 rintro e w3 ⟨rfl, hto⟩
 obtain ⟨F2, hh⟩ := H1.out.went hto
 have H2 := qH hh
 clear hto hh hHeld H1
 go_wp2_with fail
 refine hK.out _ _ (H2.out.st.box) (fun hHeld => ?_)
 clear hK K
 refine rd1 5 (fun K hK => ?_)
 go_simp
 refine (pInt g F2 _ w3 H2.out.st.pr).mono ?_
 rintro e w4 ⟨rfl, hto⟩
 obtain ⟨F3, hh⟩ := H2.out.went hto
 have H3 := qH hh
 clear hto hh hHeld H2
 go_wp2_with fail
 refine hK.out _ _ (H3.out.st.box) (fun hHeld => ?_)
 clear hK K
 refine rd1 7 (fun K hK => ?_)
 go_simp
 refine (pInt g F3 _ w4 H3.out.st.pr).mono ?_
 rintro e w5 ⟨rfl, hto⟩
 obtain ⟨F4, hh⟩ := H3.out.went hto
 have H4 := qH hh
 clear hto hh hHeld H3
 go_wp2_with fail
 refine hK.out _ _ (H4.out.st.box) (fun hHeld => ?_)
 clear hK K
 refine rd1 9 (fun K hK => ?_)
 go_simp
 refine (pInt g F4 _ w5 H4.out.st.pr).mono ?_
 rintro e w6 ⟨rfl, hto⟩
 obtain ⟨F5, hh⟩ := H4.out.went hto
 have H5 := qH hh
 clear hto hh hHeld H4
 go_wp2_with fail
 refine hK.out _ _ (H5.out.st.box) (fun hHeld => ?_)
 clear hK K
 have XS := H5.out.sets (vs := [.int .i64 (intV s), .int .i64 (intV (s.next 8)), .int .i64 (intV ((s.next 8).next 8)), .int .i64 (intV (((s.next 8).next 8).next 8)), .int .i64 (intV ((((s.next 8).next 8).next 8).next 8))]) (by simp) (Nat.le_refl _) (Nat.ne_of_lt HGB.out) H00.out
 have z0 := H5.out.bx.at (j := 0) rfl
 have f0 := H5.out.bx.fz 0
 have z1 := H5.out.bx.at (j := 1) rfl
 have f1 := H5.out.bx.fz 1
 have z2 := H5.out.bx.at (j := 2) rfl
 have f2 := H5.out.bx.fz 2
 have z3 := H5.out.bx.at (j := 3) rfl
 have f3 := H5.out.bx.fz 3
 have z4 := H5.out.bx.at (j := 4) rfl
 have f4 := H5.out.bx.fz 4
 refine tk 10 ?_
 simp only [pR]
 refine rd1 11 (fun K hK => ?_)
 go_simp
 refine hK.out _ _ (XS.st.box) (fun hHeld => ?_)
 clear hK K
 refine wpAnyH_done (by kernel_rfl) ?_ _
 clear hHeld
 go_wp2_with fail
 change bodyPost _ _ _ _ _ (setsC w6 w.heap.size 0 [.int .i64 (intV s), .int .i64 (intV (s.next 8)), .int .i64 (intV ((s.next 8).next 8)), .int .i64 (intV (((s.next 8).next 8).next 8)), .int .i64 (intV ((((s.next 8).next 8).next 8).next 8))])
 generalize setsC w6 w.heap.size 0 [.int .i64 (intV s), .int .i64 (intV (s.next 8)), .int .i64 (intV ((s.next 8).next 8)), .int .i64 (intV (((s.next 8).next 8).next 8)), .int .i64 (intV ((((s.next 8).next 8).next 8).next 8))] = w9 at *
 refine bodyPost_ret (res_ch1 rfl _ _ w.heap.size _ _ _ _ _ rfl XS.bx) rfl ⟨rfl, F5, XS.st, XS.wt⟩
theorem RBx.wentB {w0 wE w w' : World} {g gb gs : Nat} {T : TypeId} {cs : List Value} {FE F F' : Nat → Prop} {s s' : RS} {A : Option Addr} {m : Nat} (h : RBx w0 wE w g gb gs T cs FE F s) (h1 : PrAt w' g F' s') (ho : Off A m F') (h2 : ∀ k, F' k → F k ∨ w.heap.size ≤ k) (h3 : Keep F w w') :
  ∃ F'', RBx w0 wE w' g gb gs T cs FE F'' s' ∧ Off A m F'' ∧ Went w F F'' w' := by
 have hgb : gb < w.heap.size := cell_block h.st.box
 have hW : Went w F F' w' := ⟨h2, h3⟩
 refine ⟨F', ⟨⟨h1, hW.not hgb h.st.nb, (h3.cell (a := ⟨gb, 0, none⟩) hgb h.st.nb).trans h.st.box, fun k hk => ?_, h.st.bb, h3.below h.st.bel h.st.bel.size h.st.fb⟩, hW.not h.bx.lt h.ns, h.bx.kept h3 h.ns, h.wt.trans hW⟩, ho, hW⟩
 rcases h2 k hk with hk | hk
 ·exact h.st.fb k hk
 ·exact Nat.le_trans h.st.bel.size hk
theorem dPt (w0 w : World) (g gb : Nat) (F : Nat → Prop) (s : RS) (h : RSt w0 w g gb F s) :
  Calls Tryz.prog 98 #[.pointer (some ⟨gb, 0, none⟩)] w fun e w' => ∃ A m c F', e = .returned (.agg #[.int .i64 (ptV s).id, .int .i64 (ptV s).base, .int .i64 (ptV s).size, .bool (ptV s).keep, .slice A m c]) ∧ OwR w' w.heap.size A m (ptV s).img ∧ m ≤ c ∧ c ≤ 9223372036854775807 ∧ Off A m F' ∧ RSt w0 w' g gb F' (ptS s) ∧ Went w F F' w' := by
 have HGB : Hid (gb < w.heap.size) := cell_block h.box
 have H00 : Hid (w0.heap.size ≤ w.heap.size) := h.bel.size
 have H0 : Hid (RBx w0 w (w.alloc (.cells #[.int .i64 0, .int .i64 0, .int .i64 0, .bool false, .slice none 0 0] 58)) g gb w.heap.size 58 [.int .i64 0, .int .i64 0, .int .i64 0, .bool false, .slice none 0 0] F F s) := RBx.new h _ [.int .i64 0, .int .i64 0, .int .i64 0, .bool false, .slice none 0 0]
 clear h
 go_enter Tryz.func98, Tryz.ntmps98
 go_wp2_with fail
 generalize w.alloc (.cells #[.int .i64 0, .int .i64 0, .int .i64 0, .bool false, .slice none 0 0] 58) = w1 at *
 obtain ⟨wd, hwd⟩ : ∃ wd, w1.drew = wd := ⟨_, rfl⟩
 replace H0 : Hid (RBx w0 w wd g gb w.heap.size 58 [.int .i64 0, .int .i64 0, .int .i64 0, .bool false, .slice none 0 0] F F s) := by
  (show RBx _ _ _ _ _ _ _ _ _ _ _)
  rw [← hwd]
  exact H0.out.drew
 refine wp_region_held_drew (S := (fun w' => w'.cell? ⟨gb, 0, none⟩ = some (.pointer (some ⟨g, 0, none⟩)))) (by kernel_rfl) ((by rw [hwd]; exact H0.out.st.box)) (fun hHeld => ?_)
 rw [hwd] at hHeld ⊢
 clear hwd
 obtain ⟨wz, hw2⟩ : ∃ w2, wd = w2 := ⟨_, rfl⟩
 rw [hw2] at H0 hHeld ⊢
 clear hw2
 refine tk 0 ?_
 simp only [pR]
 refine tk 2 ?_
 simp only [pR]
 refine tk 4 ?_
 simp only [pR]
 refine tk 7 ?_
 simp only [pR]
 refine tk 9 ?_
 simp only [pR]
 refine rd1 1 (fun K hK => ?_)
 go_simp
 refine (pInt g F _ wz H0.out.st.pr).mono ?_
 rintro e w2 ⟨rfl, hto⟩
 obtain ⟨F1, hh⟩ := H0.out.went hto
 have H1 := qH hh
 clear hto hh hHeld H0
 go_wp2_with fail
 refine hK.out _ _ (H1.out.st.box) (fun hHeld => ?_)
 clear hK K
 refine rd1 3 (fun K hK => ?_)
 go_simp
 refine (pInt g F1 _ w2 H1.out.st.pr).mono ?_
 rintro e w3 ⟨rfl, hto⟩
 obtain ⟨F2, hh⟩ := H1.out.went hto
 have H2 := qH hh
 clear hto hh hHeld H1
 go_wp2_with fail
 refine hK.out _ _ (H2.out.st.box) (fun hHeld => ?_)
 clear hK K
 refine rd1 5 (fun K hK => ?_)
 go_simp
 refine (pInt g F2 _ w3 H2.out.st.pr).mono ?_
 rintro e w4 ⟨rfl, hto⟩
 obtain ⟨F3, hh⟩ := H2.out.went hto
 have H3 := qH hh
 clear hto hh hHeld H2
 go_wp2_with fail
 refine hK.out _ _ (H3.out.st.box) (fun hHeld => ?_)
 clear hK K
 refine tk 6 ?_
 simp only [pR]
 refine rd1 8 (fun K hK => ?_)
 go_simp
 refine (pFlag g F3 _ w4 H3.out.st.pr).mono ?_
 rintro e w5 ⟨rfl, hto⟩
 obtain ⟨F4, hh⟩ := H3.out.went hto
 have H4 := qH hh
 clear hto hh hHeld H3
 go_wp2_with fail
 refine hK.out _ _ (H4.out.st.box) (fun hHeld => ?_)
 clear hK K
 refine rd1 10 (fun K hK => ?_)
 go_simp
 refine (pBytes g F4 _ w5 H4.out.st.pr).mono ?_
 rintro e w6 ⟨A, m, c, F5, rfl, ho, hmc, hcc, hp, hoff, hff, hkk⟩
 obtain ⟨F5', hh, hpo, hwt⟩ := H4.out.wentB hp hoff hff hkk
 have H5 := qH hh
 have HP := qH hpo
 have HO := qH ho
 have HSZ := qH H4.out.wt.kp.size
 have HGS := qH H4.out.bx.lt
 have HMC := qH (And.intro hmc hcc)
 clear hp hoff hff hkk hh hpo hwt ho hmc hcc hHeld H4
 go_wp2_with fail
 refine hK.out _ _ (H5.out.st.box) (fun hHeld => ?_)
 clear hK K
 have XS := H5.out.sets (vs := [.int .i64 (intV s), .int .i64 (intV (s.next 8)), .int .i64 (intV ((s.next 8).next 8)), .bool (decide ((((s.next 8).next 8).next 8).numb 1 = 1)), .slice A m c]) (by simp) (Nat.le_refl _) (Nat.ne_of_lt HGB.out) H00.out
 have z0 := H5.out.bx.at (j := 0) rfl
 have f0 := H5.out.bx.fz 0
 have z1 := H5.out.bx.at (j := 1) rfl
 have f1 := H5.out.bx.fz 1
 have z2 := H5.out.bx.at (j := 2) rfl
 have f2 := H5.out.bx.fz 2
 have z3 := H5.out.bx.at (j := 3) rfl
 have f3 := H5.out.bx.fz 3
 have z4 := H5.out.bx.at (j := 4) rfl
 have f4 := H5.out.bx.fz 4
 have O9 := qH (HO.out.kept (Keep.sets (R := (· = w.heap.size)) rfl [.int .i64 (intV s), .int .i64 (intV (s.next 8)), .int .i64 (intV ((s.next 8).next 8)), .bool (decide ((((s.next 8).next 8).next 8).numb 1 = 1)), .slice A m c] 0 (Keep.refl _ w6)) (HO.out.off (fun k hk => by have := HGS.out; have : k = w.heap.size := hk; omega)))
 refine tk 11 ?_
 simp only [pR]
 refine rd1 12 (fun K hK => ?_)
 go_simp
 refine hK.out _ _ (XS.st.box) (fun hHeld => ?_)
 clear hK K
 refine wpAnyH_done (by kernel_rfl) ?_ _
 clear hHeld
 go_wp2_with fail
 change bodyPost _ _ _ _ _ (setsC w6 w.heap.size 0 [.int .i64 (intV s), .int .i64 (intV (s.next 8)), .int .i64 (intV ((s.next 8).next 8)), .bool (decide ((((s.next 8).next 8).next 8).numb 1 = 1)), .slice A m c])
 generalize setsC w6 w.heap.size 0 [.int .i64 (intV s), .int .i64 (intV (s.next 8)), .int .i64 (intV ((s.next 8).next 8)), .bool (decide ((((s.next 8).next 8).next 8).numb 1 = 1)), .slice A m c] = w9 at *
 refine bodyPost_ret (res_pt rfl _ _ w.heap.size _ _ _ _ _ rfl XS.bx) rfl ⟨A, m, c, F5', rfl, O9.out.mono HSZ.out, HMC.out.1, HMC.out.2, HP.out, XS.st, XS.wt⟩
end
end Go.Proofs.YtlmdidblgeeplaaGreatDoor