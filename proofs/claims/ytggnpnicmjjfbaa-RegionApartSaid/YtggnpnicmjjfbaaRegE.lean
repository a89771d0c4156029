/- '==' on regions, the laws' of, slices of regions that are written out, and the chapter's examples, as the laws begin with them (citadellaw08.awake). -/
import Derived.Test.YtggnpnicmjjfbaaRegW
import Derived.Laws.StructEq
import Derived.Laws.Rows
namespace Go.Proofs.Ytggnpnicmjjfbaa
open Go.RowKit
set_option linter.unusedVariables false
set_option linter.unusedSimpArgs false

theorem reg_guard : Try.prog.eqGuardType Try.prog.depth 23 = false := by kernel_rfl
theorem reg_eq (a b c d : Int) (w : World) : (Op.equalIn 10000 23 (.agg #[.int .i64 a, .int .i64 b]) (.agg #[.int .i64 c, .int .i64 d])).run Try.prog w = .ok (decide ((a, b) = (c, d))) w := by
  have hS : Try.prog.underlying 23 = some (.struct (Try.prog.fieldsOf 23)) := by kernel_rfl
  have hp : Try.prog.stoodInHeld 23 = false := by kernel_rfl
  have u3 := Try.underlying3
  have a3 := Try.isAgg3
  have z3 := Try.sizeOf3
  rw [show (10000 : Nat) = 9999 + 1 from rfl, run_equalIn_agg w 9999 23 _ _ hS hp]
  simp only [Program.fieldsOf, Try.underlying23]
  go_simp
  by_cases h1 : a = c <;> by_cases h2 : b = d <;> simp [h1, h2]

theorem reg_info : (Try.prog.info? 23).map (·.size) = some 2 := by kernel_rfl
set_option maxRecDepth 1000000 in
theorem wOf (b s : Int) (w : World) : Calls Try.prog 22 #[.int .i64 b, .int .i64 s] w fun e w' => e = .returned (.agg #[.int .i64 b, .int .i64 s]) ∧ Below w.heap.size w w' := by
  have hi := reg_info
  go_enter Try.func22, Try.ntmps22
  go_wp2
  refine bodyPost_ret (results_cell_row rfl _ _ w.heap.size 23 #[.int .i64 b, .int .i64 s] (0, 0) _ rfl (BoxR.new w b s) Try.underlying23 rfl hi) rfl ⟨rfl, (Below.refl _ _).alloc (Nat.le_refl _) _⟩

theorem RdG.lit1 (w : World) (r : Reg) (T : TypeId) : RdG (w.alloc (.cells #[.int .i64 r.1, .int .i64 r.2] T)) (w.alloc (.cells #[.int .i64 r.1, .int .i64 r.2] T)).heap.size (some ⟨w.heap.size, 0, none⟩) 1 [r] :=
  ⟨rfl, fun _ => ⟨_, 0, rfl, by simp, fun j hj => by obtain rfl : j = 0 := (by omega); exact ⟨by simp [rat], by simp [rat]⟩⟩⟩
theorem RdG.lit2 (w : World) (r q : Reg) (T : TypeId) : RdG (w.alloc (.cells #[.int .i64 r.1, .int .i64 r.2, .int .i64 q.1, .int .i64 q.2] T)) (w.alloc (.cells #[.int .i64 r.1, .int .i64 r.2, .int .i64 q.1, .int .i64 q.2] T)).heap.size (some ⟨w.heap.size, 0, none⟩) 2 [r, q] :=
  ⟨rfl, fun _ => ⟨_, 0, rfl, by simp, fun j hj => by
    rcases j with _ | _ | j
    · exact ⟨by simp [rat], by simp [rat]⟩
    · exact ⟨by simp [rat], by simp [rat]⟩
    · omega⟩⟩

set_option maxRecDepth 1000000 in
set_option maxHeartbeats 4000000 in
theorem awake (w : World) : Calls Try.prog 15 #[] w fun e w' => e = .returned (.bool true) ∧ Below w.heap.size w w' := by
  have B := Lib.hid (Below.refl w.heap.size w)
  have hgd := reg_guard
  have heq := reg_eq
  go_enter Try.func15, Try.ntmps15
  go_wp2_with fail
  refine (wOf (0) 16 _).mono ?_
  rintro e w1 ⟨rfl, hb⟩
  replace B := Lib.hid (B.out.trans (hb.mono B.out.size))
  clear hb
  go_wp2_with fail
  refine (wOf (32) 16 _).mono ?_
  rintro e w2 ⟨rfl, hb⟩
  replace B := Lib.hid (B.out.trans (hb.mono B.out.size))
  clear hb
  go_wp2_with fail
  have T := Lib.hid (RdG.lit2 w2 (0, 16) (32, 16) 23)
  replace B := Lib.hid (B.out.alloc B.out.size (.cells #[.int .i64 0, .int .i64 16, .int .i64 32, .int .i64 16] 23))
  refine (wPlace _ 2 2 [(0, 16), (32, 16)] 16 _ T.out (by decide) (by decide)).mono ?_
  generalize w2.alloc (.cells #[.int .i64 0, .int .i64 16, .int .i64 32, .int .i64 16] 23) = wa at *
  rw [show placeR [(0, 16), (32, 16)] 16 = ((16, 16), 0) from by decide +kernel]
  rintro e w3 ⟨rfl, hb⟩
  replace T := Lib.hid (T.out.to hb)
  replace B := Lib.hid (B.out.trans (hb.mono B.out.size))
  clear hb
  dsimp only
  go_wp2_with fail
  replace T := Lib.hid (T.out.to ((Below.refl _ _).alloc (Nat.le_refl _) (.cells #[.int .i64 16, .int .i64 16] 23)))
  have X2 := Lib.hid (Box.new w3 16 16)
  replace B := Lib.hid (B.out.alloc B.out.size (.cells #[.int .i64 16, .int .i64 16] 23))
  refine (wOf 0 32 _).mono ?_
  generalize w3.alloc (.cells #[.int .i64 16, .int .i64 16] 23) = wb at *
  generalize w3.heap.size = g2 at *
  rintro e w4 ⟨rfl, hb⟩
  replace T := Lib.hid (T.out.to hb)
  replace X2 := Lib.hid (X2.out.to hb)
  replace B := Lib.hid (B.out.trans (hb.mono B.out.size))
  clear hb
  go_wp2_with fail
  replace T := Lib.hid (T.out.to ((Below.refl _ _).alloc (Nat.le_refl _) (.cells #[.int .i64 0, .int .i64 32] 23)))
  replace X2 := Lib.hid (X2.out.to ((Below.refl _ _).alloc (Nat.le_refl _) (.cells #[.int .i64 0, .int .i64 32] 23)))
  have O := Lib.hid (RdG.lit1 w4 (0, 32) 23)
  replace B := Lib.hid (B.out.alloc B.out.size (.cells #[.int .i64 0, .int .i64 32] 23))
  refine (wPlace _ 1 1 [(0, 32)] 16 _ O.out (by decide) (by decide)).mono ?_
  clear O
  generalize w4.alloc (.cells #[.int .i64 0, .int .i64 32] 23) = wc at *
  rw [show placeR [(0, 32)] 16 = ((32, 16), 0) from by decide +kernel]
  rintro e w5 ⟨rfl, hb⟩
  replace T := Lib.hid (T.out.to hb)
  replace X2 := Lib.hid (X2.out.to hb)
  replace B := Lib.hid (B.out.trans (hb.mono B.out.size))
  clear hb
  dsimp only
  go_wp2_with fail
  replace T := Lib.hid (T.out.to ((Below.refl _ _).alloc (Nat.le_refl _) (.cells #[.int .i64 32, .int .i64 16] 23)))
  replace X2 := Lib.hid (X2.out.to ((Below.refl _ _).alloc (Nat.le_refl _) (.cells #[.int .i64 32, .int .i64 16] 23)))
  have X4 := Lib.hid (Box.new w5 32 16)
  replace B := Lib.hid (B.out.alloc B.out.size (.cells #[.int .i64 32, .int .i64 16] 23))
  generalize w5.alloc (.cells #[.int .i64 32, .int .i64 16] 23) = wd at *
  generalize w5.heap.size = g4 at *
  replace T : Hid (RdG wd.drew wd.drew.heap.size _ 2 [(0, 16), (32, 16)]) := T.out
  replace X2 : Hid (Box wd.drew g2 16 16) := X2.out
  replace X4 : Hid (Box wd.drew g4 32 16) := X4.out
  replace B := Lib.hid B.out.drew
  refine wp_region_held_drew (S := (fun w' => w'.cell? ⟨g2, 0, none⟩ = some (.int .i64 16) ∧ w'.cell? ⟨g2, 1, none⟩ = some (.int .i64 16) ∧ w'.cell? ⟨g4, 0, none⟩ = some (.int .i64 32) ∧ w'.cell? ⟨g4, 1, none⟩ = some (.int .i64 16))) (by kernel_rfl) (⟨X2.out.1, X2.out.2.1, X4.out.1, X4.out.2.1⟩) (fun hHeld => ?_)
  generalize wd.drew = we at *
  refine wpAnyH_ready (rs := [0]) (by kernel_rfl) (by simp) ?_
  refine AllReadyH.cons rfl (fun K hK => ?_) AllReadyH.nil
  go_simp
  refine (wOf (0) 16 _).mono ?_
  rintro e w6 ⟨rfl, hb⟩
  replace T := Lib.hid (T.out.to hb)
  replace X2 := Lib.hid (X2.out.to hb)
  replace X4 := Lib.hid (X4.out.to hb)
  replace B := Lib.hid (B.out.trans (hb.mono B.out.size))
  clear hb hHeld
  go_wp2_with fail
  refine hK.out _ _ (⟨X2.out.1, X2.out.2.1, X4.out.1, X4.out.2.1⟩) (fun hHeld => ?_)
  clear hK K
  refine wpAnyH_ready (rs := [1]) (by kernel_rfl) (by simp) ?_
  refine AllReadyH.cons rfl (fun K hK => ?_) AllReadyH.nil
  go_simp
  refine (wMay (0) 16 _).mono ?_
  rw [show mayR (0, 16) = true from by decide]
  rintro e w7 ⟨rfl, hb⟩
  replace T := Lib.hid (T.out.to hb)
  replace X2 := Lib.hid (X2.out.to hb)
  replace X4 := Lib.hid (X4.out.to hb)
  replace B := Lib.hid (B.out.trans (hb.mono B.out.size))
  clear hb hHeld
  go_wp2_with fail
  refine hK.out _ _ (⟨X2.out.1, X2.out.2.1, X4.out.1, X4.out.2.1⟩) (fun hHeld => ?_)
  clear hK K
  refine wpAnyH_takeD (i := 2) (d := 22) (v := ?_) rfl rfl (by kernel_rfl) (by kernel_rfl) (by kernel_rfl) (fun _ _ _ h => h) (Or.inl ⟨by rfl, ?_⟩) (by assumption) ?_
  rotate_left 1
  · intro w hSw; (try dsimp only at hSw); go_simp; (try with_reducible rfl)
  simp only [List.setIfInBounds_toArray, List.set_cons_zero, List.set_cons_succ]
  refine wpAnyH_ready (rs := [3]) (by kernel_rfl) (by simp) ?_
  refine AllReadyH.cons rfl (fun K hK => ?_) AllReadyH.nil
  go_simp
  refine (wOf (4) 512 _).mono ?_
  rintro e w8 ⟨rfl, hb⟩
  replace T := Lib.hid (T.out.to hb)
  replace X2 := Lib.hid (X2.out.to hb)
  replace X4 := Lib.hid (X4.out.to hb)
  replace B := Lib.hid (B.out.trans (hb.mono B.out.size))
  clear hb hHeld
  go_wp2_with fail
  refine hK.out _ _ (⟨X2.out.1, X2.out.2.1, X4.out.1, X4.out.2.1⟩) (fun hHeld => ?_)
  clear hK K
  refine wpAnyH_ready (rs := [4]) (by kernel_rfl) (by simp) ?_
  refine AllReadyH.cons rfl (fun K hK => ?_) AllReadyH.nil
  go_simp
  refine (wMay (4) 512 _).mono ?_
  rw [show mayR (4, 512) = true from by decide]
  rintro e w9 ⟨rfl, hb⟩
  replace T := Lib.hid (T.out.to hb)
  replace X2 := Lib.hid (X2.out.to hb)
  replace X4 := Lib.hid (X4.out.to hb)
  replace B := Lib.hid (B.out.trans (hb.mono B.out.size))
  clear hb hHeld
  go_wp2_with fail
  refine hK.out _ _ (⟨X2.out.1, X2.out.2.1, X4.out.1, X4.out.2.1⟩) (fun hHeld => ?_)
  clear hK K
  refine wpAnyH_takeD (i := 5) (d := 25) (v := ?_) rfl rfl (by kernel_rfl) (by kernel_rfl) (by kernel_rfl) (fun _ _ _ h => h) (Or.inl ⟨by rfl, ?_⟩) (by assumption) ?_
  rotate_left 1
  · intro w hSw; (try dsimp only at hSw); go_simp; (try with_reducible rfl)
  simp only [List.setIfInBounds_toArray, List.set_cons_zero, List.set_cons_succ]
  refine wpAnyH_takeD (i := 6) (d := 26) (v := ?_) rfl rfl (by kernel_rfl) (by kernel_rfl) (by kernel_rfl) (fun _ _ _ h => h) (Or.inl ⟨by rfl, ?_⟩) (by assumption) ?_
  rotate_left 1
  · intro w hSw; (try dsimp only at hSw); go_simp; (try with_reducible rfl)
  simp only [List.setIfInBounds_toArray, List.set_cons_zero, List.set_cons_succ]
  refine wpAnyH_ready (rs := [7]) (by kernel_rfl) (by simp) ?_
  refine AllReadyH.cons rfl (fun K hK => ?_) AllReadyH.nil
  go_simp
  refine (wOf (2) 16 _).mono ?_
  rintro e w10 ⟨rfl, hb⟩
  replace T := Lib.hid (T.out.to hb)
  replace X2 := Lib.hid (X2.out.to hb)
  replace X4 := Lib.hid (X4.out.to hb)
  replace B := Lib.hid (B.out.trans (hb.mono B.out.size))
  clear hb hHeld
  go_wp2_with fail
  refine hK.out _ _ (⟨X2.out.1, X2.out.2.1, X4.out.1, X4.out.2.1⟩) (fun hHeld => ?_)
  clear hK K
  refine wpAnyH_ready (rs := [8]) (by kernel_rfl) (by simp) ?_
  refine AllReadyH.cons rfl (fun K hK => ?_) AllReadyH.nil
  go_simp
  refine (wMay (2) 16 _).mono ?_
  rw [show mayR (2, 16) = false from by decide]
  rintro e w11 ⟨rfl, hb⟩
  replace T := Lib.hid (T.out.to hb)
  replace X2 := Lib.hid (X2.out.to hb)
  replace X4 := Lib.hid (X4.out.to hb)
  replace B := Lib.hid (B.out.trans (hb.mono B.out.size))
  clear hb hHeld
  go_wp2_with fail
  refine hK.out _ _ (⟨X2.out.1, X2.out.2.1, X4.out.1, X4.out.2.1⟩) (fun hHeld => ?_)
  clear hK K
  refine wpAnyH_takeD (i := 9) (d := 29) (v := ?_) rfl rfl (by kernel_rfl) (by kernel_rfl) (by kernel_rfl) (fun _ _ _ h => h) (Or.inl ⟨by rfl, ?_⟩) (by assumption) ?_
  rotate_left 1
  · intro w hSw; (try dsimp only at hSw); go_simp; (try with_reducible rfl)
  simp only [List.setIfInBounds_toArray, List.set_cons_zero, List.set_cons_succ]
  refine wpAnyH_takeD (i := 10) (d := 30) (v := ?_) rfl rfl (by kernel_rfl) (by kernel_rfl) (by kernel_rfl) (fun _ _ _ h => h) (Or.inl ⟨by rfl, ?_⟩) (by assumption) ?_
  rotate_left 1
  · intro w hSw; (try dsimp only at hSw); go_simp; (try with_reducible rfl)
  simp only [List.setIfInBounds_toArray, List.set_cons_zero, List.set_cons_succ]
  refine wpAnyH_takeD (i := 11) (d := 31) (v := ?_) rfl rfl (by kernel_rfl) (by kernel_rfl) (by kernel_rfl) (fun _ _ _ h => h) (Or.inl ⟨by rfl, ?_⟩) (by assumption) ?_
  rotate_left 1
  · intro w hSw; (try dsimp only at hSw); go_simp; (try with_reducible rfl)
  simp only [List.setIfInBounds_toArray, List.set_cons_zero, List.set_cons_succ]
  refine wpAnyH_ready (rs := [12]) (by kernel_rfl) (by simp) ?_
  refine AllReadyH.cons rfl (fun K hK => ?_) AllReadyH.nil
  go_simp
  refine (wOf (0) 12 _).mono ?_
  rintro e w12 ⟨rfl, hb⟩
  replace T := Lib.hid (T.out.to hb)
  replace X2 := Lib.hid (X2.out.to hb)
  replace X4 := Lib.hid (X4.out.to hb)
  replace B := Lib.hid (B.out.trans (hb.mono B.out.size))
  clear hb hHeld
  go_wp2_with fail
  refine hK.out _ _ (⟨X2.out.1, X2.out.2.1, X4.out.1, X4.out.2.1⟩) (fun hHeld => ?_)
  clear hK K
  refine wpAnyH_ready (rs := [13]) (by kernel_rfl) (by simp) ?_
  refine AllReadyH.cons rfl (fun K hK => ?_) AllReadyH.nil
  go_simp
  refine (wMay (0) 12 _).mono ?_
  rw [show mayR (0, 12) = false from by decide]
  rintro e w13 ⟨rfl, hb⟩
  replace T := Lib.hid (T.out.to hb)
  replace X2 := Lib.hid (X2.out.to hb)
  replace X4 := Lib.hid (X4.out.to hb)
  replace B := Lib.hid (B.out.trans (hb.mono B.out.size))
  clear hb hHeld
  go_wp2_with fail
  refine hK.out _ _ (⟨X2.out.1, X2.out.2.1, X4.out.1, X4.out.2.1⟩) (fun hHeld => ?_)
  clear hK K
  refine wpAnyH_takeD (i := 14) (d := 34) (v := ?_) rfl rfl (by kernel_rfl) (by kernel_rfl) (by kernel_rfl) (fun _ _ _ h => h) (Or.inl ⟨by rfl, ?_⟩) (by assumption) ?_
  rotate_left 1
  · intro w hSw; (try dsimp only at hSw); go_simp; (try with_reducible rfl)
  simp only [List.setIfInBounds_toArray, List.set_cons_zero, List.set_cons_succ]
  refine wpAnyH_takeD (i := 15) (d := 35) (v := ?_) rfl rfl (by kernel_rfl) (by kernel_rfl) (by kernel_rfl) (fun _ _ _ h => h) (Or.inl ⟨by rfl, ?_⟩) (by assumption) ?_
  rotate_left 1
  · intro w hSw; (try dsimp only at hSw); go_simp; (try with_reducible rfl)
  simp only [List.setIfInBounds_toArray, List.set_cons_zero, List.set_cons_succ]
  refine wpAnyH_takeD (i := 16) (d := 36) (v := ?_) rfl rfl (by kernel_rfl) (by kernel_rfl) (by kernel_rfl) (fun _ _ _ h => h) (Or.inl ⟨by rfl, ?_⟩) (by assumption) ?_
  rotate_left 1
  · intro w hSw; (try dsimp only at hSw); go_simp; (try with_reducible rfl)
  simp only [List.setIfInBounds_toArray, List.set_cons_zero, List.set_cons_succ]
  refine wpAnyH_ready (rs := [17]) (by kernel_rfl) (by simp) ?_
  refine AllReadyH.cons rfl (fun K hK => ?_) AllReadyH.nil
  go_simp
  refine (wOf (4084) 16 _).mono ?_
  rintro e w14 ⟨rfl, hb⟩
  replace T := Lib.hid (T.out.to hb)
  replace X2 := Lib.hid (X2.out.to hb)
  replace X4 := Lib.hid (X4.out.to hb)
  replace B := Lib.hid (B.out.trans (hb.mono B.out.size))
  clear hb hHeld
  go_wp2_with fail
  refine hK.out _ _ (⟨X2.out.1, X2.out.2.1, X4.out.1, X4.out.2.1⟩) (fun hHeld => ?_)
  clear hK K
  refine wpAnyH_ready (rs := [18]) (by kernel_rfl) (by simp) ?_
  refine AllReadyH.cons rfl (fun K hK => ?_) AllReadyH.nil
  go_simp
  refine (wMay (4084) 16 _).mono ?_
  rw [show mayR (4084, 16) = false from by decide]
  rintro e w15 ⟨rfl, hb⟩
  replace T := Lib.hid (T.out.to hb)
  replace X2 := Lib.hid (X2.out.to hb)
  replace X4 := Lib.hid (X4.out.to hb)
  replace B := Lib.hid (B.out.trans (hb.mono B.out.size))
  clear hb hHeld
  go_wp2_with fail
  refine hK.out _ _ (⟨X2.out.1, X2.out.2.1, X4.out.1, X4.out.2.1⟩) (fun hHeld => ?_)
  clear hK K
  refine wpAnyH_takeD (i := 19) (d := 39) (v := ?_) rfl rfl (by kernel_rfl) (by kernel_rfl) (by kernel_rfl) (fun _ _ _ h => h) (Or.inl ⟨by rfl, ?_⟩) (by assumption) ?_
  rotate_left 1
  · intro w hSw; (try dsimp only at hSw); go_simp; (try with_reducible rfl)
  simp only [List.setIfInBounds_toArray, List.set_cons_zero, List.set_cons_succ]
  refine wpAnyH_takeD (i := 20) (d := 40) (v := ?_) rfl rfl (by kernel_rfl) (by kernel_rfl) (by kernel_rfl) (fun _ _ _ h => h) (Or.inl ⟨by rfl, ?_⟩) (by assumption) ?_
  rotate_left 1
  · intro w hSw; (try dsimp only at hSw); go_simp; (try with_reducible rfl)
  simp only [List.setIfInBounds_toArray, List.set_cons_zero, List.set_cons_succ]
  refine wpAnyH_takeD (i := 21) (d := 41) (v := ?_) rfl rfl (by kernel_rfl) (by kernel_rfl) (by kernel_rfl) (fun _ _ _ h => h) (Or.inl ⟨by rfl, ?_⟩) (by assumption) ?_
  rotate_left 1
  · intro w hSw; (try dsimp only at hSw); go_simp; (try with_reducible rfl)
  simp only [List.setIfInBounds_toArray, List.set_cons_zero, List.set_cons_succ]
  refine wpAnyH_ready (rs := [22]) (by kernel_rfl) (by simp) ?_
  refine AllReadyH.cons rfl (fun K hK => ?_) AllReadyH.nil
  go_simp
  refine (wOf (-4) 16 _).mono ?_
  rintro e w16 ⟨rfl, hb⟩
  replace T := Lib.hid (T.out.to hb)
  replace X2 := Lib.hid (X2.out.to hb)
  replace X4 := Lib.hid (X4.out.to hb)
  replace B := Lib.hid (B.out.trans (hb.mono B.out.size))
  clear hb hHeld
  go_wp2_with fail
  refine hK.out _ _ (⟨X2.out.1, X2.out.2.1, X4.out.1, X4.out.2.1⟩) (fun hHeld => ?_)
  clear hK K
  refine wpAnyH_ready (rs := [23]) (by kernel_rfl) (by simp) ?_
  refine AllReadyH.cons rfl (fun K hK => ?_) AllReadyH.nil
  go_simp
  refine (wMay (-4) 16 _).mono ?_
  rw [show mayR (-4, 16) = false from by decide]
  rintro e w17 ⟨rfl, hb⟩
  replace T := Lib.hid (T.out.to hb)
  replace X2 := Lib.hid (X2.out.to hb)
  replace X4 := Lib.hid (X4.out.to hb)
  replace B := Lib.hid (B.out.trans (hb.mono B.out.size))
  clear hb hHeld
  go_wp2_with fail
  refine hK.out _ _ (⟨X2.out.1, X2.out.2.1, X4.out.1, X4.out.2.1⟩) (fun hHeld => ?_)
  clear hK K
  refine wpAnyH_takeD (i := 24) (d := 44) (v := ?_) rfl rfl (by kernel_rfl) (by kernel_rfl) (by kernel_rfl) (fun _ _ _ h => h) (Or.inl ⟨by rfl, ?_⟩) (by assumption) ?_
  rotate_left 1
  · intro w hSw; (try dsimp only at hSw); go_simp; (try with_reducible rfl)
  simp only [List.setIfInBounds_toArray, List.set_cons_zero, List.set_cons_succ]
  refine wpAnyH_takeD (i := 25) (d := 45) (v := ?_) rfl rfl (by kernel_rfl) (by kernel_rfl) (by kernel_rfl) (fun _ _ _ h => h) (Or.inl ⟨by rfl, ?_⟩) (by assumption) ?_
  rotate_left 1
  · intro w hSw; (try dsimp only at hSw); go_simp; (try with_reducible rfl)
  simp only [List.setIfInBounds_toArray, List.set_cons_zero, List.set_cons_succ]
  refine wpAnyH_takeD (i := 26) (d := 46) (v := ?_) rfl rfl (by kernel_rfl) (by kernel_rfl) (by kernel_rfl) (fun _ _ _ h => h) (Or.inl ⟨by rfl, ?_⟩) (by assumption) ?_
  rotate_left 1
  · intro w hSw; (try dsimp only at hSw); go_simp; (try with_reducible rfl)
  simp only [List.setIfInBounds_toArray, List.set_cons_zero, List.set_cons_succ]
  refine wpAnyH_ready (rs := [27]) (by kernel_rfl) (by simp) ?_
  refine AllReadyH.cons rfl (fun K hK => ?_) AllReadyH.nil
  go_simp
  refine (wOf (0) 16 _).mono ?_
  rintro e w18 ⟨rfl, hb⟩
  replace T := Lib.hid (T.out.to hb)
  replace X2 := Lib.hid (X2.out.to hb)
  replace X4 := Lib.hid (X4.out.to hb)
  replace B := Lib.hid (B.out.trans (hb.mono B.out.size))
  clear hb hHeld
  go_wp2_with fail
  refine hK.out _ _ (⟨X2.out.1, X2.out.2.1, X4.out.1, X4.out.2.1⟩) (fun hHeld => ?_)
  clear hK K
  refine wpAnyH_ready (rs := [28]) (by kernel_rfl) (by simp) ?_
  refine AllReadyH.cons rfl (fun K hK => ?_) AllReadyH.nil
  go_simp
  refine (wOf (16) 16 _).mono ?_
  rintro e w19 ⟨rfl, hb⟩
  replace T := Lib.hid (T.out.to hb)
  replace X2 := Lib.hid (X2.out.to hb)
  replace X4 := Lib.hid (X4.out.to hb)
  replace B := Lib.hid (B.out.trans (hb.mono B.out.size))
  clear hb hHeld
  go_wp2_with fail
  refine hK.out _ _ (⟨X2.out.1, X2.out.2.1, X4.out.1, X4.out.2.1⟩) (fun hHeld => ?_)
  clear hK K
  refine wpAnyH_ready (rs := [29]) (by kernel_rfl) (by simp) ?_
  refine AllReadyH.cons rfl (fun K hK => ?_) AllReadyH.nil
  go_simp
  refine (wApart 0 16 16 16 _).mono ?_
  rw [show apartR (0, 16) (16, 16) = true from by decide]
  rintro e w20 ⟨rfl, hb⟩
  replace T := Lib.hid (T.out.to hb)
  replace X2 := Lib.hid (X2.out.to hb)
  replace X4 := Lib.hid (X4.out.to hb)
  replace B := Lib.hid (B.out.trans (hb.mono B.out.size))
  clear hb hHeld
  go_wp2_with fail
  refine hK.out _ _ (⟨X2.out.1, X2.out.2.1, X4.out.1, X4.out.2.1⟩) (fun hHeld => ?_)
  clear hK K
  refine wpAnyH_takeD (i := 30) (d := 50) (v := ?_) rfl rfl (by kernel_rfl) (by kernel_rfl) (by kernel_rfl) (fun _ _ _ h => h) (Or.inl ⟨by rfl, ?_⟩) (by assumption) ?_
  rotate_left 1
  · intro w hSw; (try dsimp only at hSw); go_simp; (try with_reducible rfl)
  simp only [List.setIfInBounds_toArray, List.set_cons_zero, List.set_cons_succ]
  refine wpAnyH_takeD (i := 31) (d := 51) (v := ?_) rfl rfl (by kernel_rfl) (by kernel_rfl) (by kernel_rfl) (fun _ _ _ h => h) (Or.inl ⟨by rfl, ?_⟩) (by assumption) ?_
  rotate_left 1
  · intro w hSw; (try dsimp only at hSw); go_simp; (try with_reducible rfl)
  simp only [List.setIfInBounds_toArray, List.set_cons_zero, List.set_cons_succ]
  refine wpAnyH_ready (rs := [32]) (by kernel_rfl) (by simp) ?_
  refine AllReadyH.cons rfl (fun K hK => ?_) AllReadyH.nil
  go_simp
  refine (wOf (0) 20 _).mono ?_
  rintro e w21 ⟨rfl, hb⟩
  replace T := Lib.hid (T.out.to hb)
  replace X2 := Lib.hid (X2.out.to hb)
  replace X4 := Lib.hid (X4.out.to hb)
  replace B := Lib.hid (B.out.trans (hb.mono B.out.size))
  clear hb hHeld
  go_wp2_with fail
  refine hK.out _ _ (⟨X2.out.1, X2.out.2.1, X4.out.1, X4.out.2.1⟩) (fun hHeld => ?_)
  clear hK K
  refine wpAnyH_ready (rs := [33]) (by kernel_rfl) (by simp) ?_
  refine AllReadyH.cons rfl (fun K hK => ?_) AllReadyH.nil
  go_simp
  refine (wOf (16) 16 _).mono ?_
  rintro e w22 ⟨rfl, hb⟩
  replace T := Lib.hid (T.out.to hb)
  replace X2 := Lib.hid (X2.out.to hb)
  replace X4 := Lib.hid (X4.out.to hb)
  replace B := Lib.hid (B.out.trans (hb.mono B.out.size))
  clear hb hHeld
  go_wp2_with fail
  refine hK.out _ _ (⟨X2.out.1, X2.out.2.1, X4.out.1, X4.out.2.1⟩) (fun hHeld => ?_)
  clear hK K
  refine wpAnyH_ready (rs := [34]) (by kernel_rfl) (by simp) ?_
  refine AllReadyH.cons rfl (fun K hK => ?_) AllReadyH.nil
  go_simp
  refine (wApart 0 20 16 16 _).mono ?_
  rw [show apartR (0, 20) (16, 16) = false from by decide]
  rintro e w23 ⟨rfl, hb⟩
  replace T := Lib.hid (T.out.to hb)
  replace X2 := Lib.hid (X2.out.to hb)
  replace X4 := Lib.hid (X4.out.to hb)
  replace B := Lib.hid (B.out.trans (hb.mono B.out.size))
  clear hb hHeld
  go_wp2_with fail
  refine hK.out _ _ (⟨X2.out.1, X2.out.2.1, X4.out.1, X4.out.2.1⟩) (fun hHeld => ?_)
  clear hK K
  refine wpAnyH_takeD (i := 35) (d := 55) (v := ?_) rfl rfl (by kernel_rfl) (by kernel_rfl) (by kernel_rfl) (fun _ _ _ h => h) (Or.inl ⟨by rfl, ?_⟩) (by assumption) ?_
  rotate_left 1
  · intro w hSw; (try dsimp only at hSw); go_simp; (try with_reducible rfl)
  simp only [List.setIfInBounds_toArray, List.set_cons_zero, List.set_cons_succ]
  refine wpAnyH_takeD (i := 36) (d := 56) (v := ?_) rfl rfl (by kernel_rfl) (by kernel_rfl) (by kernel_rfl) (fun _ _ _ h => h) (Or.inl ⟨by rfl, ?_⟩) (by assumption) ?_
  rotate_left 1
  · intro w hSw; (try dsimp only at hSw); go_simp; (try with_reducible rfl)
  simp only [List.setIfInBounds_toArray, List.set_cons_zero, List.set_cons_succ]
  refine wpAnyH_takeD (i := 37) (d := 57) (v := ?_) rfl rfl (by kernel_rfl) (by kernel_rfl) (by kernel_rfl) (fun _ _ _ h => h) (Or.inl ⟨by rfl, ?_⟩) (by assumption) ?_
  rotate_left 1
  · intro w hSw; (try dsimp only at hSw); go_simp; (try with_reducible rfl)
  simp only [List.setIfInBounds_toArray, List.set_cons_zero, List.set_cons_succ]
  refine wpAnyH_takeD (i := 38) (d := 58) (v := ?_) rfl rfl (by kernel_rfl) (by kernel_rfl) (by kernel_rfl) (fun _ _ _ h => h) (Or.inl ⟨by rfl, ?_⟩) (by assumption) ?_
  rotate_left 1
  · intro w hSw; (try dsimp only at hSw); go_simp; (try with_reducible rfl)
  simp only [List.setIfInBounds_toArray, List.set_cons_zero, List.set_cons_succ]
  refine wpAnyH_ready (rs := [39]) (by kernel_rfl) (by simp) ?_
  refine AllReadyH.cons rfl (fun K hK => ?_) AllReadyH.nil
  go_simp
  refine (wOf (16) 16 _).mono ?_
  rintro e w24 ⟨rfl, hb⟩
  replace T := Lib.hid (T.out.to hb)
  replace X2 := Lib.hid (X2.out.to hb)
  replace X4 := Lib.hid (X4.out.to hb)
  replace B := Lib.hid (B.out.trans (hb.mono B.out.size))
  clear hb hHeld
  go_wp2_with fail
  refine hK.out _ _ (⟨X2.out.1, X2.out.2.1, X4.out.1, X4.out.2.1⟩) (fun hHeld => ?_)
  clear hK K
  refine wpAnyH_takeD (i := 40) (d := 60) (v := ?_) rfl rfl (by kernel_rfl) (by kernel_rfl) (by kernel_rfl) (fun _ _ _ h => h) (Or.inl ⟨by rfl, ?_⟩) (by assumption) ?_
  rotate_left 1
  · intro w hSw; (try dsimp only at hSw); go_simp; (try with_reducible rfl)
  simp only [List.setIfInBounds_toArray, List.set_cons_zero, List.set_cons_succ]
  refine wpAnyH_takeD (i := 41) (d := 61) (v := ?_) rfl rfl (by kernel_rfl) (by kernel_rfl) (by kernel_rfl) (fun _ _ _ h => h) (Or.inl ⟨by rfl, ?_⟩) (by assumption) ?_
  rotate_left 1
  · intro w hSw; (try dsimp only at hSw); go_simp; (try with_reducible rfl)
  simp only [List.setIfInBounds_toArray, List.set_cons_zero, List.set_cons_succ]
  refine wpAnyH_takeD (i := 42) (d := 62) (v := ?_) rfl rfl (by kernel_rfl) (by kernel_rfl) (by kernel_rfl) (fun _ _ _ h => h) (Or.inl ⟨by rfl, ?_⟩) (by assumption) ?_
  rotate_left 1
  · intro w hSw; (try dsimp only at hSw); go_simp; (try with_reducible rfl)
  simp only [List.setIfInBounds_toArray, List.set_cons_zero, List.set_cons_succ]
  refine wpAnyH_takeD (i := 43) (d := 63) (v := ?_) rfl rfl (by kernel_rfl) (by kernel_rfl) (by kernel_rfl) (fun _ _ _ h => h) (Or.inl ⟨by rfl, ?_⟩) (by assumption) ?_
  rotate_left 1
  · intro w hSw; (try dsimp only at hSw); go_simp; (try with_reducible rfl)
  simp only [List.setIfInBounds_toArray, List.set_cons_zero, List.set_cons_succ]
  refine wpAnyH_takeD (i := 44) (d := 64) (v := ?_) rfl rfl (by kernel_rfl) (by kernel_rfl) (by kernel_rfl) (fun _ _ _ h => h) (Or.inl ⟨by rfl, ?_⟩) (by assumption) ?_
  rotate_left 1
  · intro w hSw; (try dsimp only at hSw); go_simp; (try with_reducible rfl)
  simp only [List.setIfInBounds_toArray, List.set_cons_zero, List.set_cons_succ]
  refine wpAnyH_takeD (i := 45) (d := 65) (v := ?_) rfl rfl (by kernel_rfl) (by kernel_rfl) (by kernel_rfl) (fun _ _ _ h => h) (Or.inl ⟨by rfl, ?_⟩) (by assumption) ?_
  rotate_left 1
  · intro w hSw; (try dsimp only at hSw); go_simp; (try with_reducible rfl)
  simp only [List.setIfInBounds_toArray, List.set_cons_zero, List.set_cons_succ]
  refine wpAnyH_takeD (i := 46) (d := 66) (v := ?_) rfl rfl (by kernel_rfl) (by kernel_rfl) (by kernel_rfl) (fun _ _ _ h => h) (Or.inl ⟨by rfl, ?_⟩) (by assumption) ?_
  rotate_left 1
  · intro w hSw; (try dsimp only at hSw); go_simp; (try with_reducible rfl)
  simp only [List.setIfInBounds_toArray, List.set_cons_zero, List.set_cons_succ]
  refine wpAnyH_takeD (i := 47) (d := 67) (v := ?_) rfl rfl (by kernel_rfl) (by kernel_rfl) (by kernel_rfl) (fun _ _ _ h => h) (Or.inl ⟨by rfl, ?_⟩) (by assumption) ?_
  rotate_left 1
  · intro w hSw; (try dsimp only at hSw); go_simp; (try with_reducible rfl)
  simp only [List.setIfInBounds_toArray, List.set_cons_zero, List.set_cons_succ]
  refine wpAnyH_ready (rs := [48]) (by kernel_rfl) (by simp) ?_
  refine AllReadyH.cons rfl (fun K hK => ?_) AllReadyH.nil
  go_simp
  refine (wOf (32) 16 _).mono ?_
  rintro e w25 ⟨rfl, hb⟩
  replace T := Lib.hid (T.out.to hb)
  replace X2 := Lib.hid (X2.out.to hb)
  replace X4 := Lib.hid (X4.out.to hb)
  replace B := Lib.hid (B.out.trans (hb.mono B.out.size))
  clear hb hHeld
  go_wp2_with fail
  refine hK.out _ _ (⟨X2.out.1, X2.out.2.1, X4.out.1, X4.out.2.1⟩) (fun hHeld => ?_)
  clear hK K
  refine wpAnyH_takeD (i := 49) (d := 69) (v := ?_) rfl rfl (by kernel_rfl) (by kernel_rfl) (by kernel_rfl) (fun _ _ _ h => h) (Or.inl ⟨by rfl, ?_⟩) (by assumption) ?_
  rotate_left 1
  · intro w hSw; (try dsimp only at hSw); go_simp; (try with_reducible rfl)
  simp only [List.setIfInBounds_toArray, List.set_cons_zero, List.set_cons_succ]
  refine wpAnyH_takeD (i := 50) (d := 70) (v := ?_) rfl rfl (by kernel_rfl) (by kernel_rfl) (by kernel_rfl) (fun _ _ _ h => h) (Or.inl ⟨by rfl, ?_⟩) (by assumption) ?_
  rotate_left 1
  · intro w hSw; (try dsimp only at hSw); go_simp; (try with_reducible rfl)
  simp only [List.setIfInBounds_toArray, List.set_cons_zero, List.set_cons_succ]
  refine wpAnyH_takeD (i := 51) (d := 71) (v := ?_) rfl rfl (by kernel_rfl) (by kernel_rfl) (by kernel_rfl) (fun _ _ _ h => h) (Or.inl ⟨by rfl, ?_⟩) (by assumption) ?_
  rotate_left 1
  · intro w hSw; (try dsimp only at hSw); go_simp; (try with_reducible rfl)
  simp only [List.setIfInBounds_toArray, List.set_cons_zero, List.set_cons_succ]
  refine wpAnyH_takeD (i := 52) (d := 72) (v := ?_) rfl rfl (by kernel_rfl) (by kernel_rfl) (by kernel_rfl) (fun _ _ _ h => h) (Or.inl ⟨by rfl, ?_⟩) (by assumption) ?_
  rotate_left 1
  · intro w hSw; (try dsimp only at hSw); go_simp; (try with_reducible rfl)
  simp only [List.setIfInBounds_toArray, List.set_cons_zero, List.set_cons_succ]
  refine wpAnyH_takeD (i := 53) (d := 73) (v := ?_) rfl rfl (by kernel_rfl) (by kernel_rfl) (by kernel_rfl) (fun _ _ _ h => h) (Or.inl ⟨by rfl, ?_⟩) (by assumption) ?_
  rotate_left 1
  · intro w hSw; (try dsimp only at hSw); go_simp; (try with_reducible rfl)
  simp only [List.setIfInBounds_toArray, List.set_cons_zero, List.set_cons_succ]
  refine wpAnyH_takeD (i := 54) (d := 74) (v := ?_) rfl rfl (by kernel_rfl) (by kernel_rfl) (by kernel_rfl) (fun _ _ _ h => h) (Or.inl ⟨by rfl, ?_⟩) (by assumption) ?_
  rotate_left 1
  · intro w hSw; (try dsimp only at hSw); go_simp; (try with_reducible rfl)
  simp only [List.setIfInBounds_toArray, List.set_cons_zero, List.set_cons_succ]
  refine wpAnyH_takeD (i := 55) (d := 75) (v := ?_) rfl rfl (by kernel_rfl) (by kernel_rfl) (by kernel_rfl) (fun _ _ _ h => h) (Or.inl ⟨by rfl, ?_⟩) (by assumption) ?_
  rotate_left 1
  · intro w hSw; (try dsimp only at hSw); go_simp; (try with_reducible rfl)
  simp only [List.setIfInBounds_toArray, List.set_cons_zero, List.set_cons_succ]
  refine wpAnyH_takeD (i := 56) (d := 76) (v := ?_) rfl rfl (by kernel_rfl) (by kernel_rfl) (by kernel_rfl) (fun _ _ _ h => h) (Or.inl ⟨by rfl, ?_⟩) (by assumption) ?_
  rotate_left 1
  · intro w hSw; (try dsimp only at hSw); go_simp; (try with_reducible rfl)
  simp only [List.setIfInBounds_toArray, List.set_cons_zero, List.set_cons_succ]
  refine wpAnyH_ready (rs := [57]) (by kernel_rfl) (by simp) ?_
  refine AllReadyH.cons rfl (fun K hK => ?_) AllReadyH.nil
  go_simp
  refine (wHolder _ 2 2 [(0, 16), (32, 16)] 15 _ T.out (by decide)).mono ?_
  rw [show holdR [(0, 16), (32, 16)] 15 = 0 from by decide +kernel]
  rintro e w26 ⟨rfl, hb⟩
  replace T := Lib.hid (T.out.to hb)
  replace X2 := Lib.hid (X2.out.to hb)
  replace X4 := Lib.hid (X4.out.to hb)
  replace B := Lib.hid (B.out.trans (hb.mono B.out.size))
  clear hb hHeld
  go_wp2_with fail
  refine hK.out _ _ (⟨X2.out.1, X2.out.2.1, X4.out.1, X4.out.2.1⟩) (fun hHeld => ?_)
  clear hK K
  refine wpAnyH_takeD (i := 58) (d := 78) (v := ?_) rfl rfl (by kernel_rfl) (by kernel_rfl) (by kernel_rfl) (fun _ _ _ h => h) (Or.inl ⟨by rfl, ?_⟩) (by assumption) ?_
  rotate_left 1
  · intro w hSw; (try dsimp only at hSw); go_simp; (try with_reducible rfl)
  simp only [List.setIfInBounds_toArray, List.set_cons_zero, List.set_cons_succ]
  refine wpAnyH_takeD (i := 59) (d := 79) (v := ?_) rfl rfl (by kernel_rfl) (by kernel_rfl) (by kernel_rfl) (fun _ _ _ h => h) (Or.inl ⟨by rfl, ?_⟩) (by assumption) ?_
  rotate_left 1
  · intro w hSw; (try dsimp only at hSw); go_simp; (try with_reducible rfl)
  simp only [List.setIfInBounds_toArray, List.set_cons_zero, List.set_cons_succ]
  refine wpAnyH_takeD (i := 60) (d := 80) (v := ?_) rfl rfl (by kernel_rfl) (by kernel_rfl) (by kernel_rfl) (fun _ _ _ h => h) (Or.inl ⟨by rfl, ?_⟩) (by assumption) ?_
  rotate_left 1
  · intro w hSw; (try dsimp only at hSw); go_simp; (try with_reducible rfl)
  simp only [List.setIfInBounds_toArray, List.set_cons_zero, List.set_cons_succ]
  refine wpAnyH_takeD (i := 61) (d := 81) (v := ?_) rfl rfl (by kernel_rfl) (by kernel_rfl) (by kernel_rfl) (fun _ _ _ h => h) (Or.inl ⟨by rfl, ?_⟩) (by assumption) ?_
  rotate_left 1
  · intro w hSw; (try dsimp only at hSw); go_simp; (try with_reducible rfl)
  simp only [List.setIfInBounds_toArray, List.set_cons_zero, List.set_cons_succ]
  refine wpAnyH_ready (rs := [62]) (by kernel_rfl) (by simp) ?_
  refine AllReadyH.cons rfl (fun K hK => ?_) AllReadyH.nil
  go_simp
  refine (wHolder _ 2 2 [(0, 16), (32, 16)] 16 _ T.out (by decide)).mono ?_
  rw [show holdR [(0, 16), (32, 16)] 16 = -1 from by decide +kernel]
  rintro e w27 ⟨rfl, hb⟩
  replace T := Lib.hid (T.out.to hb)
  replace X2 := Lib.hid (X2.out.to hb)
  replace X4 := Lib.hid (X4.out.to hb)
  replace B := Lib.hid (B.out.trans (hb.mono B.out.size))
  clear hb hHeld
  go_wp2_with fail
  refine hK.out _ _ (⟨X2.out.1, X2.out.2.1, X4.out.1, X4.out.2.1⟩) (fun hHeld => ?_)
  clear hK K
  refine wpAnyH_takeD (i := 63) (d := 83) (v := ?_) rfl rfl (by kernel_rfl) (by kernel_rfl) (by kernel_rfl) (fun _ _ _ h => h) (Or.inl ⟨by rfl, ?_⟩) (by assumption) ?_
  rotate_left 1
  · intro w hSw; (try dsimp only at hSw); go_simp; (try with_reducible rfl)
  simp only [List.setIfInBounds_toArray, List.set_cons_zero, List.set_cons_succ]
  refine wpAnyH_takeD (i := 64) (d := 84) (v := ?_) rfl rfl (by kernel_rfl) (by kernel_rfl) (by kernel_rfl) (fun _ _ _ h => h) (Or.inl ⟨by rfl, ?_⟩) (by assumption) ?_
  rotate_left 1
  · intro w hSw; (try dsimp only at hSw); go_simp; (try with_reducible rfl)
  simp only [List.setIfInBounds_toArray, List.set_cons_zero, List.set_cons_succ]
  refine wpAnyH_takeD (i := 65) (d := 85) (v := ?_) rfl rfl (by kernel_rfl) (by kernel_rfl) (by kernel_rfl) (fun _ _ _ h => h) (Or.inl ⟨by rfl, ?_⟩) (by assumption) ?_
  rotate_left 1
  · intro w hSw; (try dsimp only at hSw); go_simp; (try with_reducible rfl)
  simp only [List.setIfInBounds_toArray, List.set_cons_zero, List.set_cons_succ]
  refine wpAnyH_takeD (i := 66) (d := 86) (v := ?_) rfl rfl (by kernel_rfl) (by kernel_rfl) (by kernel_rfl) (fun _ _ _ h => h) (Or.inl ⟨by rfl, ?_⟩) (by assumption) ?_
  rotate_left 1
  · intro w hSw; (try dsimp only at hSw); go_simp; (try with_reducible rfl)
  simp only [List.setIfInBounds_toArray, List.set_cons_zero, List.set_cons_succ]
  refine wpAnyH_ready (rs := [67]) (by kernel_rfl) (by simp) ?_
  refine AllReadyH.cons rfl (fun K hK => ?_) AllReadyH.nil
  go_simp
  refine (wHolder _ 2 2 [(0, 16), (32, 16)] 47 _ T.out (by decide)).mono ?_
  rw [show holdR [(0, 16), (32, 16)] 47 = 1 from by decide +kernel]
  rintro e w28 ⟨rfl, hb⟩
  replace T := Lib.hid (T.out.to hb)
  replace X2 := Lib.hid (X2.out.to hb)
  replace X4 := Lib.hid (X4.out.to hb)
  replace B := Lib.hid (B.out.trans (hb.mono B.out.size))
  clear hb hHeld
  go_wp2_with fail
  refine hK.out _ _ (⟨X2.out.1, X2.out.2.1, X4.out.1, X4.out.2.1⟩) (fun hHeld => ?_)
  clear hK K
  refine wpAnyH_takeD (i := 68) (d := 88) (v := ?_) rfl rfl (by kernel_rfl) (by kernel_rfl) (by kernel_rfl) (fun _ _ _ h => h) (Or.inl ⟨by rfl, ?_⟩) (by assumption) ?_
  rotate_left 1
  · intro w hSw; (try dsimp only at hSw); go_simp; (try with_reducible rfl)
  simp only [List.setIfInBounds_toArray, List.set_cons_zero, List.set_cons_succ]
  refine wpAnyH_takeD (i := 69) (d := 89) (v := ?_) rfl rfl (by kernel_rfl) (by kernel_rfl) (by kernel_rfl) (fun _ _ _ h => h) (Or.inl ⟨by rfl, ?_⟩) (by assumption) ?_
  rotate_left 1
  · intro w hSw; (try dsimp only at hSw); go_simp; (try with_reducible rfl)
  simp only [List.setIfInBounds_toArray, List.set_cons_zero, List.set_cons_succ]
  refine wpAnyH_takeD (i := 70) (d := 0) (v := ?_) rfl rfl (by kernel_rfl) (by kernel_rfl) (by kernel_rfl) (fun _ _ _ h => h) (Or.inl ⟨by rfl, ?_⟩) (by assumption) ?_
  rotate_left 1
  · intro w hSw; (try dsimp only at hSw); go_simp; (try with_reducible rfl)
  simp only [List.setIfInBounds_toArray, List.set_cons_zero, List.set_cons_succ]
  refine wpAnyH_done (by kernel_rfl) ?_ _
  clear hHeld
  go_wp2_with fail
  go_ret
  exact ⟨rfl, B.out⟩
end Go.Proofs.Ytggnpnicmjjfbaa
