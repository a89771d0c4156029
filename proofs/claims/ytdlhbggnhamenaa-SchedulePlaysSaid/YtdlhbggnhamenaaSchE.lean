/- '==' on slots and on windows, slices of windows that are written out, and the chapter's examples, as the laws begin with them (citadellaw09.awake). -/
import Derived.Test.YtdlhbggnhamenaaSchW
import Derived.Laws.StructEq
namespace Go.Proofs.Ytdlhbggnhamenaa
open Go.RowKit
set_option linter.unusedVariables false
set_option linter.unusedSimpArgs false

theorem slot_guard : Try.prog.eqGuardType Try.prog.depth 24 = false := by kernel_rfl
theorem slot_eq (a b c d a' b' c' d' : Int) (w : World) : (Op.equalIn 10000 24 (.agg #[.int .i64 a, .int .i64 b, .int .i64 c, .int .i64 d]) (.agg #[.int .i64 a', .int .i64 b', .int .i64 c', .int .i64 d'])).run Try.prog w = .ok (decide ((a, b, c, d) = (a', b', c', d'))) w := by
  have hS : Try.prog.underlying 24 = some (.struct (Try.prog.fieldsOf 24)) := by kernel_rfl
  have hp : Try.prog.stoodInHeld 24 = false := by kernel_rfl
  have u3 := Try.underlying3
  have a3 := Try.isAgg3
  have z3 := Try.sizeOf3
  rw [show (10000 : Nat) = 9999 + 1 from rfl, run_equalIn_agg w 9999 24 _ _ hS hp]
  simp only [Program.fieldsOf, Try.underlying24]
  go_simp
  by_cases h1 : a = a' <;> by_cases h2 : b = b' <;> by_cases h3 : c = c' <;> by_cases h4 : d = d' <;> simp [h1, h2, h3, h4]
theorem win_guard : Try.prog.eqGuardType Try.prog.depth 35 = false := by kernel_rfl
theorem win_eq (a b c d : Int) (w : World) : (Op.equalIn 10000 35 (.agg #[.int .i64 a, .int .i64 b]) (.agg #[.int .i64 c, .int .i64 d])).run Try.prog w = .ok (decide ((a, b) = (c, d))) w := by
  have hS : Try.prog.underlying 35 = some (.struct (Try.prog.fieldsOf 35)) := by kernel_rfl
  have hp : Try.prog.stoodInHeld 35 = false := by kernel_rfl
  have u3 := Try.underlying3
  have a3 := Try.isAgg3
  have z3 := Try.sizeOf3
  rw [show (10000 : Nat) = 9999 + 1 from rfl, run_equalIn_agg w 9999 35 _ _ hS hp]
  simp only [Program.fieldsOf, Try.underlying35]
  go_simp
  by_cases h1 : a = c <;> by_cases h2 : b = d <;> simp [h1, h2]

theorem Win.lit1 (w : World) (r : Reg) (T : TypeId) : RdG (w.alloc (.cells #[.int .i64 r.1, .int .i64 r.2] T)) (w.alloc (.cells #[.int .i64 r.1, .int .i64 r.2] T)).heap.size (some ⟨w.heap.size, 0, none⟩) 1 [r] :=
  ⟨rfl, fun _ => ⟨_, 0, rfl, by simp, fun j hj => by obtain rfl : j = 0 := (by omega); exact ⟨by simp [rat], by simp [rat]⟩⟩⟩
theorem Win.lit2 (w : World) (r q : Reg) (T : TypeId) : RdG (w.alloc (.cells #[.int .i64 r.1, .int .i64 r.2, .int .i64 q.1, .int .i64 q.2] T)) (w.alloc (.cells #[.int .i64 r.1, .int .i64 r.2, .int .i64 q.1, .int .i64 q.2] T)).heap.size (some ⟨w.heap.size, 0, none⟩) 2 [r, q] :=
  ⟨rfl, fun _ => ⟨_, 0, rfl, by simp, fun j hj => by
    rcases j with _ | _ | j
    · exact ⟨by simp [rat], by simp [rat]⟩
    · exact ⟨by simp [rat], by simp [rat]⟩
    · omega⟩⟩
theorem Win.lit3 (w : World) (r q s : Reg) (T : TypeId) : RdG (w.alloc (.cells #[.int .i64 r.1, .int .i64 r.2, .int .i64 q.1, .int .i64 q.2, .int .i64 s.1, .int .i64 s.2] T)) (w.alloc (.cells #[.int .i64 r.1, .int .i64 r.2, .int .i64 q.1, .int .i64 q.2, .int .i64 s.1, .int .i64 s.2] T)).heap.size (some ⟨w.heap.size, 0, none⟩) 3 [r, q, s] :=
  ⟨rfl, fun _ => ⟨_, 0, rfl, by simp, fun j hj => by
    rcases j with _ | _ | _ | j
    · exact ⟨by simp [rat], by simp [rat]⟩
    · exact ⟨by simp [rat], by simp [rat]⟩
    · exact ⟨by simp [rat], by simp [rat]⟩
    · omega⟩⟩

def exW : List Reg := [(3, 1), (2, 0), (1, 2)]
theorem exW_may : mayW exW = true := by decide +kernel
theorem exW_2 : atW exW 2 = ((0, 1, 0, 1), 0) := (atW_of (i := 0) exW_may (by decide) ⟨by decide, by decide +kernel, by decide +kernel⟩).trans (by decide +kernel)
theorem exW_3 : atW exW 3 = ((1, 0, 3, 2), 0) := (atW_of (i := 1) exW_may (by decide) ⟨by decide, by decide +kernel, by decide +kernel⟩).trans (by decide +kernel)
theorem exW_5 : atW exW 5 = ((2, 2, 5, 1), 0) := (atW_of (i := 2) exW_may (by decide) ⟨by decide, by decide +kernel, by decide +kernel⟩).trans (by decide +kernel)
theorem exW_6 : atW exW 6 = ((0, 0, 0, 0), 90) := atW_out (.inr (by decide +kernel))
theorem exW_m : atW exW (-1) = ((0, 0, 0, 0), 90) := atW_out (.inl (by decide))

set_option maxRecDepth 1000000 in
set_option maxHeartbeats 4000000 in
theorem awake (w : World) : Calls Try.prog 14 #[] w fun e w' => e = .returned (.bool true) ∧ Below w.heap.size w w' := by
  have B := Lib.hid (Below.refl w.heap.size w)
  have hgd := slot_guard
  have heq := slot_eq
  have T : Hid (RdG (w.alloc (.cells #[.int .i64 3, .int .i64 1, .int .i64 2, .int .i64 0, .int .i64 1, .int .i64 2] 35)) (w.alloc (.cells #[.int .i64 3, .int .i64 1, .int .i64 2, .int .i64 0, .int .i64 1, .int .i64 2] 35)).heap.size (some ⟨w.heap.size, 0, none⟩) 3 exW) := Win.lit3 w (3, 1) (2, 0) (1, 2) 35
  replace B := Lib.hid (B.out.alloc B.out.size (.cells #[.int .i64 3, .int .i64 1, .int .i64 2, .int .i64 0, .int .i64 1, .int .i64 2] 35))
  go_enter Try.func14, Try.ntmps14
  go_wp2_with fail
  generalize w.alloc (.cells #[.int .i64 3, .int .i64 1, .int .i64 2, .int .i64 0, .int .i64 1, .int .i64 2] 35) = wa at *
  refine (Sch.stand _ 3 3 exW 2 wa T.out (by decide)).mono ?_
  rw [exW_2]
  rintro e w1 ⟨rfl, hb⟩
  replace T := Lib.hid (T.out.to hb)
  replace B := Lib.hid (B.out.trans (hb.mono B.out.size))
  clear hb
  unfold slotV
  dsimp only
  go_wp2_with fail
  replace T := Lib.hid (T.out.to ((Below.refl _ _).alloc (Nat.le_refl _) (.cells #[.int .i64 0, .int .i64 1, .int .i64 0, .int .i64 1] 24)))
  have X1 : Hid (Blk 24 (w1.alloc (.cells #[.int .i64 0, .int .i64 1, .int .i64 0, .int .i64 1] 24)) w1.heap.size [0, 1, 0, 1]) := Blk.new 24 w1 [0, 1, 0, 1]
  replace B := Lib.hid (B.out.alloc B.out.size (.cells #[.int .i64 0, .int .i64 1, .int .i64 0, .int .i64 1] 24))
  generalize w1.alloc (.cells #[.int .i64 0, .int .i64 1, .int .i64 0, .int .i64 1] 24) = wb1 at *
  generalize w1.heap.size = g1 at *
  refine (Sch.stand _ 3 3 exW 3 wb1 T.out (by decide)).mono ?_
  rw [exW_3]
  rintro e w2 ⟨rfl, hb⟩
  replace T := Lib.hid (T.out.to hb)
  replace X1 := Lib.hid (X1.out.to hb)
  replace B := Lib.hid (B.out.trans (hb.mono B.out.size))
  clear hb
  unfold slotV
  dsimp only
  go_wp2_with fail
  replace T := Lib.hid (T.out.to ((Below.refl _ _).alloc (Nat.le_refl _) (.cells #[.int .i64 1, .int .i64 0, .int .i64 3, .int .i64 2] 24)))
  replace X1 := Lib.hid (X1.out.to ((Below.refl _ _).alloc (Nat.le_refl _) (.cells #[.int .i64 1, .int .i64 0, .int .i64 3, .int .i64 2] 24)))
  have X2 : Hid (Blk 24 (w2.alloc (.cells #[.int .i64 1, .int .i64 0, .int .i64 3, .int .i64 2] 24)) w2.heap.size [1, 0, 3, 2]) := Blk.new 24 w2 [1, 0, 3, 2]
  replace B := Lib.hid (B.out.alloc B.out.size (.cells #[.int .i64 1, .int .i64 0, .int .i64 3, .int .i64 2] 24))
  generalize w2.alloc (.cells #[.int .i64 1, .int .i64 0, .int .i64 3, .int .i64 2] 24) = wb2 at *
  generalize w2.heap.size = g2 at *
  refine (Sch.stand _ 3 3 exW 5 wb2 T.out (by decide)).mono ?_
  rw [exW_5]
  rintro e w3 ⟨rfl, hb⟩
  replace T := Lib.hid (T.out.to hb)
  replace X1 := Lib.hid (X1.out.to hb)
  replace X2 := Lib.hid (X2.out.to hb)
  replace B := Lib.hid (B.out.trans (hb.mono B.out.size))
  clear hb
  unfold slotV
  dsimp only
  go_wp2_with fail
  replace T := Lib.hid (T.out.to ((Below.refl _ _).alloc (Nat.le_refl _) (.cells #[.int .i64 2, .int .i64 2, .int .i64 5, .int .i64 1] 24)))
  replace X1 := Lib.hid (X1.out.to ((Below.refl _ _).alloc (Nat.le_refl _) (.cells #[.int .i64 2, .int .i64 2, .int .i64 5, .int .i64 1] 24)))
  replace X2 := Lib.hid (X2.out.to ((Below.refl _ _).alloc (Nat.le_refl _) (.cells #[.int .i64 2, .int .i64 2, .int .i64 5, .int .i64 1] 24)))
  have X3 : Hid (Blk 24 (w3.alloc (.cells #[.int .i64 2, .int .i64 2, .int .i64 5, .int .i64 1] 24)) w3.heap.size [2, 2, 5, 1]) := Blk.new 24 w3 [2, 2, 5, 1]
  replace B := Lib.hid (B.out.alloc B.out.size (.cells #[.int .i64 2, .int .i64 2, .int .i64 5, .int .i64 1] 24))
  generalize w3.alloc (.cells #[.int .i64 2, .int .i64 2, .int .i64 5, .int .i64 1] 24) = wb3 at *
  generalize w3.heap.size = g3 at *
  refine (Sch.stand _ 3 3 exW 6 wb3 T.out (by decide)).mono ?_
  rw [exW_6]
  rintro e w4 ⟨rfl, hb⟩
  replace T := Lib.hid (T.out.to hb)
  replace X1 := Lib.hid (X1.out.to hb)
  replace X2 := Lib.hid (X2.out.to hb)
  replace X3 := Lib.hid (X3.out.to hb)
  replace B := Lib.hid (B.out.trans (hb.mono B.out.size))
  clear hb
  unfold slotV
  dsimp only
  go_wp2_with fail
  replace T := Lib.hid (T.out.to ((Below.refl _ _).alloc (Nat.le_refl _) (.cells #[.int .i64 0, .int .i64 0, .int .i64 0, .int .i64 0] 24)))
  replace X1 := Lib.hid (X1.out.to ((Below.refl _ _).alloc (Nat.le_refl _) (.cells #[.int .i64 0, .int .i64 0, .int .i64 0, .int .i64 0] 24)))
  replace X2 := Lib.hid (X2.out.to ((Below.refl _ _).alloc (Nat.le_refl _) (.cells #[.int .i64 0, .int .i64 0, .int .i64 0, .int .i64 0] 24)))
  replace X3 := Lib.hid (X3.out.to ((Below.refl _ _).alloc (Nat.le_refl _) (.cells #[.int .i64 0, .int .i64 0, .int .i64 0, .int .i64 0] 24)))
  replace B := Lib.hid (B.out.alloc B.out.size (.cells #[.int .i64 0, .int .i64 0, .int .i64 0, .int .i64 0] 24))
  generalize w4.alloc (.cells #[.int .i64 0, .int .i64 0, .int .i64 0, .int .i64 0] 24) = wb4 at *
  generalize w4.heap.size = g4 at *
  refine (Sch.stand _ 3 3 exW (-1) wb4 T.out (by decide)).mono ?_
  rw [exW_m]
  rintro e w5 ⟨rfl, hb⟩
  replace T := Lib.hid (T.out.to hb)
  replace X1 := Lib.hid (X1.out.to hb)
  replace X2 := Lib.hid (X2.out.to hb)
  replace X3 := Lib.hid (X3.out.to hb)
  replace B := Lib.hid (B.out.trans (hb.mono B.out.size))
  clear hb
  unfold slotV
  dsimp only
  go_wp2_with fail
  replace T := Lib.hid (T.out.to ((Below.refl _ _).alloc (Nat.le_refl _) (.cells #[.int .i64 0, .int .i64 0, .int .i64 0, .int .i64 0] 24)))
  replace X1 := Lib.hid (X1.out.to ((Below.refl _ _).alloc (Nat.le_refl _) (.cells #[.int .i64 0, .int .i64 0, .int .i64 0, .int .i64 0] 24)))
  replace X2 := Lib.hid (X2.out.to ((Below.refl _ _).alloc (Nat.le_refl _) (.cells #[.int .i64 0, .int .i64 0, .int .i64 0, .int .i64 0] 24)))
  replace X3 := Lib.hid (X3.out.to ((Below.refl _ _).alloc (Nat.le_refl _) (.cells #[.int .i64 0, .int .i64 0, .int .i64 0, .int .i64 0] 24)))
  replace B := Lib.hid (B.out.alloc B.out.size (.cells #[.int .i64 0, .int .i64 0, .int .i64 0, .int .i64 0] 24))
  generalize w5.alloc (.cells #[.int .i64 0, .int .i64 0, .int .i64 0, .int .i64 0] 24) = wb5 at *
  generalize w5.heap.size = g5 at *
  refine (Sch.frame _ 3 3 exW _ T.out (by decide)).mono ?_
  rw [show frameW exW = 6 from by decide +kernel]
  rintro e w6 ⟨rfl, hb⟩
  replace T := Lib.hid (T.out.to hb)
  replace X1 := Lib.hid (X1.out.to hb)
  replace X2 := Lib.hid (X2.out.to hb)
  replace X3 := Lib.hid (X3.out.to hb)
  replace B := Lib.hid (B.out.trans (hb.mono B.out.size))
  clear hb
  go_wp2_with fail
  refine (Sch.ticks _ 3 3 exW 1 _ T.out (by decide)).mono ?_
  rw [show ticksW exW 1 = 3 from by decide +kernel]
  rintro e w7 ⟨rfl, hb⟩
  replace T := Lib.hid (T.out.to hb)
  replace X1 := Lib.hid (X1.out.to hb)
  replace X2 := Lib.hid (X2.out.to hb)
  replace X3 := Lib.hid (X3.out.to hb)
  replace B := Lib.hid (B.out.trans (hb.mono B.out.size))
  clear hb
  go_wp2_with fail
  refine (Sch.ticks _ 3 3 exW 0 _ T.out (by decide)).mono ?_
  rw [show ticksW exW 0 = 2 from by decide +kernel]
  rintro e w8 ⟨rfl, hb⟩
  replace T := Lib.hid (T.out.to hb)
  replace X1 := Lib.hid (X1.out.to hb)
  replace X2 := Lib.hid (X2.out.to hb)
  replace X3 := Lib.hid (X3.out.to hb)
  replace B := Lib.hid (B.out.trans (hb.mono B.out.size))
  clear hb
  go_wp2_with fail
  refine (Sch.ticks _ 3 3 exW 2 _ T.out (by decide)).mono ?_
  rw [show ticksW exW 2 = 1 from by decide +kernel]
  rintro e w9 ⟨rfl, hb⟩
  replace T := Lib.hid (T.out.to hb)
  replace X1 := Lib.hid (X1.out.to hb)
  replace X2 := Lib.hid (X2.out.to hb)
  replace X3 := Lib.hid (X3.out.to hb)
  replace B := Lib.hid (B.out.trans (hb.mono B.out.size))
  clear hb
  go_wp2_with fail
  refine (Sch.ticks _ 3 3 exW 3 _ T.out (by decide)).mono ?_
  rw [show ticksW exW 3 = 0 from by decide +kernel]
  rintro e w10 ⟨rfl, hb⟩
  replace T := Lib.hid (T.out.to hb)
  replace X1 := Lib.hid (X1.out.to hb)
  replace X2 := Lib.hid (X2.out.to hb)
  replace X3 := Lib.hid (X3.out.to hb)
  replace B := Lib.hid (B.out.trans (hb.mono B.out.size))
  clear hb
  go_wp2_with fail
  refine (Sch.may none 0 0 [] _ (RdG.nil _ _ _) (by decide)).mono ?_
  rw [show mayW [] = false from by decide +kernel]
  rintro e w11 ⟨rfl, hb⟩
  replace T := Lib.hid (T.out.to hb)
  replace X1 := Lib.hid (X1.out.to hb)
  replace X2 := Lib.hid (X2.out.to hb)
  replace X3 := Lib.hid (X3.out.to hb)
  replace B := Lib.hid (B.out.trans (hb.mono B.out.size))
  clear hb
  go_wp2_with fail
  clear T
  replace X1 := Lib.hid (X1.out.to ((Below.refl _ _).alloc (Nat.le_refl _) (.cells #[.int .i64 64, .int .i64 0, .int .i64 1, .int .i64 0] 35)))
  replace X2 := Lib.hid (X2.out.to ((Below.refl _ _).alloc (Nat.le_refl _) (.cells #[.int .i64 64, .int .i64 0, .int .i64 1, .int .i64 0] 35)))
  replace X3 := Lib.hid (X3.out.to ((Below.refl _ _).alloc (Nat.le_refl _) (.cells #[.int .i64 64, .int .i64 0, .int .i64 1, .int .i64 0] 35)))
  have O1 : Hid (RdG (w11.alloc (.cells #[.int .i64 64, .int .i64 0, .int .i64 1, .int .i64 0] 35)) (w11.alloc (.cells #[.int .i64 64, .int .i64 0, .int .i64 1, .int .i64 0] 35)).heap.size (some ⟨w11.heap.size, 0, none⟩) 2 [(64, 0), (1, 0)]) := Win.lit2 w11 (64, 0) (1, 0) 35
  replace B := Lib.hid (B.out.alloc B.out.size (.cells #[.int .i64 64, .int .i64 0, .int .i64 1, .int .i64 0] 35))
  refine (Sch.may _ 2 2 [(64, 0), (1, 0)] _ O1.out (by decide)).mono ?_
  rw [show mayW [(64, 0), (1, 0)] = false from by decide +kernel]
  clear O1
  generalize w11.alloc (.cells #[.int .i64 64, .int .i64 0, .int .i64 1, .int .i64 0] 35) = wc12 at *
  rintro e w12 ⟨rfl, hb⟩
  replace X1 := Lib.hid (X1.out.to hb)
  replace X2 := Lib.hid (X2.out.to hb)
  replace X3 := Lib.hid (X3.out.to hb)
  replace B := Lib.hid (B.out.trans (hb.mono B.out.size))
  clear hb
  go_wp2_with fail
  replace X1 := Lib.hid (X1.out.to ((Below.refl _ _).alloc (Nat.le_refl _) (.cells #[.int .i64 0, .int .i64 0] 35)))
  replace X2 := Lib.hid (X2.out.to ((Below.refl _ _).alloc (Nat.le_refl _) (.cells #[.int .i64 0, .int .i64 0] 35)))
  replace X3 := Lib.hid (X3.out.to ((Below.refl _ _).alloc (Nat.le_refl _) (.cells #[.int .i64 0, .int .i64 0] 35)))
  have O2 : Hid (RdG (w12.alloc (.cells #[.int .i64 0, .int .i64 0] 35)) (w12.alloc (.cells #[.int .i64 0, .int .i64 0] 35)).heap.size (some ⟨w12.heap.size, 0, none⟩) 1 [(0, 0)]) := Win.lit1 w12 (0, 0) 35
  replace B := Lib.hid (B.out.alloc B.out.size (.cells #[.int .i64 0, .int .i64 0] 35))
  refine (Sch.may _ 1 1 [(0, 0)] _ O2.out (by decide)).mono ?_
  rw [show mayW [(0, 0)] = false from by decide +kernel]
  clear O2
  generalize w12.alloc (.cells #[.int .i64 0, .int .i64 0] 35) = wc13 at *
  rintro e w13 ⟨rfl, hb⟩
  replace X1 := Lib.hid (X1.out.to hb)
  replace X2 := Lib.hid (X2.out.to hb)
  replace X3 := Lib.hid (X3.out.to hb)
  replace B := Lib.hid (B.out.trans (hb.mono B.out.size))
  clear hb
  go_wp2_with fail
  replace X1 := Lib.hid (X1.out.to ((Below.refl _ _).alloc (Nat.le_refl _) (.cells #[.int .i64 64, .int .i64 0] 35)))
  replace X2 := Lib.hid (X2.out.to ((Below.refl _ _).alloc (Nat.le_refl _) (.cells #[.int .i64 64, .int .i64 0] 35)))
  replace X3 := Lib.hid (X3.out.to ((Below.refl _ _).alloc (Nat.le_refl _) (.cells #[.int .i64 64, .int .i64 0] 35)))
  have O3 : Hid (RdG (w13.alloc (.cells #[.int .i64 64, .int .i64 0] 35)) (w13.alloc (.cells #[.int .i64 64, .int .i64 0] 35)).heap.size (some ⟨w13.heap.size, 0, none⟩) 1 [(64, 0)]) := Win.lit1 w13 (64, 0) 35
  replace B := Lib.hid (B.out.alloc B.out.size (.cells #[.int .i64 64, .int .i64 0] 35))
  refine (Sch.may _ 1 1 [(64, 0)] _ O3.out (by decide)).mono ?_
  rw [show mayW [(64, 0)] = true from by decide +kernel]
  clear O3
  generalize w13.alloc (.cells #[.int .i64 64, .int .i64 0] 35) = wc14 at *
  rintro e w14 ⟨rfl, hb⟩
  replace X1 := Lib.hid (X1.out.to hb)
  replace X2 := Lib.hid (X2.out.to hb)
  replace X3 := Lib.hid (X3.out.to hb)
  replace B := Lib.hid (B.out.trans (hb.mono B.out.size))
  clear hb
  have c00 := X1.out.at 0 rfl
  have c01 := X1.out.at 1 rfl
  have c02 := X1.out.at 2 rfl
  have c03 := X1.out.at 3 rfl
  have c10 := X2.out.at 0 rfl
  have c11 := X2.out.at 1 rfl
  have c12 := X2.out.at 2 rfl
  have c13 := X2.out.at 3 rfl
  have c20 := X3.out.at 0 rfl
  have c21 := X3.out.at 1 rfl
  have c22 := X3.out.at 2 rfl
  have c23 := X3.out.at 3 rfl
  go_wp2_with fail
  go_ret
  exact ⟨rfl, B.out⟩
end Go.Proofs.Ytdlhbggnhamenaa
