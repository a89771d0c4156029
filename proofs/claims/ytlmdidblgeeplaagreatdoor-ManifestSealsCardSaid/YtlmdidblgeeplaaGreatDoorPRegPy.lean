/- Several texts in one (a claim has 60 files at most): RegP. -/
import Derived.Test.YtlmdidblgeeplaaGreatDoorTz
import Derived.Test.YtlmdidblgeeplaaGreatDoorPChPx
import Derived.Deep.RegionHeld
namespace Go.Proofs.YtlmdidblgeeplaaGreatDoor
set_option maxRecDepth 1000000
set_option maxHeartbeats 8000000
set_option linter.unusedVariables false
set_option linter.unusedSimpArgs false
section
open Go.RowKit
theorem tmod4 (x : Int) : x.tmod 4 = 0 ↔ x % 4 = 0 := by
 rw [← Int.dvd_iff_tmod_eq_zero, ← Int.dvd_iff_emod_eq_zero]
theorem wMayR (b s : Int) (w : World) :
  Calls Tryz.prog 194 #[.agg #[.int .i64 b, .int .i64 s]] w fun e w' => e = .returned (.bool (mayR (b, s))) ∧ Below w.heap.size w w' := by
 go_enter Tryz.func194, Tryz.ntmps194
 go_wp2
 all_goals (go_ret; refine ⟨ret_bool ?_, (Below.refl _ _).alloc (Nat.le_refl _) _⟩; rw [Bool.eq_iff_iff, mayR_iff]; simp only [bne_iff_ne, ne_eq, bne_eq_false_iff_eq, decide_eq_true_eq, tmod4, Bool.false_eq_true, false_iff] at *; omega)
def Box (w : World) (g : Nat) (b s : Int) : Prop := w.cell? ⟨g, 0, none⟩ = some (.int .i64 b) ∧ w.cell? ⟨g, 1, none⟩ = some (.int .i64 s) ∧ g < w.heap.size
theorem Box.new (w : World) (b s : Int) : Box (w.alloc (.cells #[.int .i64 b, .int .i64 s] 56)) w.heap.size b s := ⟨by simp, by simp, by simp⟩
theorem Box.to {w w' : World} {g : Nat} {b s : Int} (h : Box w g b s) (hb : Below w.heap.size w w') : Box w' g b s :=
 ⟨(hb.cell h.2.2).trans h.1, (hb.cell h.2.2).trans h.2.1, Nat.lt_of_lt_of_le h.2.2 hb.size⟩
theorem wEnd (b s : Int) (w : World) :
  Calls Tryz.prog 223 #[.agg #[.int .i64 b, .int .i64 s]] w fun e w' => e = .returned (.int .i64 (endR (b, s))) ∧ Below w.heap.size w w' := by
 have BX := qH (Box.new w b s)
 have B := qH ((Below.refl w.heap.size w).alloc (Nat.le_refl _) (.cells #[.int .i64 b, .int .i64 s] 56))
 go_enter Tryz.func223, Tryz.ntmps223
 go_wp2_with fail
 refine (wMayR b s _).mono ?_
 rintro e w1 ⟨rfl, hb⟩
 replace BX := qH (BX.out.to hb)
 replace B := qH (B.out.trans (hb.mono B.out.size))
 clear hb
 obtain ⟨c0, c1, _⟩ := BX.out
 cases hm : mayR (b, s)
 ·have HE : Hid (endR (b, s) = 0) := if_neg (by rw [hm]; decide)
  clear hm
  go_wp2_with fail
  go_ret
  exact ⟨by rw [HE.out]; rfl, B.out⟩
 ·have HE : Hid (endR (b, s) = b + s) := endR_may hm
  have hm' := mayR_iff.1 hm
  have hw : IntKind.i64.wrap (b + s) = b + s := by
   rw [IntKind.wrap_i64]; omega
  clear hm hm'
  go_wp2_with fail
  go_ret
  exact ⟨by rw [HE.out]; rfl, B.out⟩
theorem wApart (b s c r : Int) (w : World) :
  Calls Tryz.prog 213 #[.agg #[.int .i64 b, .int .i64 s], .agg #[.int .i64 c, .int .i64 r]] w fun e w' => e = .returned (.bool (apartR (b, s) (c, r))) ∧ Below w.heap.size w w' := by
 have BX := qH ((Box.new w b s).to ((Below.refl _ _).alloc (Nat.le_refl _) (.cells #[.int .i64 c, .int .i64 r] 56)))
 have BY := qH (Box.new (w.alloc (.cells #[.int .i64 b, .int .i64 s] 56)) c r)
 have B := qH (((Below.refl w.heap.size w).alloc (Nat.le_refl _) (.cells #[.int .i64 b, .int .i64 s] 56)).alloc (by simp) (.cells #[.int .i64 c, .int .i64 r] 56))
 rw [World.size_alloc] at BY
 go_enter Tryz.func213, Tryz.ntmps213
 go_wp2_with fail
 generalize (w.alloc (.cells #[.int .i64 b, .int .i64 s] 56)).alloc (.cells #[.int .i64 c, .int .i64 r] 56) = wb at *
 obtain ⟨g, hg⟩ : ∃ g, w.heap.size = g := ⟨_, rfl⟩
 rw [hg] at BX BY ⊢
 have HG := qH hg
 clear hg
 replace BX : Hid (Box wb.drew g b s) := BX.out
 replace BY : Hid (Box wb.drew (g + 1) c r) := BY.out
 replace B := qH B.out.drew
 refine wp_region_held_drew (S := (fun w' => w'.cell? ⟨g, 0, none⟩ = some (.int .i64 b) ∧ w'.cell? ⟨g, 1, none⟩ = some (.int .i64 s) ∧ w'.cell? ⟨g + 1, 0, none⟩ = some (.int .i64 c) ∧ w'.cell? ⟨g + 1, 1, none⟩ = some (.int .i64 r))) (by kernel_rfl) (⟨BX.out.1, BX.out.2.1, BY.out.1, BY.out.2.1⟩) (fun hHeld => ?_)
 generalize wb.drew = wd at *
 cases h1 : mayR (b, s)
 ·have H1 := qH h1
  have HF : Hid (apartR (b, s) (c, r) = false) := by show _ = _; unfold apartR; rw [h1]; rfl
  clear h1
  refine tk 0 ?_
  simp only [pR]
  refine rd1 1 (fun K hK => ?_)
  go_simp
  refine (wMayR b s _).mono ?_
  rw [H1.out]
  rintro e w1 ⟨rfl, hb⟩
  replace BX := qH (BX.out.to hb)
  replace BY := qH (BY.out.to hb)
  replace B := qH (B.out.trans (hb.mono B.out.size))
  clear hb
  go_wp2_with fail
  refine hK.out _ _ (⟨BX.out.1, BX.out.2.1, BY.out.1, BY.out.2.1⟩) (fun hHeld => ?_)
  clear hK K
  refine tk 2 ?_
  simp only [pR]
  refine sk 3 ?_
  simp only [pR]
  refine sk 4 ?_
  simp only [pR]
  refine tk 5 ?_
  simp only [pR]
  refine tk 6 ?_
  simp only [pR]
  refine sk 7 ?_
  simp only [pR]
  refine sk 8 ?_
  simp only [pR]
  refine sk 9 ?_
  simp only [pR]
  refine sk 10 ?_
  simp only [pR]
  refine sk 11 ?_
  simp only [pR]
  refine sk 12 ?_
  simp only [pR]
  refine sk 13 ?_
  simp only [pR]
  refine sk 14 ?_
  simp only [pR]
  refine sk 15 ?_
  simp only [pR]
  refine sk 16 ?_
  simp only [pR]
  refine sk 17 ?_
  simp only [pR]
  refine sk 18 ?_
  simp only [pR]
  refine tk 19 ?_
  simp only [pR]
  refine tk 20 ?_
  simp only [pR]
  refine wpAnyH_done (by kernel_rfl) ?_ _
  clear hHeld
  go_wp2_with fail
  go_ret
  exact ⟨by rw [HF.out]; rfl, B.out⟩
 have H1 := qH h1
 clear h1
 cases h2 : mayR (c, r)
 ·have H2 := qH h2
  have HF : Hid (apartR (b, s) (c, r) = false) := by show _ = _; unfold apartR; rw [h2]; simp
  clear h2
  refine tk 0 ?_
  simp only [pR]
  refine rd1 1 (fun K hK => ?_)
  go_simp
  refine (wMayR b s _).mono ?_
  rw [H1.out]
  rintro e w1 ⟨rfl, hb⟩
  replace BX := qH (BX.out.to hb)
  replace BY := qH (BY.out.to hb)
  replace B := qH (B.out.trans (hb.mono B.out.size))
  clear hb
  go_wp2_with fail
  refine hK.out _ _ (⟨BX.out.1, BX.out.2.1, BY.out.1, BY.out.2.1⟩) (fun hHeld => ?_)
  clear hK K
  refine tk 2 ?_
  simp only [pR]
  refine tk 3 ?_
  simp only [pR]
  refine rd1 4 (fun K hK => ?_)
  go_simp
  refine (wMayR c r _).mono ?_
  rw [H2.out]
  rintro e w1 ⟨rfl, hb⟩
  replace BX := qH (BX.out.to hb)
  replace BY := qH (BY.out.to hb)
  replace B := qH (B.out.trans (hb.mono B.out.size))
  clear hb
  go_wp2_with fail
  refine hK.out _ _ (⟨BX.out.1, BX.out.2.1, BY.out.1, BY.out.2.1⟩) (fun hHeld => ?_)
  clear hK K
  refine tk 5 ?_
  simp only [pR]
  refine tk 6 ?_
  simp only [pR]
  refine sk 7 ?_
  simp only [pR]
  refine sk 8 ?_
  simp only [pR]
  refine sk 9 ?_
  simp only [pR]
  refine sk 10 ?_
  simp only [pR]
  refine sk 11 ?_
  simp only [pR]
  refine sk 12 ?_
  simp only [pR]
  refine sk 13 ?_
  simp only [pR]
  refine sk 14 ?_
  simp only [pR]
  refine sk 15 ?_
  simp only [pR]
  refine sk 16 ?_
  simp only [pR]
  refine sk 17 ?_
  simp only [pR]
  refine sk 18 ?_
  simp only [pR]
  refine tk 19 ?_
  simp only [pR]
  refine tk 20 ?_
  simp only [pR]
  refine wpAnyH_done (by kernel_rfl) ?_ _
  clear hHeld
  go_wp2_with fail
  go_ret
  exact ⟨by rw [HF.out]; rfl, B.out⟩
 have H2 := qH h2
 clear h2
 have HE1 : Hid (endR (b, s) = b + s) := endR_may H1.out
 have HE2 : Hid (endR (c, r) = c + r) := endR_may H2.out
 by_cases h3 : b + s ≤ c
 ·have hd := decide_eq_true h3
  have HF : Hid (apartR (b, s) (c, r) = true) := apartR_iff.2 ⟨H1.out, H2.out, .inl h3⟩
  clear h3
  refine tk 0 ?_
  simp only [pR]
  refine rd1 1 (fun K hK => ?_)
  go_simp
  refine (wMayR b s _).mono ?_
  rw [H1.out]
  rintro e w1 ⟨rfl, hb⟩
  replace BX := qH (BX.out.to hb)
  replace BY := qH (BY.out.to hb)
  replace B := qH (B.out.trans (hb.mono B.out.size))
  clear hb
  go_wp2_with fail
  refine hK.out _ _ (⟨BX.out.1, BX.out.2.1, BY.out.1, BY.out.2.1⟩) (fun hHeld => ?_)
  clear hK K
  refine tk 2 ?_
  simp only [pR]
  refine tk 3 ?_
  simp only [pR]
  refine rd1 4 (fun K hK => ?_)
  go_simp
  refine (wMayR c r _).mono ?_
  rw [H2.out]
  rintro e w1 ⟨rfl, hb⟩
  replace BX := qH (BX.out.to hb)
  replace BY := qH (BY.out.to hb)
  replace B := qH (B.out.trans (hb.mono B.out.size))
  clear hb
  go_wp2_with fail
  refine hK.out _ _ (⟨BX.out.1, BX.out.2.1, BY.out.1, BY.out.2.1⟩) (fun hHeld => ?_)
  clear hK K
  refine tk 5 ?_
  simp only [pR]
  refine tk 6 ?_
  simp only [pR]
  refine tk 7 ?_
  simp only [pR]
  refine tk 9 ?_
  simp only [pR]
  refine tk 10 ?_
  simp only [pR]
  refine rd1 8 (fun K hK => ?_)
  go_simp
  refine (wEnd b s _).mono ?_
  rw [HE1.out]
  rintro e w1 ⟨rfl, hb⟩
  replace BX := qH (BX.out.to hb)
  replace BY := qH (BY.out.to hb)
  replace B := qH (B.out.trans (hb.mono B.out.size))
  clear hb
  go_wp2_with fail
  refine hK.out _ _ (⟨BX.out.1, BX.out.2.1, BY.out.1, BY.out.2.1⟩) (fun hHeld => ?_)
  clear hK K
  refine tk 11 ?_
  simp only [pR]
  refine tk 12 ?_
  simp only [pR]
  refine sk 13 ?_
  simp only [pR]
  refine sk 14 ?_
  simp only [pR]
  refine sk 15 ?_
  simp only [pR]
  refine sk 16 ?_
  simp only [pR]
  refine sk 17 ?_
  simp only [pR]
  refine tk 18 ?_
  simp only [pR]
  refine tk 19 ?_
  simp only [pR]
  refine tk 20 ?_
  simp only [pR]
  refine wpAnyH_done (by kernel_rfl) ?_ _
  clear hHeld
  go_wp2_with fail
  go_ret
  exact ⟨by rw [HF.out]; rfl, B.out⟩
 ·have hd := decide_eq_false h3
  have HF : Hid (decide (c + r ≤ b) = apartR (b, s) (c, r)) := by
   show _ = _
   unfold apartR
   rw [H1.out, H2.out, hd]; simp
  clear h3
  refine tk 0 ?_
  simp only [pR]
  refine rd1 1 (fun K hK => ?_)
  go_simp
  refine (wMayR b s _).mono ?_
  rw [H1.out]
  rintro e w1 ⟨rfl, hb⟩
  replace BX := qH (BX.out.to hb)
  replace BY := qH (BY.out.to hb)
  replace B := qH (B.out.trans (hb.mono B.out.size))
  clear hb
  go_wp2_with fail
  refine hK.out _ _ (⟨BX.out.1, BX.out.2.1, BY.out.1, BY.out.2.1⟩) (fun hHeld => ?_)
  clear hK K
  refine tk 2 ?_
  simp only [pR]
  refine tk 3 ?_
  simp only [pR]
  refine rd1 4 (fun K hK => ?_)
  go_simp
  refine (wMayR c r _).mono ?_
  rw [H2.out]
  rintro e w1 ⟨rfl, hb⟩
  replace BX := qH (BX.out.to hb)
  replace BY := qH (BY.out.to hb)
  replace B := qH (B.out.trans (hb.mono B.out.size))
  clear hb
  go_wp2_with fail
  refine hK.out _ _ (⟨BX.out.1, BX.out.2.1, BY.out.1, BY.out.2.1⟩) (fun hHeld => ?_)
  clear hK K
  refine tk 5 ?_
  simp only [pR]
  refine tk 6 ?_
  simp only [pR]
  refine tk 7 ?_
  simp only [pR]
  refine tk 9 ?_
  simp only [pR]
  refine tk 10 ?_
  simp only [pR]
  refine rd1 8 (fun K hK => ?_)
  go_simp
  refine (wEnd b s _).mono ?_
  rw [HE1.out]
  rintro e w1 ⟨rfl, hb⟩
  replace BX := qH (BX.out.to hb)
  replace BY := qH (BY.out.to hb)
  replace B := qH (B.out.trans (hb.mono B.out.size))
  clear hb
  go_wp2_with fail
  refine hK.out _ _ (⟨BX.out.1, BX.out.2.1, BY.out.1, BY.out.2.1⟩) (fun hHeld => ?_)
  clear hK K
  refine tk 11 ?_
  simp only [pR]
  refine tk 12 ?_
  simp only [pR]
  refine tk 13 ?_
  simp only [pR]
  refine tk 15 ?_
  simp only [pR]
  refine tk 16 ?_
  simp only [pR]
  refine rd1 14 (fun K hK => ?_)
  go_simp
  refine (wEnd c r _).mono ?_
  rw [HE2.out]
  rintro e w1 ⟨rfl, hb⟩
  replace BX := qH (BX.out.to hb)
  replace BY := qH (BY.out.to hb)
  replace B := qH (B.out.trans (hb.mono B.out.size))
  clear hb
  go_wp2_with fail
  refine hK.out _ _ (⟨BX.out.1, BX.out.2.1, BY.out.1, BY.out.2.1⟩) (fun hHeld => ?_)
  clear hK K
  refine tk 17 ?_
  simp only [pR]
  refine tk 18 ?_
  simp only [pR]
  refine tk 19 ?_
  simp only [pR]
  refine tk 20 ?_
  simp only [pR]
  refine wpAnyH_done (by kernel_rfl) ?_ _
  clear hHeld
  go_wp2_with fail
  go_ret
  exact ⟨ret_bool HF.out, B.out⟩
end
end Go.Proofs.YtlmdidblgeeplaaGreatDoor