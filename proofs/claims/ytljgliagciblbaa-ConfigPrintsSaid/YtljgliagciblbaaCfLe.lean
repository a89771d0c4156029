/- The laws' own helpers of layer 11: awake. -/
import Derived.Test.YtljgliagciblbaaCfLd
import Derived.Test.YtljgliagciblbaaCJ
import Derived.Test.YtljgliagciblbaaCM
import Derived.Test.YtljgliagciblbaaCD
namespace Go.Proofs.Ytljgliagciblbaa
open Go.RowKit
set_option linter.unusedVariables false
set_option linter.unusedSimpArgs false

theorem okC_ex : okC (formC exC) = true ∧ gotC (formC exC) = exC := okC_form exC_can exC_in
theorem out_ex : cfOut (formC exC) = exC ∧ cfErr (formC exC) = 0 := by
  have h := okC_ex
  rw [(cfOut_yes h.1).1, (cfOut_yes h.1).2]
  exact ⟨h.2, rfl⟩
theorem out_more : cfOut (formC exC ++ [0]) = noC ∧ cfErr (formC exC ++ [0]) = 110 := cfOut_no (okC_more exC_can exC_in 0)
theorem out_cut : cfOut ((formC exC).take 70) = noC ∧ cfErr ((formC exC).take 70) = 110 := cfOut_no (okC_cut exC_can exC_in (by rw [exC_len]; decide))
theorem pr_ex : prB exC = formC exC ∧ prE exC = 0 := pr_yes exC_can
theorem pr_nil : prB noC = formC noC ∧ prE noC = 0 := pr_yes noC_can
set_option maxRecDepth 1000000 in
set_option maxHeartbeats 4000000 in
theorem lAwake (w : World) : Calls Try.prog 15 #[] w fun x w' => x = .returned (.bool true) ∧ Below w.heap.size w w' := by
  go_enter Try.func15, Try.ntmps15
  go_wp2_with fail
  refine (wPrint noV noC w (rdCf_nil _ _) (by decide)).mono ?_
  rintro e w1 ⟨A0, n0, k0, rfl, ho, hk1, hk2, hb⟩
  rw [pr_nil.2]
  rw [pr_nil.1] at ho
  obtain rfl : n0 = 24 := by rw [← ho.1.1, noC_len]
  have O0 := Lib.hid ho
  have B1 := Lib.hid hb
  clear ho hk1 hk2 hb
  go_wp2_with fail
  refine (lShown w1).mono ?_
  rintro e w2 ⟨v1, rfl, hr, hn1, hn2, hn3, hb⟩
  have R1 := Lib.hid hr
  have N1 : Hid (v1.np ≤ 1000) := by (show _ ≤ _); omega
  replace O0 := Lib.hid (O0.out.to hb)
  replace B1 := Lib.hid (B1.out.trans (hb.mono B1.out.size))
  clear hr hn1 hn2 hn3 hb
  obtain ⟨aw, nw, kw, ap, np, kp, ac, nc, kc⟩ := v1
  go_wp2_with fail
  refine (wPrint ⟨aw, nw, kw, ap, np, kp, ac, nc, kc⟩ exC w2 R1.out N1.out).mono ?_
  rintro e w3 ⟨A1, n1, k1, rfl, ho, hk1, hk2, hb⟩
  rw [pr_ex.2]
  rw [pr_ex.1] at ho
  obtain rfl : n1 = 71 := by rw [← ho.1.1, exC_len]
  have R := Lib.hid ho.1
  have K1 := Lib.hid hk1
  have K2 := Lib.hid hk2
  replace O0 := Lib.hid (O0.out.to hb)
  replace B1 := Lib.hid (B1.out.trans (hb.mono B1.out.size))
  clear ho hk1 hk2 hb R1 N1
  go_wp2_with fail
  refine (wParse A1 71 k1 (formC exC) w3 R.out K1.out K2.out (by decide)).mono ?_
  rintro e w4 ⟨v3, rfl, ho, hb⟩
  rw [out_ex.2]
  rw [out_ex.1] at ho
  have R3 := Lib.hid ho.rd
  replace R := Lib.hid (R.out.to hb)
  replace O0 := Lib.hid (O0.out.to hb)
  replace B1 := Lib.hid (B1.out.trans (hb.mono B1.out.size))
  clear ho hb
  obtain ⟨aw, nw, kw, ap, np, kp, ac, nc, kc⟩ := v3
  have hal := (Below.refl w4.heap.size w4).alloc (Nat.le_refl _) (.cells #[.slice aw nw kw, .slice ap np kp, .slice ac nc kc] 26)
  have X5 : Hid (Bx (w4.alloc (.cells #[.slice aw nw kw, .slice ap np kp, .slice ac nc kc] 26)) w4.heap.size 26 [.slice aw nw kw, .slice ap np kp, .slice ac nc kc]) := Bx.new w4 _ [.slice aw nw kw, .slice ap np kp, .slice ac nc kc]
  replace R3 := Lib.hid (R3.out.to hal)
  replace R := Lib.hid (R.out.to hal)
  replace O0 := Lib.hid (O0.out.to hal)
  replace B1 := Lib.hid (B1.out.trans (hal.mono B1.out.size))
  clear hal
  dsimp only [CV.val]
  go_upto_region 4 with (fail)
  generalize w4.alloc (.cells #[.slice aw nw kw, .slice ap np kp, .slice ac nc kc] 26) = w5 at *
  have hbx := Bx.new w5 5 []
  have hal := (Below.refl w5.heap.size w5).alloc (Nat.le_refl _) (.cells #[] 5)
  have O6 := Lib.hid (own_nilV (B := w5.heap.size) (z := 1) hbx (Nat.le_refl _))
  have N6 := Lib.hid (R.out.to hal).news
  have BW5 := Lib.hid hal
  clear hbx hal
  go_wp2_with (first | (at_builtin; refine wpList_pushV vtB rfl (.tmp 31) (.tmp 32) rfl rfl rfl O6.out N6.out.1 N6.out.2 (bytes_one _) BW5.out.size (by omega) ?_; intro v7 w7 hown7 hk7 hv7; rw [Nat.zero_add, List.nil_append] at hown7; obtain ⟨A7, c7, rfl⟩ := own_slV hown7; have B7 := Lib.hid (hk7.below BW5.out BW5.out.size (fun k hk => (O6.out.lt k hk).1)); have hal7 := (Below.refl w7.heap.size w7).alloc (Nat.le_refl _) (.cells #[.int .u8 0] 5); have O7 := Lib.hid (own_bv hown7 hal7); have N7 := Lib.hid (cells_newV w7 5 [.int .u8 0]); have B8 := Lib.hid (B7.out.trans (hal7.mono B7.out.size)); clear hown7 hk7 hv7 hal7) | (at_builtin; refine wpList_pushV vtB rfl (.tmp 33) (.tmp 34) rfl rfl rfl O7.out (m := 1) (news := [.int .u8 0]) rfl (fun _ => ⟨_, rfl, N7.out⟩) (bytes_one [0]) B8.out.size (by omega) ?_; intro v9 w9 hown9 hk9 hv9; obtain ⟨A9, c9, rfl⟩ := own_slV hown9; have B9 := Lib.hid (hk9.below B8.out B8.out.size (fun k hk => (O7.out.lt k hk).1))))
  have O9 : Hid (w9.ownsRow w5.heap.size 5 1 (.slice A9 72 c9) 72 ((formC exC ++ [0]).map bval)) := by (show World.ownsRow _ _ _ _ _ _ _); rw [List.map_append]; exact hown9
  have HC9 := Lib.hid (own_capV hown9)
  have R9 := Lib.hid (Rd.of_own O9.out)
  clear hown9 hk9 hv9 O6 N6 BW5 B7 O7 N7 B8
  have Y5 := Lib.hid (X5.out.to B9.out)
  replace R3 := Lib.hid (R3.out.to B9.out)
  replace R := Lib.hid (R.out.to B9.out)
  replace O0 := Lib.hid (O0.out.to B9.out)
  replace B1 := Lib.hid (B1.out.trans (B9.out.mono B1.out.size))
  clear B9 X5 O9
  refine (wParse A9 72 c9 (formC exC ++ [0]) w9 R9.out HC9.out.2.1 HC9.out.2.2 (by decide)).mono ?_
  rintro e w10 ⟨v4, rfl, ho, hb⟩
  rw [out_more.2]
  replace Y5 := Lib.hid (Y5.out.to hb)
  replace R3 := Lib.hid (R3.out.to hb)
  replace R := Lib.hid (R.out.to hb)
  replace O0 := Lib.hid (O0.out.to hb)
  replace B1 := Lib.hid (B1.out.trans (hb.mono B1.out.size))
  clear ho hb R9 HC9
  obtain ⟨aw4, nw4, kw4, ap4, np4, kp4, ac4, nc4, kc4⟩ := v4
  dsimp only [CV.val]
  have hal := (Below.refl w10.heap.size w10).alloc (Nat.le_refl _) (.cells #[.slice aw4 nw4 kw4, .slice ap4 np4 kp4, .slice ac4 nc4 kc4] 26)
  replace Y5 := Lib.hid (Y5.out.to hal)
  replace R3 := Lib.hid (R3.out.to hal)
  replace R := Lib.hid (R.out.to hal)
  replace O0 := Lib.hid (O0.out.to hal)
  replace B1 := Lib.hid (B1.out.trans (hal.mono B1.out.size))
  clear hal
  go_upto_region 5 with (fail)
  generalize w10.alloc (.cells #[.slice aw4 nw4 kw4, .slice ap4 np4 kp4, .slice ac4 nc4 kc4] 26) = w11 at *
  obtain ⟨wd, hwd⟩ : ∃ wd, w11.drew = wd := ⟨_, rfl⟩
  have HD : Hid (Below w11.heap.size w11 wd) := by (show Below _ _ _); rw [← hwd]; exact (Below.refl _ w11).drew
  replace Y5 := Lib.hid (Y5.out.to HD.out)
  replace R3 := Lib.hid (R3.out.to HD.out)
  replace R := Lib.hid (R.out.to HD.out)
  replace O0 := Lib.hid (O0.out.to HD.out)
  replace B1 := Lib.hid (B1.out.trans (HD.out.mono B1.out.size))
  obtain ⟨g5, hg5⟩ : ∃ g, w4.heap.size = g := ⟨_, rfl⟩
  rw [hg5] at Y5 ⊢
  clear hg5
  have SK : Hid (∀ w', Below wd.heap.size wd w' → w'.cell? ⟨g5, 0, none⟩ = some (.slice aw nw kw) ∧ w'.cell? ⟨g5, 1, none⟩ = some (.slice ap np kp) ∧ w'.cell? ⟨g5, 2, none⟩ = some (.slice ac nc kc)) := fun W hW => ⟨(Y5.out.to hW).at (j := 0) rfl, (Y5.out.to hW).at (j := 1) rfl, (Y5.out.to hW).at (j := 2) rfl⟩
  have HNW : Hid (nw ≤ 1000) := by (show _ ≤ _); have := R3.out.ww.1; simp only at this; rw [← this]; decide
  have HNP : Hid (np ≤ 1000) := by (show _ ≤ _); have := R3.out.pp.1; simp only at this; rw [← this]; decide
  have HNC : Hid (nc ≤ 1000) := by (show _ ≤ _); have := R3.out.cc.1; simp only at this; rw [← this]; decide
  refine wp_region_held_drew (S := (fun w' => w'.cell? ⟨g5, 0, none⟩ = some (.slice aw nw kw) ∧ w'.cell? ⟨g5, 1, none⟩ = some (.slice ap np kp) ∧ w'.cell? ⟨g5, 2, none⟩ = some (.slice ac nc kc))) (by kernel_rfl) ((by rw [hwd]; exact SK.out _ (Below.refl _ _))) (fun hHeld => ?_)
  rw [hwd] at hHeld ⊢
  clear hwd HD
  refine wpAnyH_take (i := 0) (v := ?_) rfl (by kernel_rfl) (by kernel_rfl) (by kernel_rfl) (fun _ _ _ h => h) (Or.inl ⟨by rfl, ?_⟩) (by assumption) ?_
  rotate_left 1
  · intro w hSw; (try dsimp only at hSw); go_simp; (try with_reducible rfl)
  simp only [Act.put, List.getElem_toArray, List.getElem_cons_zero, List.getElem_cons_succ, List.setIfInBounds_toArray, List.set_cons_zero, List.set_cons_succ]
  refine wpAnyH_take (i := 1) (v := ?_) rfl (by kernel_rfl) (by kernel_rfl) (by kernel_rfl) (fun _ _ _ h => h) (Or.inl ⟨by rfl, ?_⟩) (by assumption) ?_
  rotate_left 1
  · intro w hSw; (try dsimp only at hSw); go_simp; (try with_reducible rfl)
  simp only [Act.put, List.getElem_toArray, List.getElem_cons_zero, List.getElem_cons_succ, List.setIfInBounds_toArray, List.set_cons_zero, List.set_cons_succ]
  refine wpAnyH_take (i := 2) (v := ?_) rfl (by kernel_rfl) (by kernel_rfl) (by kernel_rfl) (fun _ _ _ h => h) (Or.inl ⟨by rfl, ?_⟩) (by assumption) ?_
  rotate_left 1
  · intro w hSw; (try dsimp only at hSw); go_simp; (try with_reducible rfl)
  simp only [Act.put, List.getElem_toArray, List.getElem_cons_zero, List.getElem_cons_succ, List.setIfInBounds_toArray, List.set_cons_zero, List.set_cons_succ]
  refine wpAnyH_take (i := 3) (v := ?_) rfl (by kernel_rfl) (by kernel_rfl) (by kernel_rfl) (fun _ _ _ h => h) (Or.inl ⟨by rfl, ?_⟩) (by assumption) ?_
  rotate_left 1
  · intro w hSw; (try dsimp only at hSw); go_simp; (try with_reducible rfl)
  simp only [Act.put, List.getElem_toArray, List.getElem_cons_zero, List.getElem_cons_succ, List.setIfInBounds_toArray, List.set_cons_zero, List.set_cons_succ]
  refine wpAnyH_take (i := 4) (v := ?_) rfl (by kernel_rfl) (by kernel_rfl) (by kernel_rfl) (fun _ _ _ h => h) (Or.inl ⟨by rfl, ?_⟩) (by assumption) ?_
  rotate_left 1
  · intro w hSw; (try dsimp only at hSw); go_simp; (try with_reducible rfl)
  simp only [Act.put, List.getElem_toArray, List.getElem_cons_zero, List.getElem_cons_succ, List.setIfInBounds_toArray, List.set_cons_zero, List.set_cons_succ]
  refine wpAnyH_take (i := 5) (v := ?_) rfl (by kernel_rfl) (by kernel_rfl) (by kernel_rfl) (fun _ _ _ h => h) (Or.inl ⟨by rfl, ?_⟩) (by assumption) ?_
  rotate_left 1
  · intro w hSw; (try dsimp only at hSw); go_simp; (try with_reducible rfl)
  simp only [Act.put, List.getElem_toArray, List.getElem_cons_zero, List.getElem_cons_succ, List.setIfInBounds_toArray, List.set_cons_zero, List.set_cons_succ]
  refine wpAnyH_take (i := 6) (v := ?_) rfl (by kernel_rfl) (by kernel_rfl) (by kernel_rfl) (fun _ _ _ h => h) (Or.inl ⟨by rfl, ?_⟩) (by assumption) ?_
  rotate_left 1
  · intro w hSw; (try dsimp only at hSw); go_simp; (try with_reducible rfl)
  simp only [Act.put, List.getElem_toArray, List.getElem_cons_zero, List.getElem_cons_succ, List.setIfInBounds_toArray, List.set_cons_zero, List.set_cons_succ]
  refine wpAnyH_take (i := 7) (v := ?_) rfl (by kernel_rfl) (by kernel_rfl) (by kernel_rfl) (fun _ _ _ h => h) (Or.inl ⟨by rfl, ?_⟩) (by assumption) ?_
  rotate_left 1
  · intro w hSw; (try dsimp only at hSw); go_simp; (try with_reducible rfl)
  simp only [Act.put, List.getElem_toArray, List.getElem_cons_zero, List.getElem_cons_succ, List.setIfInBounds_toArray, List.set_cons_zero, List.set_cons_succ]
  refine wpAnyH_take (i := 8) (v := ?_) rfl (by kernel_rfl) (by kernel_rfl) (by kernel_rfl) (fun _ _ _ h => h) (Or.inl ⟨by rfl, ?_⟩) (by assumption) ?_
  rotate_left 1
  · intro w hSw; (try dsimp only at hSw); go_simp; (try with_reducible rfl)
  simp only [Act.put, List.getElem_toArray, List.getElem_cons_zero, List.getElem_cons_succ, List.setIfInBounds_toArray, List.set_cons_zero, List.set_cons_succ]
  refine wpAnyH_take (i := 9) (v := ?_) rfl (by kernel_rfl) (by kernel_rfl) (by kernel_rfl) (fun _ _ _ h => h) (Or.inl ⟨by rfl, ?_⟩) (by assumption) ?_
  rotate_left 1
  · intro w hSw; (try dsimp only at hSw); go_simp; (try with_reducible rfl)
  simp only [Act.put, List.getElem_toArray, List.getElem_cons_zero, List.getElem_cons_succ, List.setIfInBounds_toArray, List.set_cons_zero, List.set_cons_succ]
  refine wpAnyH_take (i := 10) (v := ?_) rfl (by kernel_rfl) (by kernel_rfl) (by kernel_rfl) (fun _ _ _ h => h) (Or.inl ⟨by rfl, ?_⟩) (by assumption) ?_
  rotate_left 1
  · intro w hSw; (try dsimp only at hSw); go_simp; (try with_reducible rfl)
  simp only [Act.put, List.getElem_toArray, List.getElem_cons_zero, List.getElem_cons_succ, List.setIfInBounds_toArray, List.set_cons_zero, List.set_cons_succ]
  refine wpAnyH_take (i := 11) (v := ?_) rfl (by kernel_rfl) (by kernel_rfl) (by kernel_rfl) (fun _ _ _ h => h) (Or.inl ⟨by rfl, ?_⟩) (by assumption) ?_
  rotate_left 1
  · intro w hSw; (try dsimp only at hSw); go_simp; (try with_reducible rfl)
  simp only [Act.put, List.getElem_toArray, List.getElem_cons_zero, List.getElem_cons_succ, List.setIfInBounds_toArray, List.set_cons_zero, List.set_cons_succ]
  refine wpAnyH_take (i := 12) (v := ?_) rfl (by kernel_rfl) (by kernel_rfl) (by kernel_rfl) (fun _ _ _ h => h) (Or.inl ⟨by rfl, ?_⟩) (by assumption) ?_
  rotate_left 1
  · intro w hSw; (try dsimp only at hSw); go_simp; (try with_reducible rfl)
  simp only [Act.put, List.getElem_toArray, List.getElem_cons_zero, List.getElem_cons_succ, List.setIfInBounds_toArray, List.set_cons_zero, List.set_cons_succ]
  refine wpAnyH_take (i := 13) (v := ?_) rfl (by kernel_rfl) (by kernel_rfl) (by kernel_rfl) (fun _ _ _ h => h) (Or.inl ⟨by rfl, ?_⟩) (by assumption) ?_
  rotate_left 1
  · intro w hSw; (try dsimp only at hSw); go_simp; (try with_reducible rfl)
  simp only [Act.put, List.getElem_toArray, List.getElem_cons_zero, List.getElem_cons_succ, List.setIfInBounds_toArray, List.set_cons_zero, List.set_cons_succ]
  refine wpAnyH_take (i := 14) (v := ?_) rfl (by kernel_rfl) (by kernel_rfl) (by kernel_rfl) (fun _ _ _ h => h) (Or.inl ⟨by rfl, ?_⟩) (by assumption) ?_
  rotate_left 1
  · intro w hSw; (try dsimp only at hSw); go_simp; (try with_reducible rfl)
  simp only [Act.put, List.getElem_toArray, List.getElem_cons_zero, List.getElem_cons_succ, List.setIfInBounds_toArray, List.set_cons_zero, List.set_cons_succ]
  refine wpAnyH_take (i := 15) (v := ?_) rfl (by kernel_rfl) (by kernel_rfl) (by kernel_rfl) (fun _ _ _ h => h) (Or.inl ⟨by rfl, ?_⟩) (by assumption) ?_
  rotate_left 1
  · intro w hSw; (try dsimp only at hSw); go_simp; (try with_reducible rfl)
  simp only [Act.put, List.getElem_toArray, List.getElem_cons_zero, List.getElem_cons_succ, List.setIfInBounds_toArray, List.set_cons_zero, List.set_cons_succ]
  refine wpAnyH_take (i := 16) (v := ?_) rfl (by kernel_rfl) (by kernel_rfl) (by kernel_rfl) (fun _ _ _ h => h) (Or.inl ⟨by rfl, ?_⟩) (by assumption) ?_
  rotate_left 1
  · intro w hSw; (try dsimp only at hSw); go_simp; (try with_reducible rfl)
  simp only [Act.put, List.getElem_toArray, List.getElem_cons_zero, List.getElem_cons_succ, List.setIfInBounds_toArray, List.set_cons_zero, List.set_cons_succ]
  refine wpAnyH_take (i := 17) (v := ?_) rfl (by kernel_rfl) (by kernel_rfl) (by kernel_rfl) (fun _ _ _ h => h) (Or.inl ⟨by rfl, ?_⟩) (by assumption) ?_
  rotate_left 1
  · intro w hSw; (try dsimp only at hSw); go_simp; (try with_reducible rfl)
  simp only [Act.put, List.getElem_toArray, List.getElem_cons_zero, List.getElem_cons_succ, List.setIfInBounds_toArray, List.set_cons_zero, List.set_cons_succ]
  refine wpAnyH_take (i := 18) (v := ?_) rfl (by kernel_rfl) (by kernel_rfl) (by kernel_rfl) (fun _ _ _ h => h) (Or.inl ⟨by rfl, ?_⟩) (by assumption) ?_
  rotate_left 1
  · intro w hSw; (try dsimp only at hSw); go_simp; (try with_reducible rfl)
  simp only [Act.put, List.getElem_toArray, List.getElem_cons_zero, List.getElem_cons_succ, List.setIfInBounds_toArray, List.set_cons_zero, List.set_cons_succ]
  refine wpAnyH_take (i := 19) (v := ?_) rfl (by kernel_rfl) (by kernel_rfl) (by kernel_rfl) (fun _ _ _ h => h) (Or.inl ⟨by rfl, ?_⟩) (by assumption) ?_
  rotate_left 1
  · intro w hSw; (try dsimp only at hSw); go_simp; (try with_reducible rfl)
  simp only [Act.put, List.getElem_toArray, List.getElem_cons_zero, List.getElem_cons_succ, List.setIfInBounds_toArray, List.set_cons_zero, List.set_cons_succ]
  refine wpAnyH_take (i := 20) (v := ?_) rfl (by kernel_rfl) (by kernel_rfl) (by kernel_rfl) (fun _ _ _ h => h) (Or.inl ⟨by rfl, ?_⟩) (by assumption) ?_
  rotate_left 1
  · intro w hSw; (try dsimp only at hSw); go_simp; (try with_reducible rfl)
  simp only [Act.put, List.getElem_toArray, List.getElem_cons_zero, List.getElem_cons_succ, List.setIfInBounds_toArray, List.set_cons_zero, List.set_cons_succ]
  refine wpAnyH_take (i := 21) (v := ?_) rfl (by kernel_rfl) (by kernel_rfl) (by kernel_rfl) (fun _ _ _ h => h) (Or.inl ⟨by rfl, ?_⟩) (by assumption) ?_
  rotate_left 1
  · intro w hSw; (try dsimp only at hSw); go_simp; (try with_reducible rfl)
  simp only [Act.put, List.getElem_toArray, List.getElem_cons_zero, List.getElem_cons_succ, List.setIfInBounds_toArray, List.set_cons_zero, List.set_cons_succ]
  refine wpAnyH_take (i := 22) (v := ?_) rfl (by kernel_rfl) (by kernel_rfl) (by kernel_rfl) (fun _ _ _ h => h) (Or.inl ⟨by rfl, ?_⟩) (by assumption) ?_
  rotate_left 1
  · intro w hSw; (try dsimp only at hSw); go_simp; (try with_reducible rfl)
  simp only [Act.put, List.getElem_toArray, List.getElem_cons_zero, List.getElem_cons_succ, List.setIfInBounds_toArray, List.set_cons_zero, List.set_cons_succ]
  refine wpAnyH_take (i := 23) (v := ?_) rfl (by kernel_rfl) (by kernel_rfl) (by kernel_rfl) (fun _ _ _ h => h) (Or.inl ⟨by rfl, ?_⟩) (by assumption) ?_
  rotate_left 1
  · intro w hSw; (try dsimp only at hSw); go_simp; (try with_reducible rfl)
  simp only [Act.put, List.getElem_toArray, List.getElem_cons_zero, List.getElem_cons_succ, List.setIfInBounds_toArray, List.set_cons_zero, List.set_cons_succ]
  refine wpAnyH_take (i := 24) (v := ?_) rfl (by kernel_rfl) (by kernel_rfl) (by kernel_rfl) (fun _ _ _ h => h) (Or.inl ⟨by rfl, ?_⟩) (by assumption) ?_
  rotate_left 1
  · intro w hSw; (try dsimp only at hSw); go_simp; (try with_reducible rfl)
  simp only [Act.put, List.getElem_toArray, List.getElem_cons_zero, List.getElem_cons_succ, List.setIfInBounds_toArray, List.set_cons_zero, List.set_cons_succ]
  refine wpAnyH_take (i := 25) (v := ?_) rfl (by kernel_rfl) (by kernel_rfl) (by kernel_rfl) (fun _ _ _ h => h) (Or.inl ⟨by rfl, ?_⟩) (by assumption) ?_
  rotate_left 1
  · intro w hSw; (try dsimp only at hSw); go_simp; (try with_reducible rfl)
  simp only [Act.put, List.getElem_toArray, List.getElem_cons_zero, List.getElem_cons_succ, List.setIfInBounds_toArray, List.set_cons_zero, List.set_cons_succ]
  have BD : Hid (Below wd.heap.size wd wd) := Below.refl _ _
  refine wpAnyH_ready (rs := [26]) (by kernel_rfl) (by simp) ?_
  refine AllReadyH.cons rfl (fun K hK => ?_) AllReadyH.nil
  go_simp
  refine (lShown wd).mono ?_
  rintro e w12 ⟨v5, rfl, hr, -, -, -, hb⟩
  obtain ⟨aw5, nw5, kw5, ap5, np5, kp5, ac5, nc5, kc5⟩ := v5
  have R5 := Lib.hid hr
  replace BD := Lib.hid hb
  replace R3 := Lib.hid (R3.out.to hb)
  replace R := Lib.hid (R.out.to hb)
  replace O0 := Lib.hid (O0.out.to hb)
  replace B1 := Lib.hid (B1.out.trans (hb.mono B1.out.size))
  clear hr hb hHeld
  dsimp only [CV.val]
  go_wp2_with fail
  refine hK.out _ _ (SK.out _ BD.out) (fun hHeld => ?_)
  clear hK K
  refine wpAnyH_ready (rs := [27]) (by kernel_rfl) (by simp) ?_
  refine AllReadyH.cons rfl (fun K hK => ?_) AllReadyH.nil
  go_simp
  refine (wSameCf ⟨aw, nw, kw, ap, np, kp, ac, nc, kc⟩ ⟨aw5, nw5, kw5, ap5, np5, kp5, ac5, nc5, kc5⟩ exC exC w12 R3.out R5.out HNW.out HNP.out HNC.out).mono ?_
  rintro e w13 ⟨rfl, hb⟩
  rw [exC_same]
  replace BD := Lib.hid (BD.out.trans (hb.mono BD.out.size))
  replace R3 := Lib.hid (R3.out.to hb)
  replace R := Lib.hid (R.out.to hb)
  replace O0 := Lib.hid (O0.out.to hb)
  replace B1 := Lib.hid (B1.out.trans (hb.mono B1.out.size))
  clear hb hHeld R5
  go_wp2_with fail
  refine hK.out _ _ (SK.out _ BD.out) (fun hHeld => ?_)
  clear hK K
  refine wpAnyH_take (i := 28) (v := ?_) rfl (by kernel_rfl) (by kernel_rfl) (by kernel_rfl) (fun _ _ _ h => h) (Or.inl ⟨by rfl, ?_⟩) (by assumption) ?_
  rotate_left 1
  · intro w hSw; (try dsimp only at hSw); go_simp; (try with_reducible rfl)
  simp only [Act.put, List.getElem_toArray, List.getElem_cons_zero, List.getElem_cons_succ, List.setIfInBounds_toArray, List.set_cons_zero, List.set_cons_succ]
  refine wpAnyH_take (i := 29) (v := ?_) rfl (by kernel_rfl) (by kernel_rfl) (by kernel_rfl) (fun _ _ _ h => h) (Or.inl ⟨by rfl, ?_⟩) (by assumption) ?_
  rotate_left 1
  · intro w hSw; (try dsimp only at hSw); go_simp; (try with_reducible rfl)
  simp only [Act.put, List.getElem_toArray, List.getElem_cons_zero, List.getElem_cons_succ, List.setIfInBounds_toArray, List.set_cons_zero, List.set_cons_succ]
  refine wpAnyH_take (i := 30) (v := ?_) rfl (by kernel_rfl) (by kernel_rfl) (by kernel_rfl) (fun _ _ _ h => h) (Or.inl ⟨by rfl, ?_⟩) (by assumption) ?_
  rotate_left 1
  · intro w hSw; (try dsimp only at hSw); go_simp; (try with_reducible rfl)
  simp only [Act.put, List.getElem_toArray, List.getElem_cons_zero, List.getElem_cons_succ, List.setIfInBounds_toArray, List.set_cons_zero, List.set_cons_succ]
  refine wpAnyH_take (i := 31) (v := ?_) rfl (by kernel_rfl) (by kernel_rfl) (by kernel_rfl) (fun _ _ _ h => h) (Or.inl ⟨by rfl, ?_⟩) (by assumption) ?_
  rotate_left 1
  · intro w hSw; (try dsimp only at hSw); go_simp; (try with_reducible rfl)
  simp only [Act.put, List.getElem_toArray, List.getElem_cons_zero, List.getElem_cons_succ, List.setIfInBounds_toArray, List.set_cons_zero, List.set_cons_succ]
  refine wpAnyH_take (i := 32) (v := ?_) rfl (by kernel_rfl) (by kernel_rfl) (by kernel_rfl) (fun _ _ _ h => h) (Or.inl ⟨by rfl, ?_⟩) (by assumption) ?_
  rotate_left 1
  · intro w hSw; (try dsimp only at hSw); go_simp; (try with_reducible rfl)
  simp only [Act.put, List.getElem_toArray, List.getElem_cons_zero, List.getElem_cons_succ, List.setIfInBounds_toArray, List.set_cons_zero, List.set_cons_succ]
  refine wpAnyH_ready (rs := [33]) (by kernel_rfl) (by simp) ?_
  refine AllReadyH.cons rfl (fun K hK => ?_) AllReadyH.nil
  go_simp
  refine (wSameCf ⟨aw, nw, kw, ap, np, kp, ac, nc, kc⟩ noV exC noC w13 R3.out (rdCf_nil _ _) HNW.out HNP.out HNC.out).mono ?_
  rintro e w14 ⟨rfl, hb⟩
  rw [exC_not]
  replace BD := Lib.hid (BD.out.trans (hb.mono BD.out.size))
  replace R3 := Lib.hid (R3.out.to hb)
  replace R := Lib.hid (R.out.to hb)
  replace O0 := Lib.hid (O0.out.to hb)
  replace B1 := Lib.hid (B1.out.trans (hb.mono B1.out.size))
  clear hb hHeld
  go_wp2_with fail
  refine hK.out _ _ (SK.out _ BD.out) (fun hHeld => ?_)
  clear hK K
  refine wpAnyH_take (i := 34) (v := ?_) rfl (by kernel_rfl) (by kernel_rfl) (by kernel_rfl) (fun _ _ _ h => h) (Or.inl ⟨by rfl, ?_⟩) (by assumption) ?_
  rotate_left 1
  · intro w hSw; (try dsimp only at hSw); go_simp; (try with_reducible rfl)
  simp only [Act.put, List.getElem_toArray, List.getElem_cons_zero, List.getElem_cons_succ, List.setIfInBounds_toArray, List.set_cons_zero, List.set_cons_succ]
  refine wpAnyH_done (by kernel_rfl) ?_ _
  clear hHeld
  have k70 : ∀ w : World, (Instr.slice 29 (.slice A1 71 k1) none (some (.int .i64 70)) none).run Try.prog w = .ok (.slice A1 70 k1) w := fun w => slice_h isU8 A1 (n := 71) (c := k1) (h := 70) (by omega) K1.out .i64 w
  have Y6 := Lib.hid (Y5.out.to BD.out)
  clear SK Y5 BD
  go_wp2_with fail
  refine (wParse A1 70 k1 ((formC exC).take 70) w14 (R.out.front (by decide)) (Nat.le_trans (by decide) K1.out) K2.out (by decide)).mono ?_
  rintro e w15 ⟨v6, rfl, -, hb⟩
  rw [out_cut.2]
  replace Y6 := Lib.hid (Y6.out.to hb)
  replace R3 := Lib.hid (R3.out.to hb)
  replace O0 := Lib.hid (O0.out.to hb)
  replace B1 := Lib.hid (B1.out.trans (hb.mono B1.out.size))
  obtain ⟨aw6, nw6, kw6, ap6, np6, kp6, ac6, nc6, kc6⟩ := v6
  dsimp only [CV.val]
  have hal := (Below.refl w15.heap.size w15).alloc (Nat.le_refl _) (.cells #[.slice aw6 nw6 kw6, .slice ap6 np6 kp6, .slice ac6 nc6 kc6] 26)
  replace Y6 := Lib.hid (Y6.out.to hal)
  replace R3 := Lib.hid (R3.out.to hal)
  replace O0 := Lib.hid (O0.out.to hal)
  replace B1 := Lib.hid (B1.out.trans (hal.mono B1.out.size))
  clear hal hb R k70
  go_upto_region 8 with (fail)
  generalize w15.alloc (.cells #[.slice aw6 nw6 kw6, .slice ap6 np6 kp6, .slice ac6 nc6 kc6] 26) = w16 at *
  have y0 := Y6.out.at (j := 0) rfl
  have y1 := Y6.out.at (j := 1) rfl
  have y2 := Y6.out.at (j := 2) rfl
  go_wp2_with fail
  refine (wPart ⟨aw, nw, kw, ap, np, kp, ac, nc, kc⟩ exC 1 w16 R3.out HNP.out).mono ?_
  rintro e w17 ⟨A8, m8, c8, rfl, -, -, -, hb⟩
  rw [exC_part.2, exC_part.1]
  replace Y6 := Lib.hid (Y6.out.to hb)
  replace R3 := Lib.hid (R3.out.to hb)
  replace O0 := Lib.hid (O0.out.to hb)
  replace B1 := Lib.hid (B1.out.trans (hb.mono B1.out.size))
  have hal := (Below.refl w17.heap.size w17).alloc (Nat.le_refl _) (.cells #[.int .i64 1, .int .i64 16, .int .i64 32, .bool true, .slice A8 m8 c8] 46)
  have Q8 : Hid (Bx (w17.alloc (.cells #[.int .i64 1, .int .i64 16, .int .i64 32, .bool true, .slice A8 m8 c8] 46)) w17.heap.size 46 [.int .i64 1, .int .i64 16, .int .i64 32, .bool true, .slice A8 m8 c8]) := Bx.new w17 _ [.int .i64 1, .int .i64 16, .int .i64 32, .bool true, .slice A8 m8 c8]
  replace Y6 := Lib.hid (Y6.out.to hal)
  replace R3 := Lib.hid (R3.out.to hal)
  replace O0 := Lib.hid (O0.out.to hal)
  replace B1 := Lib.hid (B1.out.trans (hal.mono B1.out.size))
  clear hal hb y0 y1 y2
  dsimp only [exP]
  go_upto_region 9 with (fail)
  generalize hg8 : w17.heap.size = g8 at *
  replace hg8 := Lib.hid hg8
  generalize w17.alloc (.cells #[.int .i64 1, .int .i64 16, .int .i64 32, .bool true, .slice A8 m8 c8] 46) = w18 at *
  have y0 := Y6.out.at (j := 0) rfl
  have y1 := Y6.out.at (j := 1) rfl
  have y2 := Y6.out.at (j := 2) rfl
  go_wp2_with fail
  refine (wChannel ⟨aw, nw, kw, ap, np, kp, ac, nc, kc⟩ exC 1 w18 R3.out HNC.out).mono ?_
  rintro e w19 ⟨rfl, hb⟩
  rw [exC_chan]
  replace Q8 := Lib.hid (Q8.out.to hb)
  replace O0 := Lib.hid (O0.out.to hb)
  replace B1 := Lib.hid (B1.out.trans (hb.mono B1.out.size))
  obtain ⟨ci, hci⟩ : ∃ c, chanV exC 1 = c := ⟨_, rfl⟩
  rw [hci]
  have hal := (Below.refl w19.heap.size w19).alloc (Nat.le_refl _) (.cells #[.int .i64 ci.id, .int .i64 ci.fr, .int .i64 ci.dst, .int .i64 ci.cap, .int .i64 ci.size] 50)
  replace Q8 := Lib.hid (Q8.out.to hal)
  replace O0 := Lib.hid (O0.out.to hal)
  replace B1 := Lib.hid (B1.out.trans (hal.mono B1.out.size))
  have hd1 : decide ((0 : Int) ≤ -1) = false := rfl
  rw [hd1]
  clear hal hb y0 y1 y2 hci hd1 R3 Y6
  go_upto_region 10 with (fail)
  generalize w19.alloc (.cells #[.int .i64 ci.id, .int .i64 ci.fr, .int .i64 ci.dst, .int .i64 ci.cap, .int .i64 ci.size] 50) = w20 at *
  have z2 := Q8.out.at (j := 2) rfl
  obtain ⟨b0, o0, rfl, _, hc0, _⟩ := O0.out.cell (j := 0) (by decide)
  rw [noC_first] at hc0
  replace hc0 : w20.cell? ⟨b0, o0, none⟩ = some (.int .u8 0) := hc0
  go_wp2_with fail
  go_ret
  exact ⟨rfl, B1.out⟩
end Go.Proofs.Ytljgliagciblbaa
