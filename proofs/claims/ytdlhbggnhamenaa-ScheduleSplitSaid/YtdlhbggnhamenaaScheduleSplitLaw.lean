/- For any windows and any two numbers the law ScheduleSplit of citadellaw09 returns true: a window that is cut into two of the same partition leaves all ticks as they were (windows, at most 11). Conditions: none beyond those that the statement itself prints. -/
import Derived.Test.YtdlhbggnhamenaaRows
import Derived.Test.YtdlhbggnhamenaaSchE
import Derived.Test.YtdlhbggnhamenaaWin
import Derived.WalkKit
import Derived.ProofKit
import Derived.OpenShut
import Derived.ShutString
import Derived.ChangeOld
import Derived.Below
namespace Go.Proofs.Ytdlhbggnhamenaa.scheduleSplit
open Go.ChangeShapes Go.WideShapes Go.ChangeAt Go.RowKit
open Go.ChangeMaps (open_string shut_string)
set_option linter.unusedVariables false
set_option linter.unusedSimpArgs false

theorem own : ownKnob Try.prog.godebug = none := by kernel_rfl
theorem laidOut : laidOutB Try.prog = true := by kernel_rfl

theorem wrap64_small {x : Int} (h0 : 0 ≤ x) (h1 : x < 1000) : wrap64 x = x := by
  unfold wrap64; omega
theorem idx_of (a : Int) {n : Nat} (hn : 0 < n) (h : n ≤ 70) : ∃ x : Nat, x < n ∧ wrap64 ((IntKind.u64.wrap a).tmod (n : Int)) = (x : Int) := by
  have hu : 0 ≤ IntKind.u64.wrap a := by rw [IntKind.wrap_u64]; omega
  rw [Int.tmod_eq_emod_of_nonneg hu]
  have h1 := Int.emod_nonneg (IntKind.u64.wrap a) (show (n : Int) ≠ 0 by omega)
  have h2 := Int.emod_lt_of_pos (IntKind.u64.wrap a) (show (0 : Int) < n by omega)
  obtain ⟨x, hx⟩ := Int.eq_ofNat_of_zero_le h1
  rw [hx] at h2 ⊢
  exact ⟨x, by omega, wrap64_small (by omega) (by omega)⟩
set_option maxRecDepth 1000000 in
set_option maxHeartbeats 4000000 in
theorem walk (a0 : Option Addr) (len0 cap0 : Nat) (l0 : List Reg) (a1 : Int) (a2 : Int) (w : World) (w0 : RdG w w.heap.size a0 len0 l0 ∧ len0 ≤ cap0 ∧ cap0 ≤ 9223372036854775807) (w1 : (Lit.int .i64 a1).wf = true) (w2 : (Lit.int .i64 a2).wf = true) :
    Calls Try.prog 7 #[.slice a0 len0 cap0, .int .i64 a1, .int .i64 a2] w fun e w' => e = .returned (.bool true) ∧ Below w.heap.size w w' := by
  obtain ⟨r0, hcap, hcap'⟩ := w0
  have R := Lib.hid r0
  have HCP := Lib.hid hcap
  have HC : Hid (len0 ≤ 9223372036854775807) := Nat.le_trans hcap hcap'
  clear r0 hcap hcap' w1 w2
  have B := Lib.hid (Below.refl w.heap.size w)
  by_cases h12 : 12 ≤ len0
  · have h12I : (len0 : Int) ≥ 12 := by omega
    clear h12
    go_enter Try.func7, Try.ntmps7
    go_wp2_with fail
    refine (awake _).mono ?_
    rintro e w9 ⟨rfl, hb⟩
    replace B := Lib.hid (B.out.trans (hb.mono B.out.size))
    clear hb
    go_wp2_with fail
    go_ret
    exact ⟨rfl, B.out⟩
  have h12I : ¬ (len0 : Int) ≥ 12 := by omega
  have H12 : Hid (len0 < 12) := by (show _ < _); omega
  clear h12
  go_enter Try.func7, Try.ntmps7
  go_wp2_with fail
  refine (Sch.may a0 len0 cap0 l0 w R.out HC.out).mono ?_
  rintro e w1 ⟨rfl, hb⟩
  replace B := Lib.hid (B.out.trans (hb.mono B.out.size))
  clear hb
  cases hm : mayW l0
  · clear hm
    go_wp2_with fail
    refine (awake _).mono ?_
    rintro e w9 ⟨rfl, hb⟩
    replace B := Lib.hid (B.out.trans (hb.mono B.out.size))
    clear hb
    go_wp2_with fail
    go_ret
    exact ⟨rfl, B.out⟩
  have HM := Lib.hid hm
  have HPOS : Hid (0 < len0) := by (show _ < _); rw [← R.out.1]; exact (may_pos hm).2.2.1
  clear hm
  have hz1 : ¬ (len0 : Int) = 0 := by have := HPOS.out; omega
  have hz2 : ¬ len0 = 0 := by have := HPOS.out; omega
  obtain ⟨k, hk, hke⟩ := idx_of a1 HPOS.out (by have := H12.out; omega)
  have HK := Lib.hid hk
  have HKL : Hid (k < l0.length) := by (show _ < _); rw [R.out.1]; exact hk
  have HOK := Lib.hid (okW_at (may_ok HM.out) HKL.out)
  have hkI : (k : Int) < (len0 : Int) := by omega
  have hwk : IntKind.i64.wrap ((k : Int) + 1) = (k : Int) + 1 := by have := H12.out; rw [IntKind.wrap_i64]; omega
  clear hk
  have RR := Lib.hid ((R.out.below B.out).more B.out.size)
  obtain ⟨b, o, rfl, hbo, hc⟩ := RR.out.2 HPOS.out
  have c0 := (hc k HK.out).1
  have c1 := (hc k HK.out).2
  have HBO := Lib.hid hbo
  clear hc hbo
  by_cases h2 : (rat l0 k).1 < 2
  · have HB2 := Lib.hid HBO.out
    go_wp2_with fail
    refine (awake _).mono ?_
    rintro e w9 ⟨rfl, hb⟩
    replace B := Lib.hid (B.out.trans (hb.mono B.out.size))
    clear hb
    go_wp2_with fail
    go_ret
    exact ⟨rfl, B.out⟩
  obtain ⟨m, hm⟩ : ∃ m : Nat, (rat l0 k).1 = (m : Int) + 1 := ⟨((rat l0 k).1 - 1).toNat, by omega⟩
  have HMR : Hid (0 < m ∧ m ≤ 63) := by (show _ ∧ _); have := HOK.out; omega
  have hm0 : ¬ m = 0 := by have := HMR.out; omega
  have hm1 : ¬ (m : Int) = 0 := by omega
  have hwm : IntKind.i64.wrap ((rat l0 k).1 - 1) = (m : Int) := by have := HMR.out; rw [IntKind.wrap_i64]; omega
  have hum : IntKind.u64.wrap (m : Int) = (m : Int) := by have := HMR.out; rw [IntKind.wrap_u64]; omega
  obtain ⟨y, hy, hye⟩ := idx_of a2 HMR.out.1 (by have := HMR.out; omega)
  have HY := Lib.hid hy
  have HMM := Lib.hid hm
  clear hm hy
  have hwy : IntKind.i64.wrap (1 + (y : Int)) = ((y + 1 : Nat) : Int) := by have := HY.out; have := HMR.out; rw [IntKind.wrap_i64]; push_cast; omega
  have BF := Lib.hid (B.out.alloc B.out.size (.cells #[] 35))
  have FR : Hid ((w1.alloc (.cells #[] 35)).heap[w1.heap.size]? = some (.cells #[] 35 (0, 0))) := by (show (w1.heap.push _)[w1.heap.size]? = _); simp
  obtain ⟨sh, rh⟩ := sliceP_h winsP (some ⟨b, o, none⟩) (n := len0) (c := cap0) (h := k) (Nat.le_of_lt HK.out) HCP.out
  have R2 := Lib.hid (rh _ _ _ ((RR.out.to ((Below.refl _ _).alloc (Nat.le_refl _) (.cells #[] 35)))))
  have HG1 : Hid (w.heap.size ≤ w1.heap.size) := B.out.size
  clear rh
  go_wp2_with (first
    | (at_builtin; refine wpList_pushP winsP rfl _ _ rfl (v := .slice (some ⟨w1.heap.size, 0, none⟩) 0 0) rfl rfl (own_fresh FR.out HG1.out) R2.out BF.out BF.out.size (by have := H12.out; have := HK.out; omega) ?_; intro v2 w2 hown2 hb2 hs2; rw [Nat.zero_add, List.nil_append] at hown2; obtain ⟨A2, c2, rfl⟩ := own_slice2 hown2)
    | fail)
  replace B := Lib.hid hb2
  have SAG : Hid (∀ W, Below w.heap.size w W → W.cell? ⟨b, o + k * 2, none⟩ = some (.int .i64 (rat l0 k).1) ∧ W.cell? ⟨b, o + k * 2 + 1, none⟩ = some (.int .i64 (rat l0 k).2)) := by
    intro W hW
    obtain ⟨b', o', e, hb', hc'⟩ := (R.out.below hW).2 HPOS.out
    injection e with e
    injection e with e1 e2
    subst e1; subst e2
    exact hc' k HK.out
  have hn1 : 1 ≤ (y : Int) + 1 ∧ (y : Int) + 1 < (rat l0 k).1 := by have := HY.out; have := HMM.out; omega
  generalize hN : (y : Int) + 1 = N at *
  have HNN := Lib.hid hn1
  have hwn : IntKind.i64.wrap ((rat l0 k).1 - N) = (rat l0 k).1 - N := by have := HOK.out; rw [IntKind.wrap_i64]; omega
  clear hn1 hN hwy hye hum hwm hm1 hm0 h2 c0 c1 R2 FR BF sh hs2 hb2
  replace B := Lib.hid B.out.drew
  have O2 : Hid (w2.drew.ownsRow w.heap.size 35 2 (.slice A2 k c2) k (regsV (l0.take k))) := hown2
  clear hown2
  refine wp_region_held_drew (S := (fun w' => w'.cell? ⟨b, o + k * 2, none⟩ = some (.int .i64 (rat l0 k).1) ∧ w'.cell? ⟨b, o + k * 2 + 1, none⟩ = some (.int .i64 (rat l0 k).2))) (by kernel_rfl) (SAG.out _ B.out) (fun hHeld => ?_)
  generalize w2.drew = wd at *
  refine wpAnyH_takeD (i := 0) (d := 53) (v := ?_) rfl rfl (by kernel_rfl) (by kernel_rfl) (by kernel_rfl) (fun _ _ _ h => h) (Or.inl ⟨by rfl, ?_⟩) (by assumption) ?_
  rotate_left 1
  · intro w hSw; (try dsimp only at hSw); go_simp; (try with_reducible rfl)
  simp only [List.setIfInBounds_toArray, List.set_cons_zero, List.set_cons_succ]
  refine wpAnyH_takeD (i := 1) (d := 54) (v := ?_) rfl rfl (by kernel_rfl) (by kernel_rfl) (by kernel_rfl) (fun _ _ _ h => h) (Or.inl ⟨by rfl, ?_⟩) (by assumption) ?_
  rotate_left 1
  · intro w hSw; (try dsimp only at hSw); go_simp; (try with_reducible rfl)
  simp only [List.setIfInBounds_toArray, List.set_cons_zero, List.set_cons_succ]
  refine wpAnyH_takeD (i := 2) (d := 55) (v := ?_) rfl rfl (by kernel_rfl) (by kernel_rfl) (by kernel_rfl) (fun _ _ _ h => h) (Or.inl ⟨by rfl, ?_⟩) (by assumption) ?_
  rotate_left 1
  · intro w hSw; (try dsimp only at hSw); go_simp; (try with_reducible rfl)
  simp only [List.setIfInBounds_toArray, List.set_cons_zero, List.set_cons_succ]
  refine wpAnyH_takeD (i := 3) (d := 56) (v := ?_) rfl rfl (by kernel_rfl) (by kernel_rfl) (by kernel_rfl) (fun _ _ _ h => h) (Or.inl ⟨by rfl, ?_⟩) (by assumption) ?_
  rotate_left 1
  · intro w hSw; (try dsimp only at hSw); go_simp; (try with_reducible rfl)
  simp only [List.setIfInBounds_toArray, List.set_cons_zero, List.set_cons_succ]
  refine wpAnyH_takeD (i := 4) (d := 57) (v := ?_) rfl rfl (by kernel_rfl) (by kernel_rfl) (by kernel_rfl) (fun _ _ _ h => h) (Or.inl ⟨by rfl, ?_⟩) (by assumption) ?_
  rotate_left 1
  · intro w hSw; (try dsimp only at hSw); go_simp; (try with_reducible rfl)
  simp only [List.setIfInBounds_toArray, List.set_cons_zero, List.set_cons_succ]
  refine wpAnyH_takeD (i := 5) (d := 58) (v := ?_) rfl rfl (by kernel_rfl) (by kernel_rfl) (by kernel_rfl) (fun _ _ _ h => h) (Or.inl ⟨by rfl, ?_⟩) (by assumption) ?_
  rotate_left 1
  · intro w hSw; (try dsimp only at hSw); go_simp; (try with_reducible rfl)
  simp only [List.setIfInBounds_toArray, List.set_cons_zero, List.set_cons_succ]
  refine wpAnyH_takeD (i := 6) (d := 59) (v := ?_) rfl rfl (by kernel_rfl) (by kernel_rfl) (by kernel_rfl) (fun _ _ _ h => h) (Or.inl ⟨by rfl, ?_⟩) (by assumption) ?_
  rotate_left 1
  · intro w hSw; (try dsimp only at hSw); go_simp; (try with_reducible rfl)
  simp only [List.setIfInBounds_toArray, List.set_cons_zero, List.set_cons_succ]
  refine wpAnyH_takeD (i := 7) (d := 60) (v := ?_) rfl rfl (by kernel_rfl) (by kernel_rfl) (by kernel_rfl) (fun _ _ _ h => h) (Or.inl ⟨by rfl, ?_⟩) (by assumption) ?_
  rotate_left 1
  · intro w hSw; (try dsimp only at hSw); go_simp; (try with_reducible rfl)
  simp only [List.setIfInBounds_toArray, List.set_cons_zero, List.set_cons_succ]
  refine wpAnyH_takeD (i := 8) (d := 61) (v := ?_) rfl rfl (by kernel_rfl) (by kernel_rfl) (by kernel_rfl) (fun _ _ _ h => h) (Or.inl ⟨by rfl, ?_⟩) (by assumption) ?_
  rotate_left 1
  · intro w hSw; (try dsimp only at hSw); go_simp; (try with_reducible rfl)
  simp only [List.setIfInBounds_toArray, List.set_cons_zero, List.set_cons_succ]
  refine wpAnyH_takeD (i := 9) (d := 62) (v := ?_) rfl rfl (by kernel_rfl) (by kernel_rfl) (by kernel_rfl) (fun _ _ _ h => h) (Or.inl ⟨by rfl, ?_⟩) (by assumption) ?_
  rotate_left 1
  · intro w hSw; (try dsimp only at hSw); go_simp; (try with_reducible rfl)
  simp only [List.setIfInBounds_toArray, List.set_cons_zero, List.set_cons_succ]
  refine wpAnyH_takeD (i := 10) (d := 63) (v := ?_) rfl rfl (by kernel_rfl) (by kernel_rfl) (by kernel_rfl) (fun _ _ _ h => h) (Or.inl ⟨by rfl, ?_⟩) (by assumption) ?_
  rotate_left 1
  · intro w hSw; (try dsimp only at hSw); go_simp; (try with_reducible rfl)
  simp only [List.setIfInBounds_toArray, List.set_cons_zero, List.set_cons_succ]
  refine wpAnyH_takeD (i := 11) (d := 64) (v := ?_) rfl rfl (by kernel_rfl) (by kernel_rfl) (by kernel_rfl) (fun _ _ _ h => h) (Or.inl ⟨by rfl, ?_⟩) (by assumption) ?_
  rotate_left 1
  · intro w hSw; (try dsimp only at hSw); go_simp; (try with_reducible rfl)
  simp only [List.setIfInBounds_toArray, List.set_cons_zero, List.set_cons_succ]
  refine wpAnyH_takeD (i := 12) (d := 65) (v := ?_) rfl rfl (by kernel_rfl) (by kernel_rfl) (by kernel_rfl) (fun _ _ _ h => h) (Or.inl ⟨by rfl, ?_⟩) (by assumption) ?_
  rotate_left 1
  · intro w hSw; (try dsimp only at hSw); go_simp; (try with_reducible rfl)
  simp only [List.setIfInBounds_toArray, List.set_cons_zero, List.set_cons_succ]
  refine wpAnyH_takeD (i := 13) (d := 66) (v := ?_) rfl rfl (by kernel_rfl) (by kernel_rfl) (by kernel_rfl) (fun _ _ _ h => h) (Or.inl ⟨by rfl, ?_⟩) (by assumption) ?_
  rotate_left 1
  · intro w hSw; (try dsimp only at hSw); go_simp; (try with_reducible rfl)
  simp only [List.setIfInBounds_toArray, List.set_cons_zero, List.set_cons_succ]
  refine wpAnyH_takeD (i := 14) (d := 67) (v := ?_) rfl rfl (by kernel_rfl) (by kernel_rfl) (by kernel_rfl) (fun _ _ _ h => h) (Or.inl ⟨by rfl, ?_⟩) (by assumption) ?_
  rotate_left 1
  · intro w hSw; (try dsimp only at hSw); go_simp; (try with_reducible rfl)
  simp only [List.setIfInBounds_toArray, List.set_cons_zero, List.set_cons_succ]
  refine wpAnyH_takeD (i := 15) (d := 68) (v := ?_) rfl rfl (by kernel_rfl) (by kernel_rfl) (by kernel_rfl) (fun _ _ _ h => h) (Or.inl ⟨by rfl, ?_⟩) (by assumption) ?_
  rotate_left 1
  · intro w hSw; (try dsimp only at hSw); go_simp; (try with_reducible rfl)
  simp only [List.setIfInBounds_toArray, List.set_cons_zero, List.set_cons_succ]
  refine wpAnyH_takeD (i := 16) (d := 69) (v := ?_) rfl rfl (by kernel_rfl) (by kernel_rfl) (by kernel_rfl) (fun _ _ _ h => h) (Or.inl ⟨by rfl, ?_⟩) (by assumption) ?_
  rotate_left 1
  · intro w hSw; (try dsimp only at hSw); go_simp; (try with_reducible rfl)
  simp only [List.setIfInBounds_toArray, List.set_cons_zero, List.set_cons_succ]
  refine wpAnyH_takeD (i := 17) (d := 70) (v := ?_) rfl rfl (by kernel_rfl) (by kernel_rfl) (by kernel_rfl) (fun _ _ _ h => h) (Or.inl ⟨by rfl, ?_⟩) (by assumption) ?_
  rotate_left 1
  · intro w hSw; (try dsimp only at hSw); go_simp; (try with_reducible rfl)
  simp only [List.setIfInBounds_toArray, List.set_cons_zero, List.set_cons_succ]
  refine wpAnyH_takeD (i := 18) (d := 71) (v := ?_) rfl rfl (by kernel_rfl) (by kernel_rfl) (by kernel_rfl) (fun _ _ _ h => h) (Or.inl ⟨by rfl, ?_⟩) (by assumption) ?_
  rotate_left 1
  · intro w hSw; (try dsimp only at hSw); go_simp; (try with_reducible rfl)
  simp only [List.setIfInBounds_toArray, List.set_cons_zero, List.set_cons_succ]
  refine wpAnyH_takeD (i := 19) (d := 72) (v := ?_) rfl rfl (by kernel_rfl) (by kernel_rfl) (by kernel_rfl) (fun _ _ _ h => h) (Or.inl ⟨by rfl, ?_⟩) (by assumption) ?_
  rotate_left 1
  · intro w hSw; (try dsimp only at hSw); go_simp; (try with_reducible rfl)
  simp only [List.setIfInBounds_toArray, List.set_cons_zero, List.set_cons_succ]
  refine wpAnyH_takeD (i := 20) (d := 73) (v := ?_) rfl rfl (by kernel_rfl) (by kernel_rfl) (by kernel_rfl) (fun _ _ _ h => h) (Or.inl ⟨by rfl, ?_⟩) (by assumption) ?_
  rotate_left 1
  · intro w hSw; (try dsimp only at hSw); go_simp; (try with_reducible rfl)
  simp only [List.setIfInBounds_toArray, List.set_cons_zero, List.set_cons_succ]
  replace O2 := Lib.hid (O2.out.alloc (.cells #[.int .i64 N, .int .i64 (rat l0 k).2, .int .i64 ((rat l0 k).1 - N), .int .i64 (rat l0 k).2] 35))
  replace B := Lib.hid (B.out.alloc B.out.size (.cells #[.int .i64 N, .int .i64 (rat l0 k).2, .int .i64 ((rat l0 k).1 - N), .int .i64 (rat l0 k).2] 35))
  have LT : Hid (RdG (wd.alloc (.cells #[.int .i64 N, .int .i64 (rat l0 k).2, .int .i64 ((rat l0 k).1 - N), .int .i64 (rat l0 k).2] 35)) (wd.alloc (.cells #[.int .i64 N, .int .i64 (rat l0 k).2, .int .i64 ((rat l0 k).1 - N), .int .i64 (rat l0 k).2] 35)).heap.size (some ⟨wd.heap.size, 0, none⟩) 2 [(N, (rat l0 k).2), ((rat l0 k).1 - N, (rat l0 k).2)]) := Win.lit2 wd (N, (rat l0 k).2) ((rat l0 k).1 - N, (rat l0 k).2) 35
  clear hHeld
  refine wpAnyH_ready (rs := [21]) (by kernel_rfl) (by simp) ?_
  refine AllReadyH.cons rfl (fun K hK => ?_) AllReadyH.nil
  go_simp
  refine hK.out _ _ (SAG.out _ B.out) (fun hHeld => ?_)
  clear hK K
  generalize wd.alloc (.cells #[.int .i64 N, .int .i64 (rat l0 k).2, .int .i64 ((rat l0 k).1 - N), .int .i64 (rat l0 k).2] 35) = we at *
  clear hHeld
  refine wpAnyH_ready (rs := [22]) (by kernel_rfl) (by simp) ?_
  refine AllReadyH.cons rfl (fun K hK => ?_) AllReadyH.nil
  refine step_pushP (v := .slice A2 k c2) (m := 2) (c := 2) winsP rfl (.tmp 53) (.tmp 74) rfl rfl rfl (by decide) O2.out LT.out B.out B.out.size (by have := H12.out; have := HK.out; omega) ?_
  intro v3 w3 hown3 hb3 hs3
  obtain ⟨A3, c3, rfl⟩ := own_slice2 hown3
  replace O2 := Lib.hid hown3
  replace B := Lib.hid hb3
  clear hown3 hb3 hs3 LT
  refine hK.out _ _ (SAG.out _ B.out) (fun hHeld => ?_)
  clear hK K
  simp only [Act.put, List.getElem_toArray, List.getElem_cons_zero, List.getElem_cons_succ, List.setIfInBounds_toArray, List.set_cons_zero, List.set_cons_succ]
  refine wpAnyH_takeD (i := 23) (d := 9) (v := ?_) rfl rfl (by kernel_rfl) (by kernel_rfl) (by kernel_rfl) (fun _ _ _ h => h) (Or.inl ⟨by rfl, ?_⟩) (by assumption) ?_
  rotate_left 1
  · intro w hSw; (try dsimp only at hSw); go_simp; (try with_reducible rfl)
  simp only [List.setIfInBounds_toArray, List.set_cons_zero, List.set_cons_succ]
  refine wpAnyH_done (by kernel_rfl) ?_ _
  clear hHeld
  have hk1 : k + 1 ≤ len0 := HK.out
  obtain ⟨A4, c4, s4, hr4, _, _⟩ := sliceP_l winsP (some ⟨b, o, none⟩) (n := len0) (c := cap0) (l := k + 1) hk1 HCP.out
  have sl : ∀ W : World, (Instr.slice 22 (.slice (some ⟨b, o, none⟩) len0 cap0) (some (.int .i64 ((k : Int) + 1))) none none).run Try.prog W = .ok (.slice A4 (len0 - (k + 1)) c4) W := fun W => by
    have := s4 .i64 W
    rw [show ((k + 1 : Nat) : Int) = (k : Int) + 1 from by push_cast; rfl] at this
    exact this
  have R4 := Lib.hid (hr4 _ _ _ (R.out.below B.out))
  clear hk1 s4 hr4
  go_wp2_with (first
    | (at_builtin; refine wpList_pushP winsP rfl _ _ rfl (v := .slice A3 (k + 2) c3) rfl rfl O2.out R4.out B.out B.out.size (by have := H12.out; have := HK.out; omega) ?_; intro v4 w4 hown4 hb4 hs4; obtain ⟨A5, c5, rfl⟩ := own_slice2 hown4)
    | fail)
  clear sl
  obtain ⟨n5, hn5⟩ : ∃ n5, k + 2 + (len0 - (k + 1)) = n5 := ⟨_, rfl⟩
  rw [hn5] at hown4 ⊢
  have M := Lib.hid (RdG.of_own hown4)
  replace B := Lib.hid hb4
  have HN5 : Hid (n5 ≤ 9223372036854775807) := by (show _ ≤ _); have := H12.out; have := HK.out; omega
  have HW : Hid (wholeW (l0.take k ++ [(N, (rat l0 k).2), ((rat l0 k).1 - N, (rat l0 k).2)] ++ l0.drop (k + 1)) = wholeW l0) := cut_whole HM.out (by rw [R.out.1]; exact H12.out) HKL.out HNN.out.1 HNN.out.2
  clear hown4 hb4 hs4 hn5 O2 R4
  refine (Sch.whole _ len0 cap0 l0 w4 ((R.out.below B.out).more B.out.size) HC.out).mono ?_
  rintro e w5 ⟨A6, n6, c6, rfl, hown, hb⟩
  have Z1 := Lib.hid (RdZ.of_own hown)
  replace M := Lib.hid (M.out.to hb)
  replace B := Lib.hid (B.out.trans (hb.mono B.out.size))
  clear hb hown
  go_wp2_with fail
  refine (Sch.whole A5 n5 c5 _ w5 M.out HN5.out).mono ?_
  rw [HW.out]
  rintro e w6 ⟨A7, n7, c7, rfl, hown, hb⟩
  have Z2 := Lib.hid (RdZ.of_own hown)
  replace Z1 := Lib.hid (Z1.out.to hb)
  replace B := Lib.hid (B.out.trans (hb.mono B.out.size))
  clear hb hown M
  obtain rfl : n6 = n7 := Z1.out.1.symm.trans Z2.out.1
  have HSM : Hid (n6 ≤ 64) := by (show _ ≤ _); rw [← Z1.out.1]; exact wholeW_small l0
  have hn0 : ((n6 : Int) == 0) = false := by
    have h1 := wholeW_len l0
    have h2 := frameW_pos.2 HM.out
    rw [Z1.out.1] at h1
    have : (n6 : Int) ≠ 0 := by omega
    simpa using this
  go_wp2_with fail
  clear hn0
  go_loopw [12] (fun i wr => ∃ (j q : Nat), j ≤ n6 ∧ i = .int .i64 (j : Int) ∧ wr = w6.drewN q) (fun i _ => n6 - (intOf i).toNat)
  case atStart => exact ⟨0, 0, Nat.zero_le _, rfl, rfl⟩
  case round =>
    obtain ⟨j, q, hj, rfl, rfl⟩ := hrel
    by_cases hlt : j < n6
    · have HLT : Hid (j < n6) := hlt
      obtain ⟨b1, o1, rfl, _, hc1⟩ := Z1.out.2 (by omega)
      obtain ⟨b2, o2, rfl, _, hc2⟩ := Z2.out.2 (by omega)
      have x1 : w6.cell? ⟨b1, o1 + j, none⟩ = some (.int .i64 (zat (wholeW l0) j)) := hc1 j hlt
      have x2 : w6.cell? ⟨b2, o2 + j, none⟩ = some (.int .i64 (zat (wholeW l0) j)) := hc2 j hlt
      have hjI : (j : Int) < (n6 : Int) := by omega
      have hwj : IntKind.i64.wrap ((j : Int) + 1) = (j : Int) + 1 := by have := HSM.out; rw [IntKind.wrap_i64]; omega
      clear hc1 hc2 hlt hj
      generalize zat (wholeW l0) j = z at *
      go_wp2_with fail
      go_quiet (fail)
      go_wp2_with fail
      go_roundw
      case rel => exact ⟨j + 1, _, HLT.out, by go_num, rfl⟩
      case measure => have := HLT.out; simp [intOf]; omega
    · obtain rfl : j = n6 := by omega
      have hjI : ¬ (j : Int) < (j : Int) := by omega
      clear hj hlt
      replace B := Lib.hid (below_drewN B.out q)
      go_wp2_with fail
      refine (awake _).mono ?_
      rintro e w9 ⟨rfl, hb⟩
      replace B := Lib.hid (B.out.trans (hb.mono B.out.size))
      clear hb
      go_wp2_with fail
      go_ret
      exact ⟨rfl, B.out⟩

set_option maxRecDepth 100000 in
theorem lifted (os : Os) (started : os.Started) (H : Type) (enc : TypeId × Value → H) :
    ReturnsInHanded {} Try.checked os 7 .any (Rows.scheduleSplitSpec.pre6 enc Try.prog Try.f7 Rows.scheduleSplitRow.domain false) (Rows.scheduleSplitSpec.post enc Try.prog Try.f7 false true false false) := by
  refine returnsInHanded_of_change (C := Try.checked) own started (by kernel_rfl) Try.func7
    (ChangeSpec.witness6 (enc := enc) (C := Try.checked) false ⟨#[], #[.slice none 0 0, .int .i64 0, .int .i64 0], []⟩ 8 (by kernel_rfl) (by kernel_rfl) (by kernel_rfl) (by kernel_rfl)) ?_
  intro W base args ds gs before hval0 hW hcnd _
  have hval : ∀ (j : Nat) t v, Try.f7.params[j]? = some t → args[j]? = some v → Value.okWide Try.prog W .any base t v := hval0
  have hW' := hW
  obtain ⟨p, q, hA0, hV, rfl, hfz, hnd⟩ := hW
  have hA : DataW.TrodAll enc Try.prog W 0 (fun _ => true) true Try.f7.params.toList args.toList ds p := hA0
  rw [Try.params7] at hA hval
  obtain ⟨v0, vs0, d0, ds0, p0, q0, hargs, rfl, rfl, h0, r0⟩ := trodAll_cons hA
  obtain ⟨v1, vs1, d1, ds1, p1, q1, rfl, rfl, rfl, h1, r1⟩ := trodAll_cons r0
  obtain ⟨v2, vs2, d2, ds2, p2, q2, rfl, rfl, rfl, h2, r2⟩ := trodAll_cons r1
  obtain ⟨rfl, rfl, rfl⟩ := trodAll_nil r2
  obtain rfl : args = #[v0, v1, v2] := by cases args; simp_all
  obtain ⟨rfl, rfl⟩ := trodVars_none hV
  have k0 := h0
  have lt0 : ∀ x ∈ p0, x.block < W.heap.size := by obtain ⟨m, hm⟩ := k0; exact DataW.trod_lt m _ _ _ hm
  obtain ⟨a0, len0, cap0, l0, rfl, w0⟩ := open_wins (hval 0 22 v0 rfl rfl) h0
  obtain ⟨a1, rfl, rfl, rfl, w1⟩ := open_int Try.underlying3 (hval 1 3 v1 rfl rfl) h1
  obtain ⟨a2, rfl, rfl, rfl, w2⟩ := open_int Try.underlying3 (hval 2 3 v2 rfl rfl) h2
  clear hA0 hval0
  refine (walk a0 len0 cap0 l0 a1 a2 W w0 w1 w2).mono fun e W' ⟨he, bel⟩ => ?_
  subst he
  exact ⟨_, rfl, _, _, _, [], _, [], hW', trodAll_mk1 (shut_bool Try.underlying4 _), (trodAll_cons_mk (Below.trod laidOut (by kernel_rfl) (of_decide_eq_true (by kernel_rfl)) k0 bel lt0) (trodAll_cons_mk (shut_int Try.underlying3 w1) (trodAll_cons_mk (shut_int Try.underlying3 w2) trodAll_mk0))), rfl, bel.frame _, fun h => by cases h⟩

theorem over : Rows.scheduleSplitRow.holds Try.pinned (OpenSpec.ofChange Rows.scheduleSplitSpec) :=
  OpenClaim.holds_of_wide 7 Try.f7 rfl rfl rfl rfl rfl rfl rfl ⟨rfl, rfl, rfl, rfl, rfl⟩ rfl rfl rfl rfl rfl (by kernel_rfl) Try.func7 (by kernel_rfl)
    (of_decide_eq_true (by kernel_rfl)) (by unfold Func.isWrapper; first | (rw [if_pos (by decide +kernel)]; kernel_rfl) | (rw [if_neg (by decide +kernel)]; exact ⟨rfl, rfl⟩))
    (fun os started H enc _ => lifted os started H enc)

theorem proved : Rows.ScheduleSplitSaid := over
end Go.Proofs.Ytdlhbggnhamenaa.scheduleSplit
