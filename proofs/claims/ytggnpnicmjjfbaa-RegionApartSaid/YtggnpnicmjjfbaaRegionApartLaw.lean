/- For any regions and any two places the law RegionApart of citadellaw08 returns true: whether regions (at most 20) are apart doesn't hang on their order; a region isn't apart from itself. Conditions: none beyond those that the statement itself prints. -/
import Derived.Test.YtggnpnicmjjfbaaRows
import Derived.Test.YtggnpnicmjjfbaaRegE
import Derived.Test.YtggnpnicmjjfbaaRegN
import Derived.Test.YtggnpnicmjjfbaaRegC
import Derived.WalkKit
import Derived.ProofKit
import Derived.OpenShut
import Derived.ShutString
import Derived.ChangeOld
import Derived.Below
namespace Go.Proofs.Ytggnpnicmjjfbaa.regionApart
open Go.ChangeShapes Go.WideShapes Go.ChangeAt Go.RowKit
open Go.ChangeMaps (open_string shut_string)
set_option linter.unusedVariables false
set_option linter.unusedSimpArgs false

theorem own : ownKnob Try.prog.godebug = none := by kernel_rfl
theorem laidOut : laidOutB Try.prog = true := by kernel_rfl

theorem wrap64_small {x : Int} (h0 : 0 ≤ x) (h1 : x < 1000) : wrap64 x = x := by
  unfold wrap64; omega
theorem idx_of (a : Int) {n : Nat} (hn : 0 < n) (h : n ≤ 20) : ∃ x : Nat, x < n ∧ wrap64 ((IntKind.u64.wrap a).tmod (n : Int)) = (x : Int) := by
  have hu : 0 ≤ IntKind.u64.wrap a := by rw [IntKind.wrap_u64]; omega
  rw [Int.tmod_eq_emod_of_nonneg hu]
  have h1 := Int.emod_nonneg (IntKind.u64.wrap a) (show (n : Int) ≠ 0 by omega)
  have h2 := Int.emod_lt_of_pos (IntKind.u64.wrap a) (show (0 : Int) < n by omega)
  obtain ⟨x, hx⟩ := Int.eq_ofNat_of_zero_le h1
  rw [hx] at h2 ⊢
  exact ⟨x, by omega, wrap64_small (by omega) (by omega)⟩
set_option maxRecDepth 1000000 in
set_option maxHeartbeats 4000000 in
theorem walk (a0 : Option Addr) (len0 cap0 : Nat) (l0 : List Reg) (a1 : Int) (a2 : Int) (w : World) (w0 : RdG w w.heap.size a0 len0 l0 ∧ len0 ≤ cap0 ∧ cap0 ≤ 9223372036854775807) (w1 : (Lit.int .i64 a1).wf = true) (w2 : (Lit.int .i64 a2).wf = true) :
    Calls Try.prog 7 #[.slice a0 len0 cap0, .int .i64 a1, .int .i64 a2] w fun e w' => e = .returned (.bool true) ∧ Below w.heap.size w w' := by
  obtain ⟨r0, hcap, hcap'⟩ := w0
  have R := Lib.hid r0
  have HC := Lib.hid hcap
  have HC' := Lib.hid hcap'
  have R0 := Lib.hid r0
  have W1 := Lib.hid w1
  have W2 := Lib.hid w2
  clear r0 hcap hcap' w1 w2
  have B := Lib.hid (Below.refl w.heap.size w)
  rcases Nat.eq_zero_or_pos len0 with rfl | hpos
  · go_enter Try.func7, Try.ntmps7
    go_wp2_with fail
    refine (awake _).mono ?_
    rintro e w9 ⟨rfl, hb⟩
    replace B := Lib.hid (B.out.trans (hb.mono B.out.size))
    clear hb
    go_wp2_with fail
    go_ret
    exact ⟨rfl, B.out⟩
  have hne : ((len0 : Int) == 0) = false := by simp; omega
  by_cases h20 : 20 < len0
  · have h20I : (len0 : Int) > 20 := by omega
    clear h20 hpos
    go_enter Try.func7, Try.ntmps7
    go_wp2_with fail
    refine (awake _).mono ?_
    rintro e w9 ⟨rfl, hb⟩
    replace B := Lib.hid (B.out.trans (hb.mono B.out.size))
    clear hb
    go_wp2_with fail
    go_ret
    exact ⟨rfl, B.out⟩
  have h20I : ¬ (len0 : Int) > 20 := by omega
  have HN : Hid (0 < len0 ∧ len0 ≤ 20) := ⟨hpos, by omega⟩
  have hz1 : ¬ (len0 : Int) = 0 := by omega
  have hz2 : ¬ len0 = 0 := by omega
  clear h20 hpos
  obtain ⟨x, hx, hxe⟩ := idx_of a1 HN.out.1 HN.out.2
  obtain ⟨y, hy, hye⟩ := idx_of a2 HN.out.1 HN.out.2
  have HX := Lib.hid hx
  have HY := Lib.hid hy
  clear hx hy
  have R2 := Lib.hid (R.out.to ((Below.refl _ _).alloc (Nat.le_refl _) (.cells #[] 23)))
  have FR : Hid ((w.alloc (.cells #[] 23)).heap[w.heap.size]? = some (.cells #[] 23 (0, 0))) := by (show (w.heap.push _)[w.heap.size]? = _); simp
  have BF := Lib.hid ((Below.refl w.heap.size w).alloc (Nat.le_refl _) (.cells #[] 23))
  go_enter Try.func7, Try.ntmps7
  go_wp2_with (first
    | (at_builtin; refine wpList_pushR rfl _ _ rfl (v := .slice (some ⟨w.heap.size, 0, none⟩) 0 0) rfl rfl (own_fresh FR.out (Nat.le_refl _)) R2.out BF.out BF.out.size (by have := HN.out; omega) ?_; intro v2 w1 hown1 hb1 hs1; rw [Nat.zero_add, List.nil_append] at hown1; obtain ⟨A2, c2, rfl⟩ := own_slice2 hown1)
    | fail)
  replace R := Lib.hid (R.out.to hb1)
  replace B := Lib.hid hb1
  have M := Lib.hid (RdG.of_own hown1)
  have HC2 := Lib.hid (own_cap2 hown1)
  obtain ⟨g, rfl, hgw, hfz⟩ : ∃ g, A2 = some ⟨g, 0, none⟩ ∧ w.heap.size ≤ g ∧ ∀ k, w1.frozen? ⟨g, k, none⟩ = false := own_head2 hown1 HN.out.1
  have HGW := Lib.hid hgw
  have HFZ := Lib.hid hfz
  clear hown1 hb1 hs1 R2 FR BF hgw hfz
  obtain ⟨b, o, rfl, hbo, hc⟩ := R.out.2 HN.out.1
  obtain ⟨g', o', hgo, hbg, hm⟩ := M.out.2 HN.out.1
  obtain ⟨rfl, rfl⟩ : g' = g ∧ o' = 0 := by injection hgo with h; injection h with h1 h2; exact ⟨h1.symm, h2.symm⟩
  have c0 := (hc x HX.out).1
  have c1 := (hc x HX.out).2
  have d0 := (hc y HY.out).1
  have d1 := (hc y HY.out).2
  have m0 := (hm x HX.out).1
  have m1 := (hm x HX.out).2
  have f0 := HFZ.out (x * 2)
  have f1 := HFZ.out (x * 2 + 1)
  rw [Nat.zero_add] at m0 m1
  have HBG : Hid (b < w.heap.size) := by
    show _ < _
    have := R0.out.2 HN.out.1
    obtain ⟨b1, o1, e1, hb1, _⟩ := this
    injection e1 with e1; injection e1 with e1 e2
    omega
  have hxI : (x : Int) < (len0 : Int) := by have := HX.out; omega
  have hyI : (y : Int) < (len0 : Int) := by have := HY.out; omega
  clear hc hm hbg hgo hbo
  go_wp2_with fail
  replace c0 : w1.drew.cell? ⟨b, o + x * 2, none⟩ = some (.int .i64 (rat l0 x).1) := c0
  replace c1 : w1.drew.cell? ⟨b, o + x * 2 + 1, none⟩ = some (.int .i64 (rat l0 x).2) := c1
  replace d0 : w1.drew.cell? ⟨b, o + y * 2, none⟩ = some (.int .i64 (rat l0 y).1) := d0
  replace d1 : w1.drew.cell? ⟨b, o + y * 2 + 1, none⟩ = some (.int .i64 (rat l0 y).2) := d1
  replace m0 : w1.drew.cell? ⟨g', x * 2, none⟩ = some (.int .i64 (rat l0 x).1) := m0
  replace m1 : w1.drew.cell? ⟨g', x * 2 + 1, none⟩ = some (.int .i64 (rat l0 x).2) := m1
  replace f0 : w1.drew.frozen? ⟨g', x * 2, none⟩ = false := f0
  replace f1 : w1.drew.frozen? ⟨g', x * 2 + 1, none⟩ = false := f1
  replace HFZ : Hid (∀ k, w1.drew.frozen? ⟨g', k, none⟩ = false) := HFZ.out
  replace R : Hid (RdG w1.drew w1.drew.heap.size (some ⟨b, o, none⟩) len0 l0) := R.out
  replace M : Hid (RdG w1.drew w1.drew.heap.size (some ⟨g', 0, none⟩) len0 l0) := M.out
  replace B := Lib.hid B.out.drew
  refine wp_region_held_drew (S := (fun w' => w'.cell? ⟨b, o + x * 2, none⟩ = some (.int .i64 (rat l0 x).1) ∧ w'.cell? ⟨b, o + x * 2 + 1, none⟩ = some (.int .i64 (rat l0 x).2) ∧ w'.cell? ⟨b, o + y * 2, none⟩ = some (.int .i64 (rat l0 y).1) ∧ w'.cell? ⟨b, o + y * 2 + 1, none⟩ = some (.int .i64 (rat l0 y).2))) (by kernel_rfl) (⟨c0, c1, d0, d1⟩) (fun hHeld => ?_)
  generalize w1.drew = wd at *
  refine wpAnyH_takeD (i := 0) (d := 34) (v := ?_) rfl rfl (by kernel_rfl) (by kernel_rfl) (by kernel_rfl) (fun _ _ _ h => h) (Or.inl ⟨by rfl, ?_⟩) (by assumption) ?_
  rotate_left 1
  · intro w hSw; (try dsimp only at hSw); go_simp; (try with_reducible rfl)
  simp only [List.setIfInBounds_toArray, List.set_cons_zero, List.set_cons_succ]
  refine wpAnyH_takeD (i := 1) (d := 35) (v := ?_) rfl rfl (by kernel_rfl) (by kernel_rfl) (by kernel_rfl) (fun _ _ _ h => h) (Or.inl ⟨by rfl, ?_⟩) (by assumption) ?_
  rotate_left 1
  · intro w hSw; (try dsimp only at hSw); go_simp; (try with_reducible rfl)
  simp only [List.setIfInBounds_toArray, List.set_cons_zero, List.set_cons_succ]
  refine wpAnyH_takeD (i := 2) (d := 36) (v := ?_) rfl rfl (by kernel_rfl) (by kernel_rfl) (by kernel_rfl) (fun _ _ _ h => h) (Or.inl ⟨by rfl, ?_⟩) (by assumption) ?_
  rotate_left 1
  · intro w hSw; (try dsimp only at hSw); go_simp; (try with_reducible rfl)
  simp only [List.setIfInBounds_toArray, List.set_cons_zero, List.set_cons_succ]
  refine wpAnyH_takeD (i := 3) (d := 37) (v := ?_) rfl rfl (by kernel_rfl) (by kernel_rfl) (by kernel_rfl) (fun _ _ _ h => h) (Or.inl ⟨by rfl, ?_⟩) (by assumption) ?_
  rotate_left 1
  · intro w hSw; (try dsimp only at hSw); go_simp; (try with_reducible rfl)
  simp only [List.setIfInBounds_toArray, List.set_cons_zero, List.set_cons_succ]
  refine wpAnyH_takeD (i := 4) (d := 38) (v := ?_) rfl rfl (by kernel_rfl) (by kernel_rfl) (by kernel_rfl) (fun _ _ _ h => h) (Or.inl ⟨by rfl, ?_⟩) (by assumption) ?_
  rotate_left 1
  · intro w hSw; (try dsimp only at hSw); go_simp; (try with_reducible rfl)
  simp only [List.setIfInBounds_toArray, List.set_cons_zero, List.set_cons_succ]
  refine wpAnyH_takeD (i := 5) (d := 39) (v := ?_) rfl rfl (by kernel_rfl) (by kernel_rfl) (by kernel_rfl) (fun _ _ _ h => h) (Or.inl ⟨by rfl, ?_⟩) (by assumption) ?_
  rotate_left 1
  · intro w hSw; (try dsimp only at hSw); go_simp; (try with_reducible rfl)
  simp only [List.setIfInBounds_toArray, List.set_cons_zero, List.set_cons_succ]
  refine wpAnyH_takeD (i := 6) (d := 40) (v := ?_) rfl rfl (by kernel_rfl) (by kernel_rfl) (by kernel_rfl) (fun _ _ _ h => h) (Or.inl ⟨by rfl, ?_⟩) (by assumption) ?_
  rotate_left 1
  · intro w hSw; (try dsimp only at hSw); go_simp; (try with_reducible rfl)
  simp only [List.setIfInBounds_toArray, List.set_cons_zero, List.set_cons_succ]
  refine wpAnyH_takeD (i := 7) (d := 41) (v := ?_) rfl rfl (by kernel_rfl) (by kernel_rfl) (by kernel_rfl) (fun _ _ _ h => h) (Or.inl ⟨by rfl, ?_⟩) (by assumption) ?_
  rotate_left 1
  · intro w hSw; (try dsimp only at hSw); go_simp; (try with_reducible rfl)
  simp only [List.setIfInBounds_toArray, List.set_cons_zero, List.set_cons_succ]
  refine wpAnyH_takeD (i := 8) (d := 42) (v := ?_) rfl rfl (by kernel_rfl) (by kernel_rfl) (by kernel_rfl) (fun _ _ _ h => h) (Or.inl ⟨by rfl, ?_⟩) (by assumption) ?_
  rotate_left 1
  · intro w hSw; (try dsimp only at hSw); go_simp; (try with_reducible rfl)
  simp only [List.setIfInBounds_toArray, List.set_cons_zero, List.set_cons_succ]
  refine wpAnyH_takeD (i := 9) (d := 43) (v := ?_) rfl rfl (by kernel_rfl) (by kernel_rfl) (by kernel_rfl) (fun _ _ _ h => h) (Or.inl ⟨by rfl, ?_⟩) (by assumption) ?_
  rotate_left 1
  · intro w hSw; (try dsimp only at hSw); go_simp; (try with_reducible rfl)
  simp only [List.setIfInBounds_toArray, List.set_cons_zero, List.set_cons_succ]
  refine wpAnyH_takeD (i := 10) (d := 44) (v := ?_) rfl rfl (by kernel_rfl) (by kernel_rfl) (by kernel_rfl) (fun _ _ _ h => h) (Or.inl ⟨by rfl, ?_⟩) (by assumption) ?_
  rotate_left 1
  · intro w hSw; (try dsimp only at hSw); go_simp; (try with_reducible rfl)
  simp only [List.setIfInBounds_toArray, List.set_cons_zero, List.set_cons_succ]
  refine wpAnyH_takeD (i := 11) (d := 45) (v := ?_) rfl rfl (by kernel_rfl) (by kernel_rfl) (by kernel_rfl) (fun _ _ _ h => h) (Or.inl ⟨by rfl, ?_⟩) (by assumption) ?_
  rotate_left 1
  · intro w hSw; (try dsimp only at hSw); go_simp; (try with_reducible rfl)
  simp only [List.setIfInBounds_toArray, List.set_cons_zero, List.set_cons_succ]
  refine wpAnyH_takeD (i := 12) (d := 46) (v := ?_) rfl rfl (by kernel_rfl) (by kernel_rfl) (by kernel_rfl) (fun _ _ _ h => h) (Or.inl ⟨by rfl, ?_⟩) (by assumption) ?_
  rotate_left 1
  · intro w hSw; (try dsimp only at hSw); go_simp; (try with_reducible rfl)
  simp only [List.setIfInBounds_toArray, List.set_cons_zero, List.set_cons_succ]
  have far : ∀ (k : Nat) (W : World) (q : Addr) (v : Value), q.block < w.heap.size → (W.setCell ⟨g', k, none⟩ v).cell? q = W.cell? q := fun k W q v hq => World.cell?_setCell_other _ _ _ _ (fun e => by rw [← e] at hq; have := HGW.out; dsimp only at hq; omega)
  have FAR := Lib.hid far
  clear far
  refine wpAnyH_ready (rs := [13]) (by kernel_rfl) (by simp) ?_
  refine AllReadyH.cons rfl (fun K hK => ?_) AllReadyH.nil
  go_simp
  refine hK.out _ _ (⟨by rw [FAR.out _ _ _ _ HBG.out, FAR.out _ _ _ _ HBG.out]; exact c0, by rw [FAR.out _ _ _ _ HBG.out, FAR.out _ _ _ _ HBG.out]; exact c1, by rw [FAR.out _ _ _ _ HBG.out, FAR.out _ _ _ _ HBG.out]; exact d0, by rw [FAR.out _ _ _ _ HBG.out, FAR.out _ _ _ _ HBG.out]; exact d1⟩) (fun hHeld => ?_)
  clear hK K
  replace M := Lib.hid (M.out.set HX.out (rat l0 y))
  obtain ⟨c0, c1, d0, d1⟩ := hHeld
  replace HFZ : Hid (∀ k, ((wd.setCell ⟨g', x * 2, none⟩ (.int .i64 (rat l0 y).1)).setCell ⟨g', x * 2 + 1, none⟩ (.int .i64 (rat l0 y).2)).frozen? ⟨g', k, none⟩ = false) := fun k => by rw [World.frozen?_setCell, World.frozen?_setCell]; exact HFZ.out k
  replace B := Lib.hid ((B.out.setCell (p := ⟨g', x * 2, none⟩) HGW.out (.int .i64 (rat l0 y).1)).setCell (p := ⟨g', x * 2 + 1, none⟩) HGW.out (.int .i64 (rat l0 y).2))
  have hR1 : RdG ((wd.setCell ⟨g', x * 2, none⟩ (.int .i64 (rat l0 y).1)).setCell ⟨g', x * 2 + 1, none⟩ (.int .i64 (rat l0 y).2)) w.heap.size (some ⟨b, o, none⟩) len0 l0 := R0.out.below B.out
  have RR := Lib.hid hR1
  have HS1 : Hid (wd.heap.size ≤ ((wd.setCell ⟨g', x * 2, none⟩ (.int .i64 (rat l0 y).1)).setCell ⟨g', x * 2 + 1, none⟩ (.int .i64 (rat l0 y).2)).heap.size) := by (show _ ≤ _); simp [World.setCell]
  clear m0 m1 f0 f1 R hR1
  generalize (wd.setCell ⟨g', x * 2, none⟩ (.int .i64 (rat l0 y).1)).setCell ⟨g', x * 2 + 1, none⟩ (.int .i64 (rat l0 y).2) = wf at *
  obtain ⟨g2, o2, hgo, _, hm⟩ := M.out.2 HN.out.1
  injection hgo with hgo
  injection hgo with hg1 hg2
  subst hg1; subst hg2
  have m0 := (hm y HY.out).1
  have m1 := (hm y HY.out).2
  rw [Nat.zero_add] at m0 m1
  have f0 := HFZ.out (y * 2)
  have f1 := HFZ.out (y * 2 + 1)
  have hHeld : (fun w' => w'.cell? ⟨b, o + x * 2, none⟩ = some (.int .i64 (rat l0 x).1) ∧ w'.cell? ⟨b, o + x * 2 + 1, none⟩ = some (.int .i64 (rat l0 x).2) ∧ w'.cell? ⟨b, o + y * 2, none⟩ = some (.int .i64 (rat l0 y).1) ∧ w'.cell? ⟨b, o + y * 2 + 1, none⟩ = some (.int .i64 (rat l0 y).2)) wf := ⟨c0, c1, d0, d1⟩
  dsimp only at hHeld
  clear hm
  refine wpAnyH_takeD (i := 14) (d := 47) (v := ?_) rfl rfl (by kernel_rfl) (by kernel_rfl) (by kernel_rfl) (fun _ _ _ h => h) (Or.inl ⟨by rfl, ?_⟩) (by assumption) ?_
  rotate_left 1
  · intro w hSw; (try dsimp only at hSw); go_simp; (try with_reducible rfl)
  simp only [List.setIfInBounds_toArray, List.set_cons_zero, List.set_cons_succ]
  refine wpAnyH_ready (rs := [15]) (by kernel_rfl) (by simp) ?_
  refine AllReadyH.cons rfl (fun K hK => ?_) AllReadyH.nil
  go_simp
  refine hK.out _ _ (⟨by rw [FAR.out _ _ _ _ HBG.out, FAR.out _ _ _ _ HBG.out]; exact c0, by rw [FAR.out _ _ _ _ HBG.out, FAR.out _ _ _ _ HBG.out]; exact c1, by rw [FAR.out _ _ _ _ HBG.out, FAR.out _ _ _ _ HBG.out]; exact d0, by rw [FAR.out _ _ _ _ HBG.out, FAR.out _ _ _ _ HBG.out]; exact d1⟩) (fun hHeld => ?_)
  clear hK K
  refine wpAnyH_done (by kernel_rfl) ?_ _
  replace M := Lib.hid (M.out.set HY.out (rat l0 x))
  replace B := Lib.hid ((B.out.setCell (p := ⟨g', y * 2, none⟩) HGW.out (.int .i64 (rat l0 x).1)).setCell (p := ⟨g', y * 2 + 1, none⟩) HGW.out (.int .i64 (rat l0 x).2))
  clear c0 c1 d0 d1 m0 m1 f0 f1 HFZ RR
  obtain ⟨c0, c1, d0, d1⟩ := hHeld
  have R := Lib.hid ((R0.out.below B.out).more B.out.size)
  replace M := Lib.hid (M.out.more (B' := ((wf.setCell ⟨g', y * 2, none⟩ (.int .i64 (rat l0 x).1)).setCell ⟨g', y * 2 + 1, none⟩ (.int .i64 (rat l0 x).2)).heap.size) (Nat.le_trans HS1.out (by simp [World.setCell])))
  generalize (wf.setCell ⟨g', y * 2, none⟩ (.int .i64 (rat l0 x).1)).setCell ⟨g', y * 2 + 1, none⟩ (.int .i64 (rat l0 x).2) = wg at *
  have HSW := Lib.hid (allR_swap (l := l0) (a := x) (b := y) (by rw [R0.out.1]; exact HX.out) (by rw [R0.out.1]; exact HY.out))
  generalize (l0.set x (rat l0 y)).set y (rat l0 x) = m0 at *
  obtain ⟨va, hva⟩ : ∃ k : Int, allR l0 = k := ⟨_, rfl⟩
  obtain ⟨vp, hvp⟩ : ∃ k : Bool, apartR ((rat l0 x).1, (rat l0 x).2) ((rat l0 y).1, (rat l0 y).2) = k := ⟨_, rfl⟩
  have HVA := Lib.hid hva
  have HVP := Lib.hid hvp
  have HVQ : Hid (apartR ((rat l0 y).1, (rat l0 y).2) ((rat l0 x).1, (rat l0 x).2) = vp) := (apartR_symm _ _).trans hvp
  clear hva hvp
  have e1 : (va == va) = true := by simp
  have e2 : (vp == vp) = true := by simp
  go_wp2_with fail
  replace c0 : wg.drew.cell? ⟨b, o + x * 2, none⟩ = some (.int .i64 (rat l0 x).1) := c0
  replace c1 : wg.drew.cell? ⟨b, o + x * 2 + 1, none⟩ = some (.int .i64 (rat l0 x).2) := c1
  replace d0 : wg.drew.cell? ⟨b, o + y * 2, none⟩ = some (.int .i64 (rat l0 y).1) := d0
  replace d1 : wg.drew.cell? ⟨b, o + y * 2 + 1, none⟩ = some (.int .i64 (rat l0 y).2) := d1
  replace R : Hid (RdG wg.drew wg.drew.heap.size (some ⟨b, o, none⟩) len0 l0) := R.out
  replace M : Hid (RdG wg.drew wg.drew.heap.size (some ⟨g', 0, none⟩) len0 m0) := M.out
  replace B := Lib.hid B.out.drew
  refine wp_region_held_drew (S := (fun w' => w'.cell? ⟨b, o + x * 2, none⟩ = some (.int .i64 (rat l0 x).1) ∧ w'.cell? ⟨b, o + x * 2 + 1, none⟩ = some (.int .i64 (rat l0 x).2) ∧ w'.cell? ⟨b, o + y * 2, none⟩ = some (.int .i64 (rat l0 y).1) ∧ w'.cell? ⟨b, o + y * 2 + 1, none⟩ = some (.int .i64 (rat l0 y).2))) (by kernel_rfl) (⟨c0, c1, d0, d1⟩) (fun hHeld => ?_)
  generalize wg.drew = wh at *
  refine wpAnyH_takeD (i := 0) (d := 48) (v := ?_) rfl rfl (by kernel_rfl) (by kernel_rfl) (by kernel_rfl) (fun _ _ _ h => h) (Or.inl ⟨by rfl, ?_⟩) (by assumption) ?_
  rotate_left 1
  · intro w hSw; (try dsimp only at hSw); go_simp; (try with_reducible rfl)
  simp only [List.setIfInBounds_toArray, List.set_cons_zero, List.set_cons_succ]
  refine wpAnyH_takeD (i := 2) (d := 50) (v := ?_) rfl rfl (by kernel_rfl) (by kernel_rfl) (by kernel_rfl) (fun _ _ _ h => h) (Or.inl ⟨by rfl, ?_⟩) (by assumption) ?_
  rotate_left 1
  · intro w hSw; (try dsimp only at hSw); go_simp; (try with_reducible rfl)
  simp only [List.setIfInBounds_toArray, List.set_cons_zero, List.set_cons_succ]
  refine wpAnyH_ready (rs := [1]) (by kernel_rfl) (by simp) ?_
  refine AllReadyH.cons rfl (fun K hK => ?_) AllReadyH.nil
  go_simp
  refine (wAll _ len0 c2 m0 _ M.out HC2.out.1 HC2.out.2).mono ?_
  rw [HSW.out, HVA.out]
  rintro e w6 ⟨rfl, hb⟩
  replace R := Lib.hid (R.out.to hb)
  replace M := Lib.hid (M.out.to hb)
  replace B := Lib.hid (B.out.trans (hb.mono B.out.size))
  replace c0 := Below.kept hb c0
  replace c1 := Below.kept hb c1
  replace d0 := Below.kept hb d0
  replace d1 := Below.kept hb d1
  clear hb hHeld
  go_wp2_with fail
  refine hK.out _ _ (⟨c0, c1, d0, d1⟩) (fun hHeld => ?_)
  clear hK K
  refine wpAnyH_ready (rs := [3]) (by kernel_rfl) (by simp) ?_
  refine AllReadyH.cons rfl (fun K hK => ?_) AllReadyH.nil
  go_simp
  refine (wAll _ len0 cap0 l0 _ R.out HC.out HC'.out).mono ?_
  rw [HVA.out]
  rintro e w6 ⟨rfl, hb⟩
  replace R := Lib.hid (R.out.to hb)
  replace M := Lib.hid (M.out.to hb)
  replace B := Lib.hid (B.out.trans (hb.mono B.out.size))
  replace c0 := Below.kept hb c0
  replace c1 := Below.kept hb c1
  replace d0 := Below.kept hb d0
  replace d1 := Below.kept hb d1
  clear hb hHeld
  go_wp2_with fail
  refine hK.out _ _ (⟨c0, c1, d0, d1⟩) (fun hHeld => ?_)
  clear hK K
  refine wpAnyH_takeD (i := 4) (d := 52) (v := ?_) rfl rfl (by kernel_rfl) (by kernel_rfl) (by kernel_rfl) (fun _ _ _ h => h) (Or.inl ⟨by rfl, ?_⟩) (by assumption) ?_
  rotate_left 1
  · intro w hSw; (try dsimp only at hSw); go_simp; (try with_reducible rfl)
  simp only [List.setIfInBounds_toArray, List.set_cons_zero, List.set_cons_succ]
  refine wpAnyH_takeD (i := 5) (d := 53) (v := ?_) rfl rfl (by kernel_rfl) (by kernel_rfl) (by kernel_rfl) (fun _ _ _ h => h) (Or.inl ⟨by rfl, ?_⟩) (by assumption) ?_
  rotate_left 1
  · intro w hSw; (try dsimp only at hSw); go_simp; (try with_reducible rfl)
  simp only [List.setIfInBounds_toArray, List.set_cons_zero, List.set_cons_succ]
  refine wpAnyH_takeD (i := 6) (d := 54) (v := ?_) rfl rfl (by kernel_rfl) (by kernel_rfl) (by kernel_rfl) (fun _ _ _ h => h) (Or.inl ⟨by rfl, ?_⟩) (by assumption) ?_
  rotate_left 1
  · intro w hSw; (try dsimp only at hSw); go_simp; (try with_reducible rfl)
  simp only [List.setIfInBounds_toArray, List.set_cons_zero, List.set_cons_succ]
  refine wpAnyH_takeD (i := 7) (d := 55) (v := ?_) rfl rfl (by kernel_rfl) (by kernel_rfl) (by kernel_rfl) (fun _ _ _ h => h) (Or.inl ⟨by rfl, ?_⟩) (by assumption) ?_
  rotate_left 1
  · intro w hSw; (try dsimp only at hSw); go_simp; (try with_reducible rfl)
  simp only [List.setIfInBounds_toArray, List.set_cons_zero, List.set_cons_succ]
  refine wpAnyH_takeD (i := 8) (d := 56) (v := ?_) rfl rfl (by kernel_rfl) (by kernel_rfl) (by kernel_rfl) (fun _ _ _ h => h) (Or.inl ⟨by rfl, ?_⟩) (by assumption) ?_
  rotate_left 1
  · intro w hSw; (try dsimp only at hSw); go_simp; (try with_reducible rfl)
  simp only [List.setIfInBounds_toArray, List.set_cons_zero, List.set_cons_succ]
  refine wpAnyH_takeD (i := 9) (d := 57) (v := ?_) rfl rfl (by kernel_rfl) (by kernel_rfl) (by kernel_rfl) (fun _ _ _ h => h) (Or.inl ⟨by rfl, ?_⟩) (by assumption) ?_
  rotate_left 1
  · intro w hSw; (try dsimp only at hSw); go_simp; (try with_reducible rfl)
  simp only [List.setIfInBounds_toArray, List.set_cons_zero, List.set_cons_succ]
  refine wpAnyH_takeD (i := 10) (d := 58) (v := ?_) rfl rfl (by kernel_rfl) (by kernel_rfl) (by kernel_rfl) (fun _ _ _ h => h) (Or.inl ⟨by rfl, ?_⟩) (by assumption) ?_
  rotate_left 1
  · intro w hSw; (try dsimp only at hSw); go_simp; (try with_reducible rfl)
  simp only [List.setIfInBounds_toArray, List.set_cons_zero, List.set_cons_succ]
  refine wpAnyH_takeD (i := 11) (d := 59) (v := ?_) rfl rfl (by kernel_rfl) (by kernel_rfl) (by kernel_rfl) (fun _ _ _ h => h) (Or.inl ⟨by rfl, ?_⟩) (by assumption) ?_
  rotate_left 1
  · intro w hSw; (try dsimp only at hSw); go_simp; (try with_reducible rfl)
  simp only [List.setIfInBounds_toArray, List.set_cons_zero, List.set_cons_succ]
  refine wpAnyH_takeD (i := 12) (d := 60) (v := ?_) rfl rfl (by kernel_rfl) (by kernel_rfl) (by kernel_rfl) (fun _ _ _ h => h) (Or.inl ⟨by rfl, ?_⟩) (by assumption) ?_
  rotate_left 1
  · intro w hSw; (try dsimp only at hSw); go_simp; (try with_reducible rfl)
  simp only [List.setIfInBounds_toArray, List.set_cons_zero, List.set_cons_succ]
  refine wpAnyH_takeD (i := 13) (d := 61) (v := ?_) rfl rfl (by kernel_rfl) (by kernel_rfl) (by kernel_rfl) (fun _ _ _ h => h) (Or.inl ⟨by rfl, ?_⟩) (by assumption) ?_
  rotate_left 1
  · intro w hSw; (try dsimp only at hSw); go_simp; (try with_reducible rfl)
  simp only [List.setIfInBounds_toArray, List.set_cons_zero, List.set_cons_succ]
  refine wpAnyH_takeD (i := 15) (d := 63) (v := ?_) rfl rfl (by kernel_rfl) (by kernel_rfl) (by kernel_rfl) (fun _ _ _ h => h) (Or.inl ⟨by rfl, ?_⟩) (by assumption) ?_
  rotate_left 1
  · intro w hSw; (try dsimp only at hSw); go_simp; (try with_reducible rfl)
  simp only [List.setIfInBounds_toArray, List.set_cons_zero, List.set_cons_succ]
  refine wpAnyH_takeD (i := 16) (d := 64) (v := ?_) rfl rfl (by kernel_rfl) (by kernel_rfl) (by kernel_rfl) (fun _ _ _ h => h) (Or.inl ⟨by rfl, ?_⟩) (by assumption) ?_
  rotate_left 1
  · intro w hSw; (try dsimp only at hSw); go_simp; (try with_reducible rfl)
  simp only [List.setIfInBounds_toArray, List.set_cons_zero, List.set_cons_succ]
  refine wpAnyH_takeD (i := 17) (d := 65) (v := ?_) rfl rfl (by kernel_rfl) (by kernel_rfl) (by kernel_rfl) (fun _ _ _ h => h) (Or.inl ⟨by rfl, ?_⟩) (by assumption) ?_
  rotate_left 1
  · intro w hSw; (try dsimp only at hSw); go_simp; (try with_reducible rfl)
  simp only [List.setIfInBounds_toArray, List.set_cons_zero, List.set_cons_succ]
  refine wpAnyH_takeD (i := 18) (d := 66) (v := ?_) rfl rfl (by kernel_rfl) (by kernel_rfl) (by kernel_rfl) (fun _ _ _ h => h) (Or.inl ⟨by rfl, ?_⟩) (by assumption) ?_
  rotate_left 1
  · intro w hSw; (try dsimp only at hSw); go_simp; (try with_reducible rfl)
  simp only [List.setIfInBounds_toArray, List.set_cons_zero, List.set_cons_succ]
  refine wpAnyH_takeD (i := 19) (d := 67) (v := ?_) rfl rfl (by kernel_rfl) (by kernel_rfl) (by kernel_rfl) (fun _ _ _ h => h) (Or.inl ⟨by rfl, ?_⟩) (by assumption) ?_
  rotate_left 1
  · intro w hSw; (try dsimp only at hSw); go_simp; (try with_reducible rfl)
  simp only [List.setIfInBounds_toArray, List.set_cons_zero, List.set_cons_succ]
  refine wpAnyH_takeD (i := 20) (d := 68) (v := ?_) rfl rfl (by kernel_rfl) (by kernel_rfl) (by kernel_rfl) (fun _ _ _ h => h) (Or.inl ⟨by rfl, ?_⟩) (by assumption) ?_
  rotate_left 1
  · intro w hSw; (try dsimp only at hSw); go_simp; (try with_reducible rfl)
  simp only [List.setIfInBounds_toArray, List.set_cons_zero, List.set_cons_succ]
  refine wpAnyH_takeD (i := 21) (d := 69) (v := ?_) rfl rfl (by kernel_rfl) (by kernel_rfl) (by kernel_rfl) (fun _ _ _ h => h) (Or.inl ⟨by rfl, ?_⟩) (by assumption) ?_
  rotate_left 1
  · intro w hSw; (try dsimp only at hSw); go_simp; (try with_reducible rfl)
  simp only [List.setIfInBounds_toArray, List.set_cons_zero, List.set_cons_succ]
  refine wpAnyH_takeD (i := 22) (d := 70) (v := ?_) rfl rfl (by kernel_rfl) (by kernel_rfl) (by kernel_rfl) (fun _ _ _ h => h) (Or.inl ⟨by rfl, ?_⟩) (by assumption) ?_
  rotate_left 1
  · intro w hSw; (try dsimp only at hSw); go_simp; (try with_reducible rfl)
  simp only [List.setIfInBounds_toArray, List.set_cons_zero, List.set_cons_succ]
  refine wpAnyH_ready (rs := [14]) (by kernel_rfl) (by simp) ?_
  refine AllReadyH.cons rfl (fun K hK => ?_) AllReadyH.nil
  go_simp
  refine (wApart (rat l0 x).1 (rat l0 x).2 (rat l0 y).1 (rat l0 y).2 _).mono ?_
  rw [HVP.out]
  rintro e w6 ⟨rfl, hb⟩
  replace R := Lib.hid (R.out.to hb)
  replace M := Lib.hid (M.out.to hb)
  replace B := Lib.hid (B.out.trans (hb.mono B.out.size))
  replace c0 := Below.kept hb c0
  replace c1 := Below.kept hb c1
  replace d0 := Below.kept hb d0
  replace d1 := Below.kept hb d1
  clear hb hHeld
  go_wp2_with fail
  refine hK.out _ _ (⟨c0, c1, d0, d1⟩) (fun hHeld => ?_)
  clear hK K
  refine wpAnyH_ready (rs := [23]) (by kernel_rfl) (by simp) ?_
  refine AllReadyH.cons rfl (fun K hK => ?_) AllReadyH.nil
  go_simp
  refine (wApart (rat l0 y).1 (rat l0 y).2 (rat l0 x).1 (rat l0 x).2 _).mono ?_
  rw [HVQ.out]
  rintro e w6 ⟨rfl, hb⟩
  replace R := Lib.hid (R.out.to hb)
  replace M := Lib.hid (M.out.to hb)
  replace B := Lib.hid (B.out.trans (hb.mono B.out.size))
  replace c0 := Below.kept hb c0
  replace c1 := Below.kept hb c1
  replace d0 := Below.kept hb d0
  replace d1 := Below.kept hb d1
  clear hb hHeld
  go_wp2_with fail
  refine hK.out _ _ (⟨c0, c1, d0, d1⟩) (fun hHeld => ?_)
  clear hK K
  refine wpAnyH_takeD (i := 24) (d := 72) (v := ?_) rfl rfl (by kernel_rfl) (by kernel_rfl) (by kernel_rfl) (fun _ _ _ h => h) (Or.inl ⟨by rfl, ?_⟩) (by assumption) ?_
  rotate_left 1
  · intro w hSw; (try dsimp only at hSw); go_simp; (try with_reducible rfl)
  simp only [List.setIfInBounds_toArray, List.set_cons_zero, List.set_cons_succ]
  refine wpAnyH_takeD (i := 25) (d := 73) (v := ?_) rfl rfl (by kernel_rfl) (by kernel_rfl) (by kernel_rfl) (fun _ _ _ h => h) (Or.inl ⟨by rfl, ?_⟩) (by assumption) ?_
  rotate_left 1
  · intro w hSw; (try dsimp only at hSw); go_simp; (try with_reducible rfl)
  simp only [List.setIfInBounds_toArray, List.set_cons_zero, List.set_cons_succ]
  refine wpAnyH_takeD (i := 26) (d := 74) (v := ?_) rfl rfl (by kernel_rfl) (by kernel_rfl) (by kernel_rfl) (fun _ _ _ h => h) (Or.inl ⟨by rfl, ?_⟩) (by assumption) ?_
  rotate_left 1
  · intro w hSw; (try dsimp only at hSw); go_simp; (try with_reducible rfl)
  simp only [List.setIfInBounds_toArray, List.set_cons_zero, List.set_cons_succ]
  refine wpAnyH_takeD (i := 27) (d := 75) (v := ?_) rfl rfl (by kernel_rfl) (by kernel_rfl) (by kernel_rfl) (fun _ _ _ h => h) (Or.inl ⟨by rfl, ?_⟩) (by assumption) ?_
  rotate_left 1
  · intro w hSw; (try dsimp only at hSw); go_simp; (try with_reducible rfl)
  simp only [List.setIfInBounds_toArray, List.set_cons_zero, List.set_cons_succ]
  refine wpAnyH_takeD (i := 28) (d := 76) (v := ?_) rfl rfl (by kernel_rfl) (by kernel_rfl) (by kernel_rfl) (fun _ _ _ h => h) (Or.inl ⟨by rfl, ?_⟩) (by assumption) ?_
  rotate_left 1
  · intro w hSw; (try dsimp only at hSw); go_simp; (try with_reducible rfl)
  simp only [List.setIfInBounds_toArray, List.set_cons_zero, List.set_cons_succ]
  refine wpAnyH_takeD (i := 29) (d := 77) (v := ?_) rfl rfl (by kernel_rfl) (by kernel_rfl) (by kernel_rfl) (fun _ _ _ h => h) (Or.inl ⟨by rfl, ?_⟩) (by assumption) ?_
  rotate_left 1
  · intro w hSw; (try dsimp only at hSw); go_simp; (try with_reducible rfl)
  simp only [List.setIfInBounds_toArray, List.set_cons_zero, List.set_cons_succ]
  refine wpAnyH_takeD (i := 30) (d := 78) (v := ?_) rfl rfl (by kernel_rfl) (by kernel_rfl) (by kernel_rfl) (fun _ _ _ h => h) (Or.inl ⟨by rfl, ?_⟩) (by assumption) ?_
  rotate_left 1
  · intro w hSw; (try dsimp only at hSw); go_simp; (try with_reducible rfl)
  simp only [List.setIfInBounds_toArray, List.set_cons_zero, List.set_cons_succ]
  refine wpAnyH_takeD (i := 31) (d := 79) (v := ?_) rfl rfl (by kernel_rfl) (by kernel_rfl) (by kernel_rfl) (fun _ _ _ h => h) (Or.inl ⟨by rfl, ?_⟩) (by assumption) ?_
  rotate_left 1
  · intro w hSw; (try dsimp only at hSw); go_simp; (try with_reducible rfl)
  simp only [List.setIfInBounds_toArray, List.set_cons_zero, List.set_cons_succ]
  refine wpAnyH_takeD (i := 32) (d := 80) (v := ?_) rfl rfl (by kernel_rfl) (by kernel_rfl) (by kernel_rfl) (fun _ _ _ h => h) (Or.inl ⟨by rfl, ?_⟩) (by assumption) ?_
  rotate_left 1
  · intro w hSw; (try dsimp only at hSw); go_simp; (try with_reducible rfl)
  simp only [List.setIfInBounds_toArray, List.set_cons_zero, List.set_cons_succ]
  refine wpAnyH_takeD (i := 33) (d := 81) (v := ?_) rfl rfl (by kernel_rfl) (by kernel_rfl) (by kernel_rfl) (fun _ _ _ h => h) (Or.inl ⟨by rfl, ?_⟩) (by assumption) ?_
  rotate_left 1
  · intro w hSw; (try dsimp only at hSw); go_simp; (try with_reducible rfl)
  simp only [List.setIfInBounds_toArray, List.set_cons_zero, List.set_cons_succ]
  refine wpAnyH_takeD (i := 34) (d := 82) (v := ?_) rfl rfl (by kernel_rfl) (by kernel_rfl) (by kernel_rfl) (fun _ _ _ h => h) (Or.inl ⟨by rfl, ?_⟩) (by assumption) ?_
  rotate_left 1
  · intro w hSw; (try dsimp only at hSw); go_simp; (try with_reducible rfl)
  simp only [List.setIfInBounds_toArray, List.set_cons_zero, List.set_cons_succ]
  refine wpAnyH_ready (rs := [35]) (by kernel_rfl) (by simp) ?_
  refine AllReadyH.cons rfl (fun K hK => ?_) AllReadyH.nil
  go_simp
  refine (wApart (rat l0 x).1 (rat l0 x).2 (rat l0 x).1 (rat l0 x).2 _).mono ?_
  rw [apartR_self]
  rintro e w6 ⟨rfl, hb⟩
  replace R := Lib.hid (R.out.to hb)
  replace M := Lib.hid (M.out.to hb)
  replace B := Lib.hid (B.out.trans (hb.mono B.out.size))
  replace c0 := Below.kept hb c0
  replace c1 := Below.kept hb c1
  replace d0 := Below.kept hb d0
  replace d1 := Below.kept hb d1
  clear hb hHeld
  go_wp2_with fail
  refine hK.out _ _ (⟨c0, c1, d0, d1⟩) (fun hHeld => ?_)
  clear hK K
  refine wpAnyH_takeD (i := 36) (d := 84) (v := ?_) rfl rfl (by kernel_rfl) (by kernel_rfl) (by kernel_rfl) (fun _ _ _ h => h) (Or.inl ⟨by rfl, ?_⟩) (by assumption) ?_
  rotate_left 1
  · intro w hSw; (try dsimp only at hSw); go_simp; (try with_reducible rfl)
  simp only [List.setIfInBounds_toArray, List.set_cons_zero, List.set_cons_succ]
  refine wpAnyH_takeD (i := 37) (d := 85) (v := ?_) rfl rfl (by kernel_rfl) (by kernel_rfl) (by kernel_rfl) (fun _ _ _ h => h) (Or.inl ⟨by rfl, ?_⟩) (by assumption) ?_
  rotate_left 1
  · intro w hSw; (try dsimp only at hSw); go_simp; (try with_reducible rfl)
  simp only [List.setIfInBounds_toArray, List.set_cons_zero, List.set_cons_succ]
  refine wpAnyH_takeD (i := 38) (d := 86) (v := ?_) rfl rfl (by kernel_rfl) (by kernel_rfl) (by kernel_rfl) (fun _ _ _ h => h) (Or.inl ⟨by rfl, ?_⟩) (by assumption) ?_
  rotate_left 1
  · intro w hSw; (try dsimp only at hSw); go_simp; (try with_reducible rfl)
  simp only [List.setIfInBounds_toArray, List.set_cons_zero, List.set_cons_succ]
  refine wpAnyH_ready (rs := [39]) (by kernel_rfl) (by simp) ?_
  refine AllReadyH.cons rfl (fun K hK => ?_) AllReadyH.nil
  go_simp
  refine (awake _).mono ?_
  rintro e w6 ⟨rfl, hb⟩
  replace R := Lib.hid (R.out.to hb)
  replace M := Lib.hid (M.out.to hb)
  replace B := Lib.hid (B.out.trans (hb.mono B.out.size))
  replace c0 := Below.kept hb c0
  replace c1 := Below.kept hb c1
  replace d0 := Below.kept hb d0
  replace d1 := Below.kept hb d1
  clear hb hHeld
  go_wp2_with fail
  refine hK.out _ _ (⟨c0, c1, d0, d1⟩) (fun hHeld => ?_)
  clear hK K
  refine wpAnyH_takeD (i := 40) (d := 88) (v := ?_) rfl rfl (by kernel_rfl) (by kernel_rfl) (by kernel_rfl) (fun _ _ _ h => h) (Or.inl ⟨by rfl, ?_⟩) (by assumption) ?_
  rotate_left 1
  · intro w hSw; (try dsimp only at hSw); go_simp; (try with_reducible rfl)
  simp only [List.setIfInBounds_toArray, List.set_cons_zero, List.set_cons_succ]
  refine wpAnyH_takeD (i := 41) (d := 6) (v := ?_) rfl rfl (by kernel_rfl) (by kernel_rfl) (by kernel_rfl) (fun _ _ _ h => h) (Or.inl ⟨by rfl, ?_⟩) (by assumption) ?_
  rotate_left 1
  · intro w hSw; (try dsimp only at hSw); go_simp; (try with_reducible rfl)
  simp only [List.setIfInBounds_toArray, List.set_cons_zero, List.set_cons_succ]
  refine wpAnyH_done (by kernel_rfl) ?_ _
  clear hHeld
  go_wp2_with fail
  go_ret
  exact ⟨rfl, B.out⟩

set_option maxRecDepth 100000 in
theorem lifted (os : Os) (started : os.Started) (H : Type) (enc : TypeId × Value → H) :
    ReturnsInHanded {} Try.checked os 7 .any (Rows.regionApartSpec.pre6 enc Try.prog Try.f7 Rows.regionApartRow.domain false) (Rows.regionApartSpec.post enc Try.prog Try.f7 false true false false) := by
  refine returnsInHanded_of_change (C := Try.checked) own started (by kernel_rfl) Try.func7
    (ChangeSpec.witness6 (enc := enc) (C := Try.checked) false ⟨#[], #[.slice none 0 0, .int .i64 0, .int .i64 0], []⟩ 8 (by kernel_rfl) (by kernel_rfl) (by kernel_rfl) (by kernel_rfl)) ?_
  intro W base args ds gs before hval0 hW hcnd _
  have hval : ∀ (j : Nat) t v, Try.f7.params[j]? = some t → args[j]? = some v → Value.okWide Try.prog W .any base t v := hval0
  have hW' := hW
  obtain ⟨p, q, hA0, hV, rfl, hfz, hnd⟩ := hW
  have hA : DataW.TrodAll enc Try.prog W 0 (fun _ => true) true Try.f7.params.toList args.toList ds p := hA0
  rw [Try.params7] at hA hval
  obtain ⟨v0, vs0, d0, ds0, p0, q0, hargs, rfl, rfl, h0, r0⟩ := trodAll_cons hA
  obtain ⟨v1, vs1, d1, ds1, p1, q1, rfl, rfl, rfl, h1, r1⟩ := trodAll_cons r0
  obtain ⟨v2, vs2, d2, ds2, p2, q2, rfl, rfl, rfl, h2, r2⟩ := trodAll_cons r1
  obtain ⟨rfl, rfl, rfl⟩ := trodAll_nil r2
  obtain rfl : args = #[v0, v1, v2] := by cases args; simp_all
  obtain ⟨rfl, rfl⟩ := trodVars_none hV
  have k0 := h0
  have lt0 : ∀ x ∈ p0, x.block < W.heap.size := by obtain ⟨m, hm⟩ := k0; exact DataW.trod_lt m _ _ _ hm
  obtain ⟨a0, len0, cap0, l0, rfl, w0⟩ := open_regs (hval 0 30 v0 rfl rfl) h0
  obtain ⟨a1, rfl, rfl, rfl, w1⟩ := open_int Try.underlying3 (hval 1 3 v1 rfl rfl) h1
  obtain ⟨a2, rfl, rfl, rfl, w2⟩ := open_int Try.underlying3 (hval 2 3 v2 rfl rfl) h2
  clear hA0 hval0
  refine (walk a0 len0 cap0 l0 a1 a2 W w0 w1 w2).mono fun e W' ⟨he, bel⟩ => ?_
  subst he
  exact ⟨_, rfl, _, _, _, [], _, [], hW', trodAll_mk1 (shut_bool Try.underlying4 _), (trodAll_cons_mk (Below.trod laidOut (by kernel_rfl) (of_decide_eq_true (by kernel_rfl)) k0 bel lt0) (trodAll_cons_mk (shut_int Try.underlying3 w1) (trodAll_cons_mk (shut_int Try.underlying3 w2) trodAll_mk0))), rfl, bel.frame _, fun h => by cases h⟩

theorem over : Rows.regionApartRow.holds Try.pinned (OpenSpec.ofChange Rows.regionApartSpec) :=
  OpenClaim.holds_of_wide 7 Try.f7 rfl rfl rfl rfl rfl rfl rfl ⟨rfl, rfl, rfl, rfl, rfl⟩ rfl rfl rfl rfl rfl (by kernel_rfl) Try.func7 (by kernel_rfl)
    (of_decide_eq_true (by kernel_rfl)) (by unfold Func.isWrapper; first | (rw [if_pos (by decide +kernel)]; kernel_rfl) | (rw [if_neg (by decide +kernel)]; exact ⟨rfl, rfl⟩))
    (fun os started H enc _ => lifted os started H enc)

theorem proved : Rows.RegionApartSaid := over
end Go.Proofs.Ytggnpnicmjjfbaa.regionApart
