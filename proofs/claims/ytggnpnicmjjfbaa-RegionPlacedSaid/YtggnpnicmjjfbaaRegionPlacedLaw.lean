/- For any regions and any size the law RegionPlaced of citadellaw08 returns true: what Place of region places may be put behind the others (at most 20, that are right); it is no place lower; there is room just if one is told. Conditions: none beyond those that the statement itself prints. -/
import Derived.Test.YtggnpnicmjjfbaaRows
import Derived.Test.YtggnpnicmjjfbaaRegE
import Derived.Test.YtggnpnicmjjfbaaRegN
import Derived.Test.YtggnpnicmjjfbaaRegC
import Derived.WalkKit
import Derived.ProofKit
import Derived.OpenShut
import Derived.ShutString
import Derived.ChangeOld
import Derived.Below
namespace Go.Proofs.Ytggnpnicmjjfbaa.regionPlaced
open Go.ChangeShapes Go.WideShapes Go.ChangeAt Go.RowKit
open Go.ChangeMaps (open_string shut_string)
set_option linter.unusedVariables false
set_option linter.unusedSimpArgs false

theorem own : ownKnob Try.prog.godebug = none := by kernel_rfl
theorem laidOut : laidOutB Try.prog = true := by kernel_rfl

def BaseRel8 (l : List Reg) (s : Int) (w1 : World) (s7 : Value) (wr : World) : Prop :=
  ∃ i : Nat, i ≤ 1024 ∧ s7 = .int .i64 (4 * (i : Int)) ∧ Below w1.heap.size w1 wr ∧ ∀ i' : Nat, i' < i → fitR l (4 * (i' : Int), s) = false
set_option maxRecDepth 1000000 in
set_option maxHeartbeats 4000000 in
theorem walk (a0 : Option Addr) (len0 cap0 : Nat) (l0 : List Reg) (a1 : Int) (w : World) (w0 : RdG w w.heap.size a0 len0 l0 ∧ len0 ≤ cap0 ∧ cap0 ≤ 9223372036854775807) (w1 : (Lit.int .i64 a1).wf = true) :
    Calls Try.prog 6 #[.slice a0 len0 cap0, .int .i64 a1] w fun e w' => e = .returned (.bool true) ∧ Below w.heap.size w w' := by
  obtain ⟨r0, hcap, hcap'⟩ := w0
  have R := Lib.hid r0
  have HC := Lib.hid hcap
  have HC' := Lib.hid hcap'
  clear r0 hcap hcap' w1
  have hgd := reg_guard
  have heq := reg_eq
  have B := Lib.hid (Below.refl w.heap.size w)
  by_cases h20 : 20 < len0
  · have h20I : (len0 : Int) > 20 := by omega
    clear h20
    go_enter Try.func6, Try.ntmps6
    go_wp2_with fail
    refine (awake _).mono ?_
    rintro e w9 ⟨rfl, hb⟩
    replace B := Lib.hid (B.out.trans (hb.mono B.out.size))
    clear hb
    go_wp2_with fail
    go_ret
    exact ⟨rfl, B.out⟩
  have h20I : ¬ (len0 : Int) > 20 := by omega
  have HN : Hid (len0 ≤ 20) := by (show _ ≤ _); omega
  clear h20
  go_enter Try.func6, Try.ntmps6
  go_wp2_with fail
  refine (wAll a0 len0 cap0 l0 w R.out HC.out HC'.out).mono ?_
  rintro e w1 ⟨rfl, hb⟩
  replace B := Lib.hid hb
  clear hb
  rcases allR_range l0 with h0 | h0 | h0
  rotate_left
  · rw [h0]
    clear h0
    go_wp2_with fail
    refine (awake _).mono ?_
    rintro e w9 ⟨rfl, hb⟩
    replace B := Lib.hid (B.out.trans (hb.mono B.out.size))
    clear hb
    go_wp2_with fail
    go_ret
    exact ⟨rfl, B.out⟩
  · rw [h0]
    clear h0
    go_wp2_with fail
    refine (awake _).mono ?_
    rintro e w9 ⟨rfl, hb⟩
    replace B := Lib.hid (B.out.trans (hb.mono B.out.size))
    clear hb
    go_wp2_with fail
    go_ret
    exact ⟨rfl, B.out⟩
  have H0 := Lib.hid h0
  rw [h0]
  clear h0
  go_wp2_with fail
  refine (wOf 0 a1 _).mono ?_
  rintro e w2 ⟨rfl, hb⟩
  replace B := Lib.hid (B.out.trans (hb.mono B.out.size))
  clear hb
  go_wp2_with fail
  refine (wMay 0 a1 _).mono ?_
  rintro e w3 ⟨rfl, hb⟩
  replace B := Lib.hid (B.out.trans (hb.mono B.out.size))
  clear hb
  cases hm : mayR (0, a1)
  · clear hm
    go_wp2_with fail
    refine (awake _).mono ?_
    rintro e w9 ⟨rfl, hb⟩
    replace B := Lib.hid (B.out.trans (hb.mono B.out.size))
    clear hb
    go_wp2_with fail
    go_ret
    exact ⟨rfl, B.out⟩
  have HM := Lib.hid hm
  clear hm
  have hpl : (∃ j : Nat, j < 1024 ∧ placeR l0 a1 = ((4 * (j : Int), a1), 0) ∧ fitR l0 (4 * (j : Int), a1) = true ∧ ∀ i : Nat, i < j → fitR l0 (4 * (i : Int), a1) = false) ∨ (placeR l0 a1 = (reg0, 4) ∧ ∀ i : Nat, i < 1024 → fitR l0 (4 * (i : Int), a1) = false) := by
    have hl : l0.length ≤ 64 := by have := R.out.1; have := HN.out; omega
    cases hlow : lowR l0 a1 1024 0 with
    | none =>
      have h1 : ∀ i : Nat, i < 1024 → fitR l0 (4 * (i : Int), a1) = false := fun i hi => lowR_none.1 hlow i (Nat.zero_le _) (by omega)
      exact .inr ⟨placeR_full hl H0.out HM.out h1, h1⟩
    | some b =>
      obtain ⟨j, _, h2, h3, h4, h5⟩ := lowR_some.1 hlow
      exact .inl ⟨j, by omega, placeR_at hl H0.out HM.out (by omega) h4 (fun i hi => h5 i (Nat.zero_le _) hi), h4, fun i hi => h5 i (Nat.zero_le _) hi⟩
  have HPL := Lib.hid hpl
  clear hpl
  go_wp2_with fail
  refine (wPlace a0 len0 cap0 l0 a1 _ (R.out.to B.out) HC.out HC'.out).mono ?_
  rintro e w4 ⟨rfl, hb⟩
  replace B := Lib.hid (B.out.trans (hb.mono B.out.size))
  clear hb
  have hms := mayR_iff.1 HM.out
  dsimp only at hms
  have HMS := Lib.hid hms
  clear hms
  rcases HPL.out with ⟨j, hj, hp, hfit, hlow⟩ | ⟨hp, hlow⟩
  · rw [hp]
    dsimp only
    have HJ := Lib.hid hj
    have HF := Lib.hid hfit
    have HLOW := Lib.hid hlow
    clear hp hj hfit hlow HPL
    go_wp2_with fail
    have X5 := Lib.hid (Box.new w4 (4 * (j : Int)) a1)
    replace B := Lib.hid (B.out.alloc B.out.size (.cells #[.int .i64 (4 * (j : Int)), .int .i64 a1] 23))
    generalize w4.alloc (.cells #[.int .i64 (4 * (j : Int)), .int .i64 a1] 23) = w5 at *
    generalize w4.heap.size = g5 at *
    go_loopw [7, 8] (fun s7 _ wr => BaseRel8 l0 a1 w5 s7 wr) (fun s7 _ _ => 4096 - (intOf s7).toNat)
    case atStart => exact ⟨0, by omega, rfl, Below.refl _ _, fun i hi => absurd hi (Nat.not_lt_zero _)⟩
    case round =>
      obtain ⟨i, hi, rfl, hb, hno⟩ := hrel
      have hij : i ≤ j := by
        rcases Nat.lt_or_ge j i with g | g
        · have := hno j g; rw [HF.out] at this; cases this
        · exact g
      have BI := Lib.hid hb
      have HNO := Lib.hid hno
      have HIJ := Lib.hid hij
      have hms := HMS.out
      have hmj := mayR_iff.1 (fitR_iff.1 HF.out).1
      (try dsimp only at hms)
      (try dsimp only at hmj)
      have hw : IntKind.i64.wrap (4 * (i : Int) + a1) = 4 * (i : Int) + a1 := by rw [IntKind.wrap_i64]; omega
      have hw4 : IntKind.i64.wrap (4 * (i : Int) + 4) = 4 * (i : Int) + 4 := by rw [IntKind.wrap_i64]; omega
      have hle : 4 * (i : Int) + a1 ≤ 4096 := by omega
      have HI1 : Hid (i < 1024) := by (show _ < _); omega
      clear hms hmj hb hno hij hi
      have HSW := Lib.hid BI.out.size
      have R2 := Lib.hid (((R.out.to B.out).to BI.out).to ((Below.refl _ _).alloc (Nat.le_refl _) (.cells #[] 23)))
      have FR : Hid ((wr.alloc (.cells #[] 23)).heap[wr.heap.size]? = some (.cells #[] 23 (0, 0))) := by (show (wr.heap.push _)[wr.heap.size]? = _); simp
      have BF := Lib.hid ((Below.refl wr.heap.size wr).alloc (Nat.le_refl _) (.cells #[] 23))
      go_wp2_with (first
        | (at_builtin; refine wpList_pushR rfl _ _ rfl (v := .slice (some ⟨wr.heap.size, 0, none⟩) 0 0) rfl rfl (own_fresh FR.out (Nat.le_refl _)) R2.out BF.out BF.out.size (by have := HN.out; omega) ?_; intro v2 w6 hown6 hb6 hs6; rw [Nat.zero_add, List.nil_append] at hown6; obtain ⟨A2, c2, rfl⟩ := own_slice2 hown6)
        | fail)
      replace BI := Lib.hid (BI.out.trans (hb6.mono BI.out.size))
      have O2 := Lib.hid hown6
      have HS6 : Hid (wr.heap.size ≤ w6.heap.size) := by (show _ ≤ _); simp at hs6; omega
      clear hown6 hb6 hs6 FR BF R2
      refine (wOf (4 * (i : Int)) a1 _).mono ?_
      rintro e w7 ⟨rfl, hb⟩
      replace BI := Lib.hid (BI.out.trans (hb.mono BI.out.size))
      replace O2 := Lib.hid (own_below2 O2.out hb)
      have HS7 : Hid (wr.heap.size ≤ w7.heap.size) := Nat.le_trans HS6.out hb.size
      clear hb HS6
      have O3 := Lib.hid (own_below2 O2.out ((Below.refl _ _).alloc (Nat.le_refl _) (.cells #[.int .i64 (4 * (i : Int)), .int .i64 a1] 23)))
      have L1 := Lib.hid (RdG.lit1 w7 (4 * (i : Int), a1) 23)
      have B7 : Hid (Below wr.heap.size w7 (w7.alloc (.cells #[.int .i64 (4 * (i : Int)), .int .i64 a1] 23))) := (Below.refl _ _).alloc HS7.out _
      have HS8 : Hid (wr.heap.size ≤ (w7.alloc (.cells #[.int .i64 (4 * (i : Int)), .int .i64 a1] 23)).heap.size) := Nat.le_trans HS7.out B7.out.size
      go_wp2_with (first
        | (at_builtin; refine wpList_pushR rfl _ _ rfl (v := .slice A2 len0 c2) rfl rfl O3.out L1.out B7.out HS8.out (by have := HN.out; omega) ?_; intro v3 w8 hown8 hb8 hs8; obtain ⟨A3, c3, rfl⟩ := own_slice2 hown8)
        | fail)
      replace BI := Lib.hid (BI.out.trans (hb8.mono HSW.out))
      have HC3 := Lib.hid (own_cap2 hown8)
      have R8 := Lib.hid (RdG.of_own hown8)
      clear hown8 hb8 hs8 O2 O3 L1 B7 HS8 HS7
      refine (wAll A3 _ c3 _ _ R8.out HC3.out.1 HC3.out.2).mono ?_
      by_cases he : i = j
      · have hv : allR (l0 ++ [(4 * (i : Int), a1)]) = 0 := (allR_snoc H0.out _).2 (by rw [he]; exact HF.out)
        rw [hv]
        clear hv
        rintro e w9 ⟨rfl, hb⟩
        replace BI := Lib.hid (BI.out.trans (hb.mono BI.out.size))
        clear hb R8 HC3
        subst he
        have hq : ((4 * (i : Int)) == 4 * (i : Int)) = true := by simp
        have X9 := Lib.hid (X5.out.to BI.out)
        obtain ⟨x0, x1, _⟩ := X9.out
        go_wp2_with fail
        replace x0 : w9.drew.cell? ⟨g5, 0, none⟩ = some (.int .i64 (4 * (i : Int))) := x0
        replace x1 : w9.drew.cell? ⟨g5, 1, none⟩ = some (.int .i64 a1) := x1
        replace BI := Lib.hid BI.out.drew
        refine wp_region_held_drew (S := (fun w' => w'.cell? ⟨g5, 0, none⟩ = some (.int .i64 (4 * (i : Int))) ∧ w'.cell? ⟨g5, 1, none⟩ = some (.int .i64 a1))) (by kernel_rfl) (⟨x0, x1⟩) (fun hHeld => ?_)
        generalize w9.drew = wd at *
        refine wpAnyH_takeD (i := 0) (d := 67) (v := ?_) rfl rfl (by kernel_rfl) (by kernel_rfl) (by kernel_rfl) (fun _ _ _ h => h) (Or.inl ⟨by rfl, ?_⟩) (by assumption) ?_
        rotate_left 1
        · intro w hSw; (try dsimp only at hSw); go_simp; (try with_reducible rfl)
        simp only [List.setIfInBounds_toArray, List.set_cons_zero, List.set_cons_succ]
        refine wpAnyH_takeD (i := 1) (d := 68) (v := ?_) rfl rfl (by kernel_rfl) (by kernel_rfl) (by kernel_rfl) (fun _ _ _ h => h) (Or.inl ⟨by rfl, ?_⟩) (by assumption) ?_
        rotate_left 1
        · intro w hSw; (try dsimp only at hSw); go_simp; (try with_reducible rfl)
        simp only [List.setIfInBounds_toArray, List.set_cons_zero, List.set_cons_succ]
        refine wpAnyH_takeD (i := 2) (d := 69) (v := ?_) rfl rfl (by kernel_rfl) (by kernel_rfl) (by kernel_rfl) (fun _ _ _ h => h) (Or.inl ⟨by rfl, ?_⟩) (by assumption) ?_
        rotate_left 1
        · intro w hSw; (try dsimp only at hSw); go_simp; (try with_reducible rfl)
        simp only [List.setIfInBounds_toArray, List.set_cons_zero, List.set_cons_succ]
        refine wpAnyH_takeD (i := 3) (d := 70) (v := ?_) rfl rfl (by kernel_rfl) (by kernel_rfl) (by kernel_rfl) (fun _ _ _ h => h) (Or.inl ⟨by rfl, ?_⟩) (by assumption) ?_
        rotate_left 1
        · intro w hSw; (try dsimp only at hSw); go_simp; (try with_reducible rfl)
        simp only [List.setIfInBounds_toArray, List.set_cons_zero, List.set_cons_succ]
        refine wpAnyH_takeD (i := 4) (d := 71) (v := ?_) rfl rfl (by kernel_rfl) (by kernel_rfl) (by kernel_rfl) (fun _ _ _ h => h) (Or.inl ⟨by rfl, ?_⟩) (by assumption) ?_
        rotate_left 1
        · intro w hSw; (try dsimp only at hSw); go_simp; (try with_reducible rfl)
        simp only [List.setIfInBounds_toArray, List.set_cons_zero, List.set_cons_succ]
        refine wpAnyH_takeD (i := 5) (d := 72) (v := ?_) rfl rfl (by kernel_rfl) (by kernel_rfl) (by kernel_rfl) (fun _ _ _ h => h) (Or.inl ⟨by rfl, ?_⟩) (by assumption) ?_
        rotate_left 1
        · intro w hSw; (try dsimp only at hSw); go_simp; (try with_reducible rfl)
        simp only [List.setIfInBounds_toArray, List.set_cons_zero, List.set_cons_succ]
        refine wpAnyH_ready (rs := [6]) (by kernel_rfl) (by simp) ?_
        refine AllReadyH.cons rfl (fun K hK => ?_) AllReadyH.nil
        go_simp
        refine (wOf (4 * (i : Int)) a1 _).mono ?_
        rintro e w10 ⟨rfl, hb⟩
        replace x0 := Below.kept hb x0
        replace x1 := Below.kept hb x1
        replace BI := Lib.hid (BI.out.trans (hb.mono BI.out.size))
        clear hb hHeld
        go_wp2_with fail
        refine hK.out _ _ (⟨x0, x1⟩) (fun hHeld => ?_)
        clear hK K
        refine wpAnyH_takeD (i := 7) (d := 74) (v := ?_) rfl rfl (by kernel_rfl) (by kernel_rfl) (by kernel_rfl) (fun _ _ _ h => h) (Or.inl ⟨by rfl, ?_⟩) (by assumption) ?_
        rotate_left 1
        · intro w hSw; (try dsimp only at hSw); go_simp; (try with_reducible rfl)
        simp only [List.setIfInBounds_toArray, List.set_cons_zero, List.set_cons_succ]
        refine wpAnyH_takeD (i := 8) (d := 75) (v := ?_) rfl rfl (by kernel_rfl) (by kernel_rfl) (by kernel_rfl) (fun _ _ _ h => h) (Or.inl ⟨by rfl, ?_⟩) (by assumption) ?_
        rotate_left 1
        · intro w hSw; (try dsimp only at hSw); go_simp; (try with_reducible rfl)
        simp only [List.setIfInBounds_toArray, List.set_cons_zero, List.set_cons_succ]
        refine wpAnyH_takeD (i := 9) (d := 76) (v := ?_) rfl rfl (by kernel_rfl) (by kernel_rfl) (by kernel_rfl) (fun _ _ _ h => h) (Or.inl ⟨by rfl, ?_⟩) (by assumption) ?_
        rotate_left 1
        · intro w hSw; (try dsimp only at hSw); go_simp; (try with_reducible rfl)
        simp only [List.setIfInBounds_toArray, List.set_cons_zero, List.set_cons_succ]
        refine wpAnyH_ready (rs := [10]) (by kernel_rfl) (by simp) ?_
        refine AllReadyH.cons rfl (fun K hK => ?_) AllReadyH.nil
        go_simp
        refine (awake _).mono ?_
        rintro e w11 ⟨rfl, hb⟩
        replace x0 := Below.kept hb x0
        replace x1 := Below.kept hb x1
        replace BI := Lib.hid (BI.out.trans (hb.mono BI.out.size))
        clear hb hHeld
        go_wp2_with fail
        refine hK.out _ _ (⟨x0, x1⟩) (fun hHeld => ?_)
        clear hK K
        refine wpAnyH_takeD (i := 11) (d := 78) (v := ?_) rfl rfl (by kernel_rfl) (by kernel_rfl) (by kernel_rfl) (fun _ _ _ h => h) (Or.inl ⟨by rfl, ?_⟩) (by assumption) ?_
        rotate_left 1
        · intro w hSw; (try dsimp only at hSw); go_simp; (try with_reducible rfl)
        simp only [List.setIfInBounds_toArray, List.set_cons_zero, List.set_cons_succ]
        refine wpAnyH_takeD (i := 12) (d := 4) (v := ?_) rfl rfl (by kernel_rfl) (by kernel_rfl) (by kernel_rfl) (fun _ _ _ h => h) (Or.inl ⟨by rfl, ?_⟩) (by assumption) ?_
        rotate_left 1
        · intro w hSw; (try dsimp only at hSw); go_simp; (try with_reducible rfl)
        simp only [List.setIfInBounds_toArray, List.set_cons_zero, List.set_cons_succ]
        refine wpAnyH_done (by kernel_rfl) ?_ _
        clear hHeld
        go_wp2_with fail
        go_ret
        exact ⟨rfl, B.out.trans (BI.out.mono B.out.size)⟩
      · have hv : allR (l0 ++ [(4 * (i : Int), a1)]) ≠ 0 := fun h => by
          have h1 := (allR_snoc H0.out _).1 h
          rw [HLOW.out i (by have := HIJ.out; omega)] at h1; cases h1
        obtain ⟨v, hvv⟩ : ∃ v, allR (l0 ++ [(4 * (i : Int), a1)]) = v := ⟨_, rfl⟩
        rw [hvv] at hv ⊢
        have hv0 : (v == 0) = false := by simpa using hv
        clear hv hvv
        rintro e w9 ⟨rfl, hb⟩
        replace BI := Lib.hid (BI.out.trans (hb.mono BI.out.size))
        clear hb R8 HC3
        have hq : ((4 * (i : Int)) == 4 * (j : Int)) = false := by simp; omega
        have HNF := Lib.hid (HLOW.out i (by have := HIJ.out; omega))
        have HLT : Hid (i < j) := by (show _ < _); have := HIJ.out; omega
        have X9 := Lib.hid (X5.out.to BI.out)
        obtain ⟨x0, x1, _⟩ := X9.out
        clear he
        go_wp2_with fail
        go_roundw
        case rel =>
          refine ⟨i + 1, by have := HI1.out; omega, by rw [show (4 * ((i + 1 : Nat) : Int)) = 4 * (i : Int) + 4 from by omega], BI.out, fun i' hi' => ?_⟩
          rcases Nat.lt_or_ge i' i with g | g
          · exact HNO.out i' g
          · obtain rfl : i' = i := by omega
            exact HNF.out
        case measure => have := HI1.out; simp [intOf] <;> omega
  · rw [show placeR l0 a1 = ((0, 0), 4) from hp]
    dsimp only
    have HLOW := Lib.hid hlow
    clear hp hlow HPL
    go_wp2_with fail
    have X5 := Lib.hid (Box.new w4 0 0)
    replace B := Lib.hid (B.out.alloc B.out.size (.cells #[.int .i64 0, .int .i64 0] 23))
    generalize w4.alloc (.cells #[.int .i64 0, .int .i64 0] 23) = w5 at *
    generalize w4.heap.size = g5 at *
    go_loopw [7, 8] (fun s7 _ wr => BaseRel8 l0 a1 w5 s7 wr) (fun s7 _ _ => 4096 - (intOf s7).toNat)
    case atStart => exact ⟨0, by omega, rfl, Below.refl _ _, fun i hi => absurd hi (Nat.not_lt_zero _)⟩
    case round =>
      obtain ⟨i, hi, rfl, hb, hno⟩ := hrel
      have BI := Lib.hid hb
      have HNO := Lib.hid hno
      have hms := HMS.out
      (try dsimp only at hms)
      have hw : IntKind.i64.wrap (4 * (i : Int) + a1) = 4 * (i : Int) + a1 := by rw [IntKind.wrap_i64]; omega
      have hw4 : IntKind.i64.wrap (4 * (i : Int) + 4) = 4 * (i : Int) + 4 := by rw [IntKind.wrap_i64]; omega
      by_cases hle : 4 * (i : Int) + a1 ≤ 4096
      · have HI1 : Hid (i < 1024) := by (show _ < _); omega
        clear hms hb hno hi
        have HSW := Lib.hid BI.out.size
        have R2 := Lib.hid (((R.out.to B.out).to BI.out).to ((Below.refl _ _).alloc (Nat.le_refl _) (.cells #[] 23)))
        have FR : Hid ((wr.alloc (.cells #[] 23)).heap[wr.heap.size]? = some (.cells #[] 23 (0, 0))) := by (show (wr.heap.push _)[wr.heap.size]? = _); simp
        have BF := Lib.hid ((Below.refl wr.heap.size wr).alloc (Nat.le_refl _) (.cells #[] 23))
        go_wp2_with (first
          | (at_builtin; refine wpList_pushR rfl _ _ rfl (v := .slice (some ⟨wr.heap.size, 0, none⟩) 0 0) rfl rfl (own_fresh FR.out (Nat.le_refl _)) R2.out BF.out BF.out.size (by have := HN.out; omega) ?_; intro v2 w6 hown6 hb6 hs6; rw [Nat.zero_add, List.nil_append] at hown6; obtain ⟨A2, c2, rfl⟩ := own_slice2 hown6)
          | fail)
        replace BI := Lib.hid (BI.out.trans (hb6.mono BI.out.size))
        have O2 := Lib.hid hown6
        have HS6 : Hid (wr.heap.size ≤ w6.heap.size) := by (show _ ≤ _); simp at hs6; omega
        clear hown6 hb6 hs6 FR BF R2
        refine (wOf (4 * (i : Int)) a1 _).mono ?_
        rintro e w7 ⟨rfl, hb⟩
        replace BI := Lib.hid (BI.out.trans (hb.mono BI.out.size))
        replace O2 := Lib.hid (own_below2 O2.out hb)
        have HS7 : Hid (wr.heap.size ≤ w7.heap.size) := Nat.le_trans HS6.out hb.size
        clear hb HS6
        have O3 := Lib.hid (own_below2 O2.out ((Below.refl _ _).alloc (Nat.le_refl _) (.cells #[.int .i64 (4 * (i : Int)), .int .i64 a1] 23)))
        have L1 := Lib.hid (RdG.lit1 w7 (4 * (i : Int), a1) 23)
        have B7 : Hid (Below wr.heap.size w7 (w7.alloc (.cells #[.int .i64 (4 * (i : Int)), .int .i64 a1] 23))) := (Below.refl _ _).alloc HS7.out _
        have HS8 : Hid (wr.heap.size ≤ (w7.alloc (.cells #[.int .i64 (4 * (i : Int)), .int .i64 a1] 23)).heap.size) := Nat.le_trans HS7.out B7.out.size
        go_wp2_with (first
          | (at_builtin; refine wpList_pushR rfl _ _ rfl (v := .slice A2 len0 c2) rfl rfl O3.out L1.out B7.out HS8.out (by have := HN.out; omega) ?_; intro v3 w8 hown8 hb8 hs8; obtain ⟨A3, c3, rfl⟩ := own_slice2 hown8)
          | fail)
        replace BI := Lib.hid (BI.out.trans (hb8.mono HSW.out))
        have HC3 := Lib.hid (own_cap2 hown8)
        have R8 := Lib.hid (RdG.of_own hown8)
        clear hown8 hb8 hs8 O2 O3 L1 B7 HS8 HS7
        refine (wAll A3 _ c3 _ _ R8.out HC3.out.1 HC3.out.2).mono ?_
        have hv : allR (l0 ++ [(4 * (i : Int), a1)]) ≠ 0 := fun h => by
          have h1 := (allR_snoc H0.out _).1 h
          rw [HLOW.out i HI1.out] at h1; cases h1
        obtain ⟨v, hvv⟩ : ∃ v, allR (l0 ++ [(4 * (i : Int), a1)]) = v := ⟨_, rfl⟩
        rw [hvv] at hv ⊢
        have hv0 : (v == 0) = false := by simpa using hv
        clear hv hvv
        rintro e w9 ⟨rfl, hb⟩
        replace BI := Lib.hid (BI.out.trans (hb.mono BI.out.size))
        clear hb R8 HC3
        have HNF := Lib.hid (HLOW.out i HI1.out)
        have X9 := Lib.hid (X5.out.to BI.out)
        obtain ⟨x0, x1, _⟩ := X9.out
        go_wp2_with fail
        go_roundw
        case rel =>
          refine ⟨i + 1, by have := HI1.out; omega, by rw [show (4 * ((i + 1 : Nat) : Int)) = 4 * (i : Int) + 4 from by omega], BI.out, fun i' hi' => ?_⟩
          rcases Nat.lt_or_ge i' i with g | g
          · exact HNO.out i' g
          · obtain rfl : i' = i := by omega
            exact HNF.out
        case measure => have := HI1.out; simp [intOf] <;> omega
      · clear hms hb hno hi
        have X9 := Lib.hid (X5.out.to BI.out)
        obtain ⟨x0, x1, _⟩ := X9.out
        go_wp2_with fail
        replace x0 : wr.drew.cell? ⟨g5, 0, none⟩ = some (.int .i64 0) := x0
        replace x1 : wr.drew.cell? ⟨g5, 1, none⟩ = some (.int .i64 0) := x1
        replace BI := Lib.hid BI.out.drew
        refine wp_region_held_drew (S := (fun w' => w'.cell? ⟨g5, 0, none⟩ = some (.int .i64 0) ∧ w'.cell? ⟨g5, 1, none⟩ = some (.int .i64 0))) (by kernel_rfl) (⟨x0, x1⟩) (fun hHeld => ?_)
        generalize wr.drew = wd at *
        refine wpAnyH_takeD (i := 0) (d := 79) (v := ?_) rfl rfl (by kernel_rfl) (by kernel_rfl) (by kernel_rfl) (fun _ _ _ h => h) (Or.inl ⟨by rfl, ?_⟩) (by assumption) ?_
        rotate_left 1
        · intro w hSw; (try dsimp only at hSw); go_simp; (try with_reducible rfl)
        simp only [List.setIfInBounds_toArray, List.set_cons_zero, List.set_cons_succ]
        refine wpAnyH_takeD (i := 1) (d := 80) (v := ?_) rfl rfl (by kernel_rfl) (by kernel_rfl) (by kernel_rfl) (fun _ _ _ h => h) (Or.inl ⟨by rfl, ?_⟩) (by assumption) ?_
        rotate_left 1
        · intro w hSw; (try dsimp only at hSw); go_simp; (try with_reducible rfl)
        simp only [List.setIfInBounds_toArray, List.set_cons_zero, List.set_cons_succ]
        refine wpAnyH_takeD (i := 2) (d := 81) (v := ?_) rfl rfl (by kernel_rfl) (by kernel_rfl) (by kernel_rfl) (fun _ _ _ h => h) (Or.inl ⟨by rfl, ?_⟩) (by assumption) ?_
        rotate_left 1
        · intro w hSw; (try dsimp only at hSw); go_simp; (try with_reducible rfl)
        simp only [List.setIfInBounds_toArray, List.set_cons_zero, List.set_cons_succ]
        refine wpAnyH_takeD (i := 3) (d := 82) (v := ?_) rfl rfl (by kernel_rfl) (by kernel_rfl) (by kernel_rfl) (fun _ _ _ h => h) (Or.inl ⟨by rfl, ?_⟩) (by assumption) ?_
        rotate_left 1
        · intro w hSw; (try dsimp only at hSw); go_simp; (try with_reducible rfl)
        simp only [List.setIfInBounds_toArray, List.set_cons_zero, List.set_cons_succ]
        refine wpAnyH_ready (rs := [4]) (by kernel_rfl) (by simp) ?_
        refine AllReadyH.cons rfl (fun K hK => ?_) AllReadyH.nil
        go_simp
        refine (wOf 0 0 _).mono ?_
        rintro e w10 ⟨rfl, hb⟩
        replace x0 := Below.kept hb x0
        replace x1 := Below.kept hb x1
        replace BI := Lib.hid (BI.out.trans (hb.mono BI.out.size))
        clear hb hHeld
        go_wp2_with fail
        refine hK.out _ _ (⟨x0, x1⟩) (fun hHeld => ?_)
        clear hK K
        refine wpAnyH_takeD (i := 5) (d := 84) (v := ?_) rfl rfl (by kernel_rfl) (by kernel_rfl) (by kernel_rfl) (fun _ _ _ h => h) (Or.inl ⟨by rfl, ?_⟩) (by assumption) ?_
        rotate_left 1
        · intro w hSw; (try dsimp only at hSw); go_simp; (try with_reducible rfl)
        simp only [List.setIfInBounds_toArray, List.set_cons_zero, List.set_cons_succ]
        refine wpAnyH_takeD (i := 6) (d := 85) (v := ?_) rfl rfl (by kernel_rfl) (by kernel_rfl) (by kernel_rfl) (fun _ _ _ h => h) (Or.inl ⟨by rfl, ?_⟩) (by assumption) ?_
        rotate_left 1
        · intro w hSw; (try dsimp only at hSw); go_simp; (try with_reducible rfl)
        simp only [List.setIfInBounds_toArray, List.set_cons_zero, List.set_cons_succ]
        refine wpAnyH_takeD (i := 7) (d := 86) (v := ?_) rfl rfl (by kernel_rfl) (by kernel_rfl) (by kernel_rfl) (fun _ _ _ h => h) (Or.inl ⟨by rfl, ?_⟩) (by assumption) ?_
        rotate_left 1
        · intro w hSw; (try dsimp only at hSw); go_simp; (try with_reducible rfl)
        simp only [List.setIfInBounds_toArray, List.set_cons_zero, List.set_cons_succ]
        refine wpAnyH_ready (rs := [8]) (by kernel_rfl) (by simp) ?_
        refine AllReadyH.cons rfl (fun K hK => ?_) AllReadyH.nil
        go_simp
        refine (awake _).mono ?_
        rintro e w11 ⟨rfl, hb⟩
        replace x0 := Below.kept hb x0
        replace x1 := Below.kept hb x1
        replace BI := Lib.hid (BI.out.trans (hb.mono BI.out.size))
        clear hb hHeld
        go_wp2_with fail
        refine hK.out _ _ (⟨x0, x1⟩) (fun hHeld => ?_)
        clear hK K
        refine wpAnyH_takeD (i := 9) (d := 88) (v := ?_) rfl rfl (by kernel_rfl) (by kernel_rfl) (by kernel_rfl) (fun _ _ _ h => h) (Or.inl ⟨by rfl, ?_⟩) (by assumption) ?_
        rotate_left 1
        · intro w hSw; (try dsimp only at hSw); go_simp; (try with_reducible rfl)
        simp only [List.setIfInBounds_toArray, List.set_cons_zero, List.set_cons_succ]
        refine wpAnyH_takeD (i := 10) (d := 4) (v := ?_) rfl rfl (by kernel_rfl) (by kernel_rfl) (by kernel_rfl) (fun _ _ _ h => h) (Or.inl ⟨by rfl, ?_⟩) (by assumption) ?_
        rotate_left 1
        · intro w hSw; (try dsimp only at hSw); go_simp; (try with_reducible rfl)
        simp only [List.setIfInBounds_toArray, List.set_cons_zero, List.set_cons_succ]
        refine wpAnyH_done (by kernel_rfl) ?_ _
        clear hHeld
        go_wp2_with fail
        go_ret
        exact ⟨rfl, B.out.trans (BI.out.mono B.out.size)⟩

set_option maxRecDepth 100000 in
theorem lifted (os : Os) (started : os.Started) (H : Type) (enc : TypeId × Value → H) :
    ReturnsInHanded {} Try.checked os 6 .any (Rows.regionPlacedSpec.pre6 enc Try.prog Try.f6 Rows.regionPlacedRow.domain false) (Rows.regionPlacedSpec.post enc Try.prog Try.f6 false true false false) := by
  refine returnsInHanded_of_change (C := Try.checked) own started (by kernel_rfl) Try.func6
    (ChangeSpec.witness6 (enc := enc) (C := Try.checked) false ⟨#[], #[.slice none 0 0, .int .i64 0], []⟩ 8 (by kernel_rfl) (by kernel_rfl) (by kernel_rfl) (by kernel_rfl)) ?_
  intro W base args ds gs before hval0 hW hcnd _
  have hval : ∀ (j : Nat) t v, Try.f6.params[j]? = some t → args[j]? = some v → Value.okWide Try.prog W .any base t v := hval0
  have hW' := hW
  obtain ⟨p, q, hA0, hV, rfl, hfz, hnd⟩ := hW
  have hA : DataW.TrodAll enc Try.prog W 0 (fun _ => true) true Try.f6.params.toList args.toList ds p := hA0
  rw [Try.params6] at hA hval
  obtain ⟨v0, vs0, d0, ds0, p0, q0, hargs, rfl, rfl, h0, r0⟩ := trodAll_cons hA
  obtain ⟨v1, vs1, d1, ds1, p1, q1, rfl, rfl, rfl, h1, r1⟩ := trodAll_cons r0
  obtain ⟨rfl, rfl, rfl⟩ := trodAll_nil r1
  obtain rfl : args = #[v0, v1] := by cases args; simp_all
  obtain ⟨rfl, rfl⟩ := trodVars_none hV
  have k0 := h0
  have lt0 : ∀ x ∈ p0, x.block < W.heap.size := by obtain ⟨m, hm⟩ := k0; exact DataW.trod_lt m _ _ _ hm
  obtain ⟨a0, len0, cap0, l0, rfl, w0⟩ := open_regs (hval 0 30 v0 rfl rfl) h0
  obtain ⟨a1, rfl, rfl, rfl, w1⟩ := open_int Try.underlying3 (hval 1 3 v1 rfl rfl) h1
  clear hA0 hval0
  refine (walk a0 len0 cap0 l0 a1 W w0 w1).mono fun e W' ⟨he, bel⟩ => ?_
  subst he
  exact ⟨_, rfl, _, _, _, [], _, [], hW', trodAll_mk1 (shut_bool Try.underlying4 _), (trodAll_cons_mk (Below.trod laidOut (by kernel_rfl) (of_decide_eq_true (by kernel_rfl)) k0 bel lt0) (trodAll_cons_mk (shut_int Try.underlying3 w1) trodAll_mk0)), rfl, bel.frame _, fun h => by cases h⟩

theorem over : Rows.regionPlacedRow.holds Try.pinned (OpenSpec.ofChange Rows.regionPlacedSpec) :=
  OpenClaim.holds_of_wide 6 Try.f6 rfl rfl rfl rfl rfl rfl rfl ⟨rfl, rfl, rfl, rfl, rfl⟩ rfl rfl rfl rfl rfl (by kernel_rfl) Try.func6 (by kernel_rfl)
    (of_decide_eq_true (by kernel_rfl)) (by unfold Func.isWrapper; first | (rw [if_pos (by decide +kernel)]; kernel_rfl) | (rw [if_neg (by decide +kernel)]; exact ⟨rfl, rfl⟩))
    (fun os started H enc _ => lifted os started H enc)

theorem proved : Rows.RegionPlacedSaid := over
end Go.Proofs.Ytggnpnicmjjfbaa.regionPlaced
