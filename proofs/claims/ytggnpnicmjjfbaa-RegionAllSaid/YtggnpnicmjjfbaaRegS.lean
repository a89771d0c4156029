/- Contracts of the document's own regions (citadelref08): Holder, All. -/
import Derived.Test.YtggnpnicmjjfbaaRegR
namespace Go.Proofs.Ytggnpnicmjjfbaa
open Go.RowKit
set_option linter.unusedVariables false
set_option linter.unusedSimpArgs false

def HoldRel (w : World) (l : List Reg) (t : Int) (n : Nat) (i : Value) (wr : World) : Prop :=
  ∃ k : Nat, k ≤ n ∧ i = .int .i64 (k : Int) ∧ Below w.heap.size w wr ∧ ∀ j, j < k → hasR (rat l j) t = false
set_option maxRecDepth 1000000 in
set_option maxHeartbeats 1000000 in
theorem rHolder (A : Option Addr) (n c : Nat) (l : List Reg) (t : Int) (w : World) (h : RdG w w.heap.size A n l) (hn : n ≤ 9223372036854775806) (ht : (Lit.int .i64 t).wf = true) :
    Calls Try.prog 21 #[.slice A n c, .int .i64 t] w fun e w' => e = .returned (.int .i64 (holdR l t)) ∧ Below w.heap.size w w' := by
  have H := Lib.hid h
  have HN := Lib.hid hn
  have HT := Lib.hid ht
  clear h hn ht
  go_enter Try.func21, Try.ntmps21
  go_wp2
  go_loopw [5] (fun i wr => HoldRel w l t n i wr) (fun i _ => n - (intOf i).toNat)
  case atStart => exact ⟨0, Nat.zero_le _, rfl, Below.refl _ _, fun j hj => absurd hj (Nat.not_lt_zero _)⟩
  case round =>
    obtain ⟨k, hk, rfl, hb, hno⟩ := hrel
    have BB := Lib.hid hb
    have HNO := Lib.hid hno
    clear hb hno
    by_cases hlt : k < n
    · obtain ⟨b, o, rfl, hbo, hc⟩ := (H.out.below BB.out).2 (by omega)
      have c0 := (hc k hlt).1
      have c1 := (hc k hlt).2
      have hltI : (k : Int) < (n : Int) := by omega
      have HK : Hid (k < n) := hlt
      have hw : IntKind.i64.wrap ((k : Int) + 1) = (k : Int) + 1 := by have := HN.out; rw [IntKind.wrap_i64]; omega
      clear hc hk hlt hbo
      go_wp2_with fail
      refine (rHas (rat l k).1 (rat l k).2 t wr HT.out).mono ?_
      rintro e w3 ⟨rfl, hb⟩
      clear c0 c1
      replace BB := Lib.hid (BB.out.trans (hb.mono BB.out.size))
      clear hb
      cases hq : hasR ((rat l k).1, (rat l k).2) t
      · have HQ : Hid (hasR (rat l k) t = false) := hq
        clear hq
        go_wp2_with fail
        go_roundw
        case rel =>
          refine ⟨k + 1, HK.out, by go_num, BB.out, fun j hj => ?_⟩
          rcases Nat.lt_or_ge j k with g | g
          · exact HNO.out j g
          · obtain rfl : j = k := by omega
            exact HQ.out
        case measure => have := HK.out; simp [intOf]; omega
      · have HF : Hid (holdR l t = (k : Int)) := idxR_hit (by rw [H.out.1]; exact HK.out) hq HNO.out
        clear hq
        go_wp2_with fail
        go_ret
        exact ⟨by rw [HF.out]; rfl, BB.out⟩
    · obtain rfl : k = n := by omega
      have hltI : ¬ (k : Int) < (k : Int) := by omega
      have HF : Hid (holdR l t = -1) := idxR_miss (fun j hj => HNO.out j (by rw [← H.out.1]; exact hj))
      clear hk hlt
      go_wp2
      go_ret
      exact ⟨by rw [HF.out]; rfl, BB.out⟩

def MayRel (w : World) (l : List Reg) (n : Nat) (i : Value) (wr : World) : Prop :=
  ∃ k : Nat, k ≤ n ∧ i = .int .i64 (k : Int) ∧ Below w.heap.size w wr ∧ ∀ j, j < k → mayR (rat l j) = true
def RowRel (w : World) (l : List Reg) (n : Nat) (i : Value) (wr : World) : Prop :=
  ∃ k : Nat, k ≤ n ∧ i = .int .i64 (k : Int) ∧ Below w.heap.size w wr ∧ ∀ i', i' < k → ∀ j, j < i' → apartR (rat l j) (rat l i') = true
def ColRel (w : World) (l : List Reg) (i : Nat) (k : Value) (wr : World) : Prop :=
  ∃ j : Nat, j ≤ i ∧ k = .int .i64 (j : Int) ∧ Below w.heap.size w wr ∧ ∀ j', j' < j → apartR (rat l j') (rat l i) = true
set_option maxRecDepth 1000000 in
set_option maxHeartbeats 1000000 in
theorem rAll (A : Option Addr) (n c : Nat) (l : List Reg) (w : World) (h : RdG w w.heap.size A n l) (hn : n ≤ 9223372036854775806) :
    Calls Try.prog 19 #[.slice A n c] w fun e w' => e = .returned (.int .i64 (allR l)) ∧ Below w.heap.size w w' := by
  have H := Lib.hid h
  have HN := Lib.hid hn
  clear h hn
  go_enter Try.func19, Try.ntmps19
  go_wp2
  go_loopw [3] (fun i wr => MayRel w l n i wr) (fun i _ => n - (intOf i).toNat)
  case atStart => exact ⟨0, Nat.zero_le _, rfl, Below.refl _ _, fun j hj => absurd hj (Nat.not_lt_zero _)⟩
  case round =>
    obtain ⟨k, hk, rfl, hb, hno⟩ := hrel
    have BB := Lib.hid hb
    have HNO := Lib.hid hno
    clear hb hno
    by_cases hlt : k < n
    · obtain ⟨b, o, rfl, hbo, hc⟩ := (H.out.below BB.out).2 (by omega)
      have c0 := (hc k hlt).1
      have c1 := (hc k hlt).2
      have hltI : (k : Int) < (n : Int) := by omega
      have HK : Hid (k < n) := hlt
      have hw : IntKind.i64.wrap ((k : Int) + 1) = (k : Int) + 1 := by have := HN.out; rw [IntKind.wrap_i64]; omega
      clear hc hk hlt hbo
      go_wp2_with fail
      refine (rMay (rat l k).1 (rat l k).2 wr).mono ?_
      rintro e w3 ⟨rfl, hb⟩
      clear c0 c1
      replace BB := Lib.hid (BB.out.trans (hb.mono BB.out.size))
      clear hb
      cases hq : mayR ((rat l k).1, (rat l k).2)
      · have HF : Hid (allR l = 2) := allR_two (by rw [H.out.1]; exact HK.out) hq
        clear hq
        go_wp2_with fail
        go_ret
        exact ⟨by rw [HF.out]; rfl, BB.out⟩
      · have HQ : Hid (mayR (rat l k) = true) := hq
        clear hq
        go_wp2_with fail
        go_roundw
        case rel =>
          refine ⟨k + 1, HK.out, by go_num, BB.out, fun j hj => ?_⟩
          rcases Nat.lt_or_ge j k with g | g
          · exact HNO.out j g
          · obtain rfl : j = k := by omega
            exact HQ.out
        case measure => have := HK.out; simp [intOf]; omega
    · obtain rfl : k = n := by omega
      have hltI : ¬ (k : Int) < (k : Int) := by omega
      have HM : Hid ((l.any fun r => !mayR r) = false) := any_false_iff.2 fun j hj => HNO.out j (by rw [← H.out.1]; exact hj)
      clear hk hlt
      go_wp2
      have BB1 := Lib.hid BB.out
      generalize wr = w1 at *
      go_loopw [4, 5] (fun i _ wr => RowRel w l k i wr) (fun i _ _ => k - (intOf i).toNat)
      case atStart => exact ⟨0, Nat.zero_le _, rfl, BB.out, fun j hj => absurd hj (Nat.not_lt_zero _)⟩
      case round =>
        obtain ⟨i, hi, rfl, hb, hno⟩ := hrel
        have BB := Lib.hid hb
        have HNO2 := Lib.hid hno
        clear hb hno
        by_cases hlt : i < k
        · have hltI : (i : Int) < (k : Int) := by omega
          have HK : Hid (i < k) := hlt
          have hw : IntKind.i64.wrap ((i : Int) + 1) = (i : Int) + 1 := by have := HN.out; rw [IntKind.wrap_i64]; omega
          clear hi hlt
          go_wp2
          go_loopw [5] (fun j wr => ColRel w l i j wr) (fun j _ => i - (intOf j).toNat)
          case atStart => exact ⟨0, Nat.zero_le _, rfl, BB.out, fun j hj => absurd hj (Nat.not_lt_zero _)⟩
          case round =>
            obtain ⟨j, hj, rfl, hb, hno⟩ := hrel
            have BC := Lib.hid hb
            have HNO3 := Lib.hid hno
            clear hb hno
            by_cases hlt : j < i
            · obtain ⟨b, o, rfl, hbo, hc⟩ := (H.out.below BC.out).2 (by have := HK.out; omega)
              have c0 := (hc i HK.out).1
              have c1 := (hc i HK.out).2
              have d0 := (hc j (by have := HK.out; omega)).1
              have d1 := (hc j (by have := HK.out; omega)).2
              have hjI : (j : Int) < (i : Int) := by omega
              have hjn : (j : Int) < (k : Int) := by have := HK.out; omega
              have HJ : Hid (j < i) := hlt
              have hwj : IntKind.i64.wrap ((j : Int) + 1) = (j : Int) + 1 := by have := HN.out; have := HK.out; rw [IntKind.wrap_i64]; omega
              clear hc hj hlt hbo
              go_wp2_with fail
              replace BC := Lib.hid BC.out.drew
              replace c0 : wr.drew.cell? ⟨b, o + i * 2, none⟩ = some (.int .i64 (rat l i).1) := c0
              replace c1 : wr.drew.cell? ⟨b, o + i * 2 + 1, none⟩ = some (.int .i64 (rat l i).2) := c1
              replace d0 : wr.drew.cell? ⟨b, o + j * 2, none⟩ = some (.int .i64 (rat l j).1) := d0
              replace d1 : wr.drew.cell? ⟨b, o + j * 2 + 1, none⟩ = some (.int .i64 (rat l j).2) := d1
              refine wp_region_held_drew (S := (fun w' => w'.cell? ⟨b, o + i * 2, none⟩ = some (.int .i64 (rat l i).1) ∧ w'.cell? ⟨b, o + i * 2 + 1, none⟩ = some (.int .i64 (rat l i).2) ∧ w'.cell? ⟨b, o + j * 2, none⟩ = some (.int .i64 (rat l j).1) ∧ w'.cell? ⟨b, o + j * 2 + 1, none⟩ = some (.int .i64 (rat l j).2))) (by kernel_rfl) (⟨c0, c1, d0, d1⟩) (fun hHeld => ?_)
              generalize wr.drew = wd at *
              cases hq : apartR ((rat l i).1, (rat l i).2) ((rat l j).1, (rat l j).2)
              · have HQ := Lib.hid hq
                have HF : Hid (allR l = 121) := allR_121 HM.out (by rw [H.out.1]; exact HK.out) HJ.out (by rw [apartR_symm]; exact hq)
                clear hq
                refine wpAnyH_take (i := 0) (v := ?_) rfl (by kernel_rfl) (by kernel_rfl) (by kernel_rfl) (fun _ _ _ h => h) (Or.inl ⟨by rfl, ?_⟩) (by assumption) ?_
                rotate_left 1
                · intro w hSw; (try dsimp only at hSw); go_simp; (try with_reducible rfl)
                simp only [Act.put, List.getElem_toArray, List.getElem_cons_zero, List.getElem_cons_succ, List.setIfInBounds_toArray, List.set_cons_zero, List.set_cons_succ]
                refine wpAnyH_take (i := 1) (v := ?_) rfl (by kernel_rfl) (by kernel_rfl) (by kernel_rfl) (fun _ _ _ h => h) (Or.inl ⟨by rfl, ?_⟩) (by assumption) ?_
                rotate_left 1
                · intro w hSw; (try dsimp only at hSw); go_simp; (try with_reducible rfl)
                simp only [Act.put, List.getElem_toArray, List.getElem_cons_zero, List.getElem_cons_succ, List.setIfInBounds_toArray, List.set_cons_zero, List.set_cons_succ]
                refine wpAnyH_take (i := 2) (v := ?_) rfl (by kernel_rfl) (by kernel_rfl) (by kernel_rfl) (fun _ _ _ h => h) (Or.inl ⟨by rfl, ?_⟩) (by assumption) ?_
                rotate_left 1
                · intro w hSw; (try dsimp only at hSw); go_simp; (try with_reducible rfl)
                simp only [Act.put, List.getElem_toArray, List.getElem_cons_zero, List.getElem_cons_succ, List.setIfInBounds_toArray, List.set_cons_zero, List.set_cons_succ]
                refine wpAnyH_take (i := 3) (v := ?_) rfl (by kernel_rfl) (by kernel_rfl) (by kernel_rfl) (fun _ _ _ h => h) (Or.inl ⟨by rfl, ?_⟩) (by assumption) ?_
                rotate_left 1
                · intro w hSw; (try dsimp only at hSw); go_simp; (try with_reducible rfl)
                simp only [Act.put, List.getElem_toArray, List.getElem_cons_zero, List.getElem_cons_succ, List.setIfInBounds_toArray, List.set_cons_zero, List.set_cons_succ]
                refine wpAnyH_take (i := 4) (v := ?_) rfl (by kernel_rfl) (by kernel_rfl) (by kernel_rfl) (fun _ _ _ h => h) (Or.inl ⟨by rfl, ?_⟩) (by assumption) ?_
                rotate_left 1
                · intro w hSw; (try dsimp only at hSw); go_simp; (try with_reducible rfl)
                simp only [Act.put, List.getElem_toArray, List.getElem_cons_zero, List.getElem_cons_succ, List.setIfInBounds_toArray, List.set_cons_zero, List.set_cons_succ]
                refine wpAnyH_take (i := 5) (v := ?_) rfl (by kernel_rfl) (by kernel_rfl) (by kernel_rfl) (fun _ _ _ h => h) (Or.inl ⟨by rfl, ?_⟩) (by assumption) ?_
                rotate_left 1
                · intro w hSw; (try dsimp only at hSw); go_simp; (try with_reducible rfl)
                simp only [Act.put, List.getElem_toArray, List.getElem_cons_zero, List.getElem_cons_succ, List.setIfInBounds_toArray, List.set_cons_zero, List.set_cons_succ]
                refine wpAnyH_take (i := 6) (v := ?_) rfl (by kernel_rfl) (by kernel_rfl) (by kernel_rfl) (fun _ _ _ h => h) (Or.inl ⟨by rfl, ?_⟩) (by assumption) ?_
                rotate_left 1
                · intro w hSw; (try dsimp only at hSw); go_simp; (try with_reducible rfl)
                simp only [Act.put, List.getElem_toArray, List.getElem_cons_zero, List.getElem_cons_succ, List.setIfInBounds_toArray, List.set_cons_zero, List.set_cons_succ]
                refine wpAnyH_take (i := 7) (v := ?_) rfl (by kernel_rfl) (by kernel_rfl) (by kernel_rfl) (fun _ _ _ h => h) (Or.inl ⟨by rfl, ?_⟩) (by assumption) ?_
                rotate_left 1
                · intro w hSw; (try dsimp only at hSw); go_simp; (try with_reducible rfl)
                simp only [Act.put, List.getElem_toArray, List.getElem_cons_zero, List.getElem_cons_succ, List.setIfInBounds_toArray, List.set_cons_zero, List.set_cons_succ]
                refine wpAnyH_ready (rs := [8]) (by kernel_rfl) (by simp) ?_
                refine AllReadyH.cons rfl (fun K hK => ?_) AllReadyH.nil
                go_simp
                refine (rApart (rat l i).1 (rat l i).2 (rat l j).1 (rat l j).2 _).mono ?_
                rw [HQ.out]
                rintro e w3 ⟨rfl, hb⟩
                go_wp2_with fail
                refine hK.out _ _ (⟨Below.kept hb c0, Below.kept hb c1, Below.kept hb d0, Below.kept hb d1⟩) (fun hHeld => ?_)
                clear hK K
                refine wpAnyH_take (i := 9) (v := ?_) rfl (by kernel_rfl) (by kernel_rfl) (by kernel_rfl) (fun _ _ _ h => h) (Or.inl ⟨by rfl, ?_⟩) (by assumption) ?_
                rotate_left 1
                · intro w hSw; (try dsimp only at hSw); go_simp; (try with_reducible rfl)
                simp only [Act.put, List.getElem_toArray, List.getElem_cons_zero, List.getElem_cons_succ, List.setIfInBounds_toArray, List.set_cons_zero, List.set_cons_succ]
                refine wpAnyH_done (by kernel_rfl) ?_ _
                clear hHeld
                replace BC := Lib.hid (BC.out.trans (hb.mono BC.out.size))
                clear hb c0 c1 d0 d1
                go_wp2_with fail
                go_ret
                exact ⟨by rw [HF.out]; rfl, BC.out⟩
              · have HQ := Lib.hid hq
                clear hq
                refine wpAnyH_take (i := 0) (v := ?_) rfl (by kernel_rfl) (by kernel_rfl) (by kernel_rfl) (fun _ _ _ h => h) (Or.inl ⟨by rfl, ?_⟩) (by assumption) ?_
                rotate_left 1
                · intro w hSw; (try dsimp only at hSw); go_simp; (try with_reducible rfl)
                simp only [Act.put, List.getElem_toArray, List.getElem_cons_zero, List.getElem_cons_succ, List.setIfInBounds_toArray, List.set_cons_zero, List.set_cons_succ]
                refine wpAnyH_take (i := 1) (v := ?_) rfl (by kernel_rfl) (by kernel_rfl) (by kernel_rfl) (fun _ _ _ h => h) (Or.inl ⟨by rfl, ?_⟩) (by assumption) ?_
                rotate_left 1
                · intro w hSw; (try dsimp only at hSw); go_simp; (try with_reducible rfl)
                simp only [Act.put, List.getElem_toArray, List.getElem_cons_zero, List.getElem_cons_succ, List.setIfInBounds_toArray, List.set_cons_zero, List.set_cons_succ]
                refine wpAnyH_take (i := 2) (v := ?_) rfl (by kernel_rfl) (by kernel_rfl) (by kernel_rfl) (fun _ _ _ h => h) (Or.inl ⟨by rfl, ?_⟩) (by assumption) ?_
                rotate_left 1
                · intro w hSw; (try dsimp only at hSw); go_simp; (try with_reducible rfl)
                simp only [Act.put, List.getElem_toArray, List.getElem_cons_zero, List.getElem_cons_succ, List.setIfInBounds_toArray, List.set_cons_zero, List.set_cons_succ]
                refine wpAnyH_take (i := 3) (v := ?_) rfl (by kernel_rfl) (by kernel_rfl) (by kernel_rfl) (fun _ _ _ h => h) (Or.inl ⟨by rfl, ?_⟩) (by assumption) ?_
                rotate_left 1
                · intro w hSw; (try dsimp only at hSw); go_simp; (try with_reducible rfl)
                simp only [Act.put, List.getElem_toArray, List.getElem_cons_zero, List.getElem_cons_succ, List.setIfInBounds_toArray, List.set_cons_zero, List.set_cons_succ]
                refine wpAnyH_take (i := 4) (v := ?_) rfl (by kernel_rfl) (by kernel_rfl) (by kernel_rfl) (fun _ _ _ h => h) (Or.inl ⟨by rfl, ?_⟩) (by assumption) ?_
                rotate_left 1
                · intro w hSw; (try dsimp only at hSw); go_simp; (try with_reducible rfl)
                simp only [Act.put, List.getElem_toArray, List.getElem_cons_zero, List.getElem_cons_succ, List.setIfInBounds_toArray, List.set_cons_zero, List.set_cons_succ]
                refine wpAnyH_take (i := 5) (v := ?_) rfl (by kernel_rfl) (by kernel_rfl) (by kernel_rfl) (fun _ _ _ h => h) (Or.inl ⟨by rfl, ?_⟩) (by assumption) ?_
                rotate_left 1
                · intro w hSw; (try dsimp only at hSw); go_simp; (try with_reducible rfl)
                simp only [Act.put, List.getElem_toArray, List.getElem_cons_zero, List.getElem_cons_succ, List.setIfInBounds_toArray, List.set_cons_zero, List.set_cons_succ]
                refine wpAnyH_take (i := 6) (v := ?_) rfl (by kernel_rfl) (by kernel_rfl) (by kernel_rfl) (fun _ _ _ h => h) (Or.inl ⟨by rfl, ?_⟩) (by assumption) ?_
                rotate_left 1
                · intro w hSw; (try dsimp only at hSw); go_simp; (try with_reducible rfl)
                simp only [Act.put, List.getElem_toArray, List.getElem_cons_zero, List.getElem_cons_succ, List.setIfInBounds_toArray, List.set_cons_zero, List.set_cons_succ]
                refine wpAnyH_take (i := 7) (v := ?_) rfl (by kernel_rfl) (by kernel_rfl) (by kernel_rfl) (fun _ _ _ h => h) (Or.inl ⟨by rfl, ?_⟩) (by assumption) ?_
                rotate_left 1
                · intro w hSw; (try dsimp only at hSw); go_simp; (try with_reducible rfl)
                simp only [Act.put, List.getElem_toArray, List.getElem_cons_zero, List.getElem_cons_succ, List.setIfInBounds_toArray, List.set_cons_zero, List.set_cons_succ]
                refine wpAnyH_ready (rs := [8]) (by kernel_rfl) (by simp) ?_
                refine AllReadyH.cons rfl (fun K hK => ?_) AllReadyH.nil
                go_simp
                refine (rApart (rat l i).1 (rat l i).2 (rat l j).1 (rat l j).2 _).mono ?_
                rw [HQ.out]
                rintro e w3 ⟨rfl, hb⟩
                go_wp2_with fail
                refine hK.out _ _ (⟨Below.kept hb c0, Below.kept hb c1, Below.kept hb d0, Below.kept hb d1⟩) (fun hHeld => ?_)
                clear hK K
                refine wpAnyH_take (i := 9) (v := ?_) rfl (by kernel_rfl) (by kernel_rfl) (by kernel_rfl) (fun _ _ _ h => h) (Or.inl ⟨by rfl, ?_⟩) (by assumption) ?_
                rotate_left 1
                · intro w hSw; (try dsimp only at hSw); go_simp; (try with_reducible rfl)
                simp only [Act.put, List.getElem_toArray, List.getElem_cons_zero, List.getElem_cons_succ, List.setIfInBounds_toArray, List.set_cons_zero, List.set_cons_succ]
                refine wpAnyH_done (by kernel_rfl) ?_ _
                clear hHeld
                replace BC := Lib.hid (BC.out.trans (hb.mono BC.out.size))
                clear hb c0 c1 d0 d1
                go_wp2_with fail
                go_roundw
                case rel =>
                  refine ⟨j + 1, HJ.out, by go_num, BC.out, fun j' hj' => ?_⟩
                  rcases Nat.lt_or_ge j' j with g | g
                  · exact HNO3.out j' g
                  · obtain rfl : j' = j := by omega
                    rw [apartR_symm]; exact HQ.out
                case measure => have := HJ.out; simp [intOf]; omega
            · obtain rfl : j = i := by omega
              have hjI : ¬ (j : Int) < (j : Int) := by omega
              clear hj hlt
              go_wp2
              go_roundw
              case rel =>
                refine ⟨j + 1, HK.out, by go_num, BC.out, fun i' hi' => ?_⟩
                rcases Nat.lt_or_ge i' j with g | g
                · exact HNO2.out i' g
                · obtain rfl : i' = j := by omega
                  exact HNO3.out
              case measure => have := HK.out; simp [intOf]; omega
        · obtain rfl : i = k := by omega
          have hltI : ¬ (i : Int) < (i : Int) := by omega
          have HF : Hid (allR l = 0) := allR_zero.2 ⟨fun r hr => by
            obtain ⟨j, hj, rfl⟩ := List.getElem_of_mem hr
            have := any_false_iff.1 HM.out j hj
            rwa [rat_lt hj] at this, pair_iff.2 fun i' hi' j hj => HNO2.out i' (by rw [← H.out.1]; exact hi') j hj⟩
          clear hi hlt
          go_wp2
          go_ret
          exact ⟨by rw [HF.out]; rfl, BB.out⟩
end Go.Proofs.Ytggnpnicmjjfbaa
