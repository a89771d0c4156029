/- Contracts of the program's frames (frame): payloadEnd, the four conditions, framed, Kind, Open, Seal: what each returns for a slice that reads as given bytes. -/
import Derived.Test.YtabonnhmmbigmaaFrameM
import Derived.Test.YtabonnhmmbigmaaCrcW
import Derived.Test.YtabonnhmmbigmaaSlice
import Derived.Deep.RegionHeld
import Derived.Deep.RegionLaw
namespace Go.Proofs.Ytabonnhmmbigmaa
open Go.RowKit
set_option linter.unusedVariables false
set_option linter.unusedSimpArgs false

theorem cell_lt {w : World} {a : Addr} {v : Value} (h : w.cell? a = some v) : a.block < w.heap.size := by
  rcases Nat.lt_or_ge a.block w.heap.size with hl | hl
  · exact hl
  · unfold World.cell? at h
    rw [Array.getElem?_eq_none hl] at h
    simp at h
set_option maxRecDepth 100000 in
theorem wPayEnd (A : Option Addr) (c : Nat) (bs : List UInt8) (w : World) (ha : Rd w w.heap.size A 64 bs) :
    Calls Try.prog 25 #[.slice A 64 c] w fun e w' => e = .returned (.int .i64 ((2 + nth bs 1 : Nat) : Int)) ∧ w = w' := by
  obtain ⟨b, o, rfl, hbo, hc⟩ := ha.2 (by omega)
  have h1 : w.cell? ⟨b, o + 1, none⟩ = some (.int .u8 (nth bs 1 : Int)) := hc 1 (by omega)
  have hlt := nth_lt bs 1
  have hltI : (nth bs 1 : Int) < 256 := by omega
  clear hc ha hlt
  generalize nth bs 1 = q at *
  go_enter Try.func25, Try.ntmps25
  go_wp2
  go_ret
  exact ⟨by go_num, rfl⟩

set_option maxRecDepth 100000 in
theorem wCond1 (g : Nat) (A : Option Addr) (n c : Nat) (w : World) (hc : w.cell? ⟨g, 0, none⟩ = some (.slice A n c)) :
    Calls Try.prog 32 #[.pointer (some ⟨g, 0, none⟩)] w fun e w' => e = .returned (.bool (decide (n = 64))) ∧ w = w' := by
  by_cases h : n = 64
  · subst h
    go_enter Try.func32, Try.ntmps32
    go_wp2
    go_ret
    exact ⟨rfl, rfl⟩
  · have f1 : ((n : Int) == 64) = false := by simp; omega
    have f2 : (n == 64) = false := by simp; exact h
    rw [decide_eq_false h]
    have H := Lib.hid h
    clear h
    go_enter Try.func32, Try.ntmps32
    go_wp2
    go_ret
    exact ⟨rfl, rfl⟩
set_option maxRecDepth 100000 in
theorem wCond2 (g : Nat) (A : Option Addr) (c : Nat) (bs : List UInt8) (w : World) (hc : w.cell? ⟨g, 0, none⟩ = some (.slice A 64 c)) (ha : Rd w w.heap.size A 64 bs) (hc1 : 64 ≤ c) (hc2 : c ≤ 9223372036854775807) :
    Calls Try.prog 33 #[.pointer (some ⟨g, 0, none⟩)] w fun e w' => e = .returned (.bool (chkOk bs)) ∧ Below w.heap.size w w' := by
  have R := Lib.hid ha
  clear ha
  go_enter Try.func33, Try.ntmps33
  go_wp2_with fail
  refine (wCheck A 64 c bs w R.out (by decide) hc1 hc2).mono ?_
  rintro e w1 ⟨A1, n1, c1, rfl, hown, hb⟩
  have B := Lib.hid hb
  clear hb hown hc
  go_wp2_with fail
  go_ret
  exact ⟨rfl, B.out⟩
set_option maxRecDepth 100000 in
theorem wCond3 (g : Nat) (A : Option Addr) (c : Nat) (bs : List UInt8) (w : World) (hc : w.cell? ⟨g, 0, none⟩ = some (.slice A 64 c)) (ha : Rd w w.heap.size A 64 bs) :
    Calls Try.prog 35 #[.pointer (some ⟨g, 0, none⟩)] w fun e w' => e = .returned (.bool (decide (nth bs 1 ≤ 58))) ∧ w = w' := by
  obtain ⟨b, o, rfl, hbo, hcc⟩ := ha.2 (by omega)
  have h1 : w.cell? ⟨b, o + 1, none⟩ = some (.int .u8 (nth bs 1 : Int)) := hcc 1 (by omega)
  clear hcc ha
  generalize nth bs 1 = q at *
  by_cases h : q ≤ 58
  · have hI : (q : Int) ≤ 58 := by omega
    rw [decide_eq_true h]
    clear h
    go_enter Try.func35, Try.ntmps35
    go_wp2
    go_ret
    exact ⟨rfl, rfl⟩
  · have hI : ¬ (q : Int) ≤ 58 := by omega
    rw [decide_eq_false h]
    clear h
    go_enter Try.func35, Try.ntmps35
    go_wp2
    go_ret
    exact ⟨rfl, rfl⟩
set_option maxRecDepth 1000000 in
set_option maxHeartbeats 1000000 in
theorem wCond4 (g : Nat) (A : Option Addr) (c : Nat) (bs : List UInt8) (w : World) (hc : w.cell? ⟨g, 0, none⟩ = some (.slice A 64 c)) (ha : Rd w w.heap.size A 64 bs) (hc1 : 64 ≤ c) (hc2 : c ≤ 9223372036854775807) (h58 : nth bs 1 ≤ 58) :
    Calls Try.prog 36 #[.pointer (some ⟨g, 0, none⟩)] w fun e w' => e = .returned (.bool (decide (bs.take 60 = padTo (bs.take (2 + nth bs 1)) 60))) ∧ Below w.heap.size w w' := by
  have R : Hid (Rd w.drew w.drew.heap.size A 64 bs) := ha
  have C : Hid (w.drew.cell? ⟨g, 0, none⟩ = some (.slice A 64 c)) := hc
  have B : Hid (Below w.heap.size w w.drew) := (Below.refl _ _).drew
  have BD : Hid (Below w.drew.heap.size w.drew w.drew) := Below.refl _ _
  have HPL : Hid ((padTo (bs.take (2 + nth bs 1)) 60).length = 60) := padTo_60 (by rw [List.length_take, ha.1]; omega)
  have HG : Hid (g < w.drew.heap.size) := cell_lt hc
  obtain ⟨q, hq⟩ : ∃ q, 2 + nth bs 1 = q := ⟨_, rfl⟩
  have hq60 : q ≤ 60 := by omega
  have HPE := Lib.hid (wPayEnd A c bs w.drew ha)
  rw [hq] at HPE HPL ⊢
  have k60 : ∀ w : World, (Instr.slice 22 (.slice A 64 c) none (some (.int .i64 60)) none).run Try.prog w = .ok (.slice A 60 c) w := fun w => slice_h isU8 A (n := 64) (c := c) (h := 60) (by omega) hc1 .i64 w
  have kq := slice_h isU8 A (n := 64) (c := c) (h := q) (by omega) hc1 .i64
  have S60 := Lib.hid (R.out.front (k := 60) (by omega))
  have SQ := Lib.hid (R.out.front (k := q) (by omega))
  clear ha hc h58 hq
  go_enter Try.func36, Try.ntmps36
  go_wp2_with fail
  generalize hwd : w.drew = wd at *
  have HWD := Lib.hid hwd
  clear hwd
  refine wp_region_held_drew (S := (fun w' => w'.cell? ⟨g, 0, none⟩ = some (.slice A 64 c))) (by kernel_rfl) ((by rw [HWD.out]; exact C.out)) (fun hHeld => ?_)
  rw [HWD.out] at hHeld ⊢
  refine wpAnyH_take (i := 0) (v := ?_) rfl (by kernel_rfl) (by kernel_rfl) (by kernel_rfl) (fun _ _ _ h => h) (Or.inl ⟨by rfl, ?_⟩) (by assumption) ?_
  rotate_left 1
  · intro w hSw; (try dsimp only at hSw); go_simp; (try with_reducible rfl)
  simp only [Act.put, List.getElem_toArray, List.getElem_cons_zero, List.getElem_cons_succ, List.setIfInBounds_toArray, List.set_cons_zero, List.set_cons_succ]
  refine wpAnyH_take (i := 1) (v := ?_) rfl (by kernel_rfl) (by kernel_rfl) (by kernel_rfl) (fun _ _ _ h => h) (Or.inl ⟨by rfl, ?_⟩) (by assumption) ?_
  rotate_left 1
  · intro w hSw; (try dsimp only at hSw); go_simp; (try with_reducible rfl)
  simp only [Act.put, List.getElem_toArray, List.getElem_cons_zero, List.getElem_cons_succ, List.setIfInBounds_toArray, List.set_cons_zero, List.set_cons_succ]
  refine wpAnyH_take (i := 2) (v := ?_) rfl (by kernel_rfl) (by kernel_rfl) (by kernel_rfl) (fun _ _ _ h => h) (Or.inl ⟨by rfl, ?_⟩) (by assumption) ?_
  rotate_left 1
  · intro w hSw; (try dsimp only at hSw); go_simp; (try with_reducible rfl)
  simp only [Act.put, List.getElem_toArray, List.getElem_cons_zero, List.getElem_cons_succ, List.setIfInBounds_toArray, List.set_cons_zero, List.set_cons_succ]
  refine wpAnyH_take (i := 3) (v := ?_) rfl (by kernel_rfl) (by kernel_rfl) (by kernel_rfl) (fun _ _ _ h => h) (Or.inl ⟨by rfl, ?_⟩) (by assumption) ?_
  rotate_left 1
  · intro w hSw; (try dsimp only at hSw); go_simp; (try with_reducible rfl)
  simp only [Act.put, List.getElem_toArray, List.getElem_cons_zero, List.getElem_cons_succ, List.setIfInBounds_toArray, List.set_cons_zero, List.set_cons_succ]
  refine wpAnyH_ready (rs := [4]) (by kernel_rfl) (by simp) ?_
  refine AllReadyH.cons rfl (fun K hK => ?_) AllReadyH.nil
  go_simp
  refine (HPE.out).mono ?_
  rintro e w' ⟨rfl, rfl⟩
  go_wp2_with fail
  refine hK.out _ _ (C.out) (fun hHeld => ?_)
  clear hK K
  refine wpAnyH_take (i := 5) (v := ?_) rfl (by kernel_rfl) (by kernel_rfl) (by kernel_rfl) (fun _ _ _ h => h) (Or.inl ⟨by rfl, ?_⟩) (by assumption) ?_
  rotate_left 1
  · intro w hSw; (try dsimp only at hSw); go_simp; (try with_reducible rfl)
  simp only [Act.put, List.getElem_toArray, List.getElem_cons_zero, List.getElem_cons_succ, List.setIfInBounds_toArray, List.set_cons_zero, List.set_cons_succ]
  refine wpAnyH_ready (rs := [6]) (by kernel_rfl) (by simp) ?_
  refine AllReadyH.cons rfl (fun K hK => ?_) AllReadyH.nil
  go_simp
  refine (wPadded A q c 60 (bs.take q) wd SQ.out (by omega) (by decide) (by decide)).mono ?_
  rintro e w1 ⟨A1, n1, c1, rfl, hown, hb⟩
  have P := Lib.hid (Rd.of_own hown)
  replace C := Lib.hid ((hb.cell HG.out).trans C.out)
  replace S60 := Lib.hid (S60.out.to hb)
  replace BD := Lib.hid hb
  clear hb hown
  go_wp2_with fail
  refine hK.out _ _ (C.out) (fun hHeld => ?_)
  clear hK K
  refine wpAnyH_ready (rs := [7]) (by kernel_rfl) (by simp) ?_
  refine AllReadyH.cons rfl (fun K hK => ?_) AllReadyH.nil
  go_simp
  refine (wSame A A1 60 n1 c c1 w1.heap.size (bs.take 60) _ w1 S60.out P.out).mono ?_
  rintro e w' ⟨rfl, rfl⟩
  go_wp2_with fail
  refine hK.out _ _ (C.out) (fun hHeld => ?_)
  clear hK K
  refine wpAnyH_take (i := 8) (v := ?_) rfl (by kernel_rfl) (by kernel_rfl) (by kernel_rfl) (fun _ _ _ h => h) (Or.inl ⟨by rfl, ?_⟩) (by assumption) ?_
  rotate_left 1
  · intro w hSw; (try dsimp only at hSw); go_simp; (try with_reducible rfl)
  simp only [Act.put, List.getElem_toArray, List.getElem_cons_zero, List.getElem_cons_succ, List.setIfInBounds_toArray, List.set_cons_zero, List.set_cons_succ]
  refine wpAnyH_done (by kernel_rfl) ?_ _
  go_wp2
  go_ret
  exact ⟨rfl, B.out.trans (BD.out.mono B.out.size)⟩
end Go.Proofs.Ytabonnhmmbigmaa
