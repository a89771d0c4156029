/- The laws' own do (citadellaw06): an act, done to the program's disk; a disk made. -/
import Derived.Test.YtbkdgciaapkemaaDiskLa
import Derived.Deep.RegionHeld
namespace Go.Proofs.Ytbkdgciaapkemaa
open Go.RowKit
set_option linter.unusedVariables false
set_option linter.unusedSimpArgs false

def DS.act (s : DS) (a : DAct) : Int × DS :=
  if a.kind = 0 ∨ a.kind = 1 ∨ a.kind = 2 then s.write a.n (sectorB a.b) else if a.kind = 3 ∨ a.kind = 4 then s.flush else if a.kind = 5 then s.crash a.b else if a.kind = 6 then s.arm a.n a.b else if a.kind = 7 ∨ a.kind = 8 then s.start else (0, s)
theorem own_off {w : World} {B : Nat} {T : TypeId} {A : Option Addr} {n c : Nat} {xs : List Value} (h : w.ownsRow B T 1 (.slice A n c) n xs) {F : Nat → Prop} (hf : ∀ k, F k → k < B) : Off A n F := fun hn b o e hb => by
  obtain ⟨g, hg, hB⟩ := own_head h hn
  rw [e] at hg
  injection hg with hg; injection hg with hg _
  have := hf b hb
  omega
theorem act_box (w : World) (a b c : Value) (T : TypeId) : (w.alloc (.cells #[a, b, c] T)).cell? ⟨w.heap.size, 0, none⟩ = some a ∧ (w.alloc (.cells #[a, b, c] T)).cell? ⟨w.heap.size, 1, none⟩ = some b ∧ (w.alloc (.cells #[a, b, c] T)).cell? ⟨w.heap.size, 2, none⟩ = some c := by
  have h := heap_alloc_last w (.cells #[a, b, c] T)
  exact ⟨by rw [cell_of_row _ _ _ _ _ _ h]; rfl, by rw [cell_of_row _ _ _ _ _ _ h]; rfl, by rw [cell_of_row _ _ _ _ _ _ h]; rfl⟩
theorem kinds (k : Int) : k = 0 ∨ k = 1 ∨ k = 2 ∨ k = 3 ∨ k = 4 ∨ k = 5 ∨ k = 6 ∨ k = 7 ∨ k = 8 ∨ (¬ k = 0 ∧ ¬ k = 1 ∧ ¬ k = 2 ∧ ¬ k = 3 ∧ ¬ k = 4 ∧ ¬ k = 5 ∧ ¬ k = 6 ∧ ¬ k = 7 ∧ ¬ k = 8) := by omega
theorem act_write {s : DS} {a : DAct} (h : a.kind = 0 ∨ a.kind = 1 ∨ a.kind = 2) : s.act a = s.write a.n (sectorB a.b) := by unfold DS.act; rw [if_pos h]
theorem act_flush {s : DS} {a : DAct} (h : a.kind = 3 ∨ a.kind = 4) : s.act a = s.flush := by unfold DS.act; rw [if_neg (by omega), if_pos h]
theorem act_crash {s : DS} {a : DAct} (h : a.kind = 5) : s.act a = s.crash a.b := by unfold DS.act; rw [if_neg (by omega), if_neg (by omega), if_pos h]
theorem act_arm {s : DS} {a : DAct} (h : a.kind = 6) : s.act a = s.arm a.n a.b := by unfold DS.act; rw [if_neg (by omega), if_neg (by omega), if_neg (by omega), if_pos h]
theorem act_start {s : DS} {a : DAct} (h : a.kind = 7 ∨ a.kind = 8) : s.act a = s.start := by unfold DS.act; rw [if_neg (by omega), if_neg (by omega), if_neg (by omega), if_neg (by omega), if_pos h]
theorem act_other {s : DS} {a : DAct} (h : ¬ a.kind = 0 ∧ ¬ a.kind = 1 ∧ ¬ a.kind = 2 ∧ ¬ a.kind = 3 ∧ ¬ a.kind = 4 ∧ ¬ a.kind = 5 ∧ ¬ a.kind = 6 ∧ ¬ a.kind = 7 ∧ ¬ a.kind = 8) : s.act a = (0, s) := by
  unfold DS.act; rw [if_neg (by omega), if_neg (by omega), if_neg (by omega), if_neg (by omega), if_neg (by omega)]

set_option maxRecDepth 1000000 in
set_option maxHeartbeats 1000000 in
theorem lDo (d : Nat) (F : Nat → Prop) (s : DS) (x : DAct) (A : Option Addr) (m c : Nat) (w : World) (h : DkAt w d F s) (hx : ActOk w w.heap.size x A m c) (ho : Off A m F) (hm : m ≤ 6000) :
    Calls Try.prog 26 #[.pointer (some ⟨d, 0, none⟩), .agg (actL x A m c).toArray] w (DkTo w d F (s.act x)) := by
  obtain ⟨c0, c1, c2⟩ := act_box w (.int .i64 x.kind) (.int .i64 x.n) (.slice A m c) 34
  have HB : Hid (Below w.heap.size w (w.alloc (.cells #[.int .i64 x.kind, .int .i64 x.n, .slice A m c] 34))) := (Below.refl _ _).alloc (Nat.le_refl _) _
  have H := Lib.hid (h.to HB.out)
  have HLT := Lib.hid h.lt
  have R := Lib.hid (hx.rd.to HB.out)
  have HO := Lib.hid ho
  have HM : Hid (m ≤ 6000) := hm
  have HNN := Lib.hid hx.nn
  have HMC := Lib.hid hx.mc
  have HCC := Lib.hid hx.cc
  obtain ⟨w0, hw0⟩ : ∃ w0, w.alloc (.cells #[.int .i64 x.kind, .int .i64 x.n, .slice A m c] 34) = w0 := ⟨_, rfl⟩
  have HW0 := Lib.hid hw0
  have HG : Hid (w.heap.size < w0.heap.size) := by show _ < _; rw [← hw0]; simp
  rw [hw0] at c0 c1 c2 HB H R
  clear h hx ho hm hw0
  obtain ⟨kd, xn, xb⟩ := x
  unfold actL
  simp only at c0 c1 R HNN
  rcases kinds kd with rfl | rfl | rfl | rfl | rfl | rfl | rfl | rfl | rfl | hkd
  · skip
    go_enter Try.func26, Try.ntmps26
    go_wp2_with fail
    rw [HW0.out]
    rw [act_write (by simp)]
    replace H : Hid (DkAt w0.drew d F s) := H.out.kept (R := fun _ => False) (Keep.refl _ _).drew (fun _ _ h => h)
    replace R := Lib.hid R.out.drew'
    replace HB := Lib.hid HB.out.drew
    replace HG : Hid (w.heap.size < w0.drew.heap.size) := HG.out
    have C1 : Hid (w0.drew.cell? ⟨w.heap.size, 1, none⟩ = some (.int .i64 xn)) := c1
    have C2 : Hid (w0.drew.cell? ⟨w.heap.size, 2, none⟩ = some (.slice A m c)) := c2
    clear c0 c1 c2 HW0
    generalize hwd : w0.drew = wd at *
    have HWD := Lib.hid hwd
    clear hwd
    refine wp_region_held_drew (S := (fun w' => w'.cell? ⟨w.heap.size, 1, none⟩ = some (.int .i64 xn) ∧ w'.cell? ⟨w.heap.size, 2, none⟩ = some (.slice A m c))) (by kernel_rfl) ((by rw [HWD.out]; exact ⟨C1.out, C2.out⟩)) (fun hHeld => ?_)
    rw [HWD.out] at hHeld ⊢
    refine wpAnyH_take (i := 0) (v := ?_) rfl (by kernel_rfl) (by kernel_rfl) (by kernel_rfl) (fun _ _ _ h => h) (Or.inl ⟨by rfl, ?_⟩) (by assumption) ?_
    rotate_left 1
    · intro w hSw; (try dsimp only at hSw); go_simp; (try with_reducible rfl)
    simp only [Act.put, List.getElem_toArray, List.getElem_cons_zero, List.getElem_cons_succ, List.setIfInBounds_toArray, List.set_cons_zero, List.set_cons_succ]
    refine wpAnyH_take (i := 1) (v := ?_) rfl (by kernel_rfl) (by kernel_rfl) (by kernel_rfl) (fun _ _ _ h => h) (Or.inl ⟨by rfl, ?_⟩) (by assumption) ?_
    rotate_left 1
    · intro w hSw; (try dsimp only at hSw); go_simp; (try with_reducible rfl)
    simp only [Act.put, List.getElem_toArray, List.getElem_cons_zero, List.getElem_cons_succ, List.setIfInBounds_toArray, List.set_cons_zero, List.set_cons_succ]
    refine wpAnyH_take (i := 2) (v := ?_) rfl (by kernel_rfl) (by kernel_rfl) (by kernel_rfl) (fun _ _ _ h => h) (Or.inl ⟨by rfl, ?_⟩) (by assumption) ?_
    rotate_left 1
    · intro w hSw; (try dsimp only at hSw); (have x := hSw.1); clear hSw; go_simp; (try with_reducible rfl)
    simp only [Act.put, List.getElem_toArray, List.getElem_cons_zero, List.getElem_cons_succ, List.setIfInBounds_toArray, List.set_cons_zero, List.set_cons_succ]
    refine wpAnyH_take (i := 3) (v := ?_) rfl (by kernel_rfl) (by kernel_rfl) (by kernel_rfl) (fun _ _ _ h => h) (Or.inl ⟨by rfl, ?_⟩) (by assumption) ?_
    rotate_left 1
    · intro w hSw; (try dsimp only at hSw); go_simp; (try with_reducible rfl)
    simp only [Act.put, List.getElem_toArray, List.getElem_cons_zero, List.getElem_cons_succ, List.setIfInBounds_toArray, List.set_cons_zero, List.set_cons_succ]
    refine wpAnyH_take (i := 4) (v := ?_) rfl (by kernel_rfl) (by kernel_rfl) (by kernel_rfl) (fun _ _ _ h => h) (Or.inl ⟨by rfl, ?_⟩) (by assumption) ?_
    rotate_left 1
    · intro w hSw; (try dsimp only at hSw); (have x := hSw.2); clear hSw; go_simp; (try with_reducible rfl)
    simp only [Act.put, List.getElem_toArray, List.getElem_cons_zero, List.getElem_cons_succ, List.setIfInBounds_toArray, List.set_cons_zero, List.set_cons_succ]
    refine wpAnyH_ready (rs := [5]) (by kernel_rfl) (by simp) ?_
    refine AllReadyH.cons rfl (fun K hK => ?_) AllReadyH.nil
    go_simp
    refine (lSector A m c xb wd R.out (by have := HM.out; omega)).mono ?_
    rintro e w4 ⟨A4, n4, c4, rfl, hown, hb⟩
    have O4 := Lib.hid hown
    have B4 := Lib.hid hb
    clear hown hb
    go_wp2_with fail
    refine hK.out _ _ (⟨(B4.out.cell HG.out).trans C1.out, (B4.out.cell HG.out).trans C2.out⟩) (fun hHeld => ?_)
    clear hK K
    have HW4 := Lib.hid (dWrite d F s xn A4 n4 c4 (sectorB xb) w4 (H.out.to B4.out) (Rd.of_own O4.out) (own_off O4.out H.out.lt))
    have HGF : Hid (¬ F w.heap.size) := fun e => absurd (HLT.out _ e) (Nat.lt_irrefl _)
    refine wpAnyH_ready (rs := [6]) (by kernel_rfl) (by simp) ?_
    refine AllReadyH.cons rfl (fun K hK => ?_) AllReadyH.nil
    go_simp
    refine (HW4.out).mono ?_
    rintro e w6 h6
    have H6 := Lib.hid (DkTo.after HB.out (DkTo.after B4.out h6))
    obtain ⟨rfl, F6, hd6, hf6, hk6⟩ := h6
    have K6 := Lib.hid hk6
    clear hd6 hf6 hk6
    go_wp2_with fail
    refine hK.out _ _ (⟨(K6.out.cell (a := ⟨w.heap.size, 1, none⟩) (Nat.lt_of_lt_of_le HG.out B4.out.size) HGF.out).trans ((B4.out.cell HG.out).trans C1.out), (K6.out.cell (a := ⟨w.heap.size, 2, none⟩) (Nat.lt_of_lt_of_le HG.out B4.out.size) HGF.out).trans ((B4.out.cell HG.out).trans C2.out)⟩) (fun hHeld => ?_)
    clear hK K
    refine wpAnyH_take (i := 7) (v := ?_) rfl (by kernel_rfl) (by kernel_rfl) (by kernel_rfl) (fun _ _ _ h => h) (Or.inl ⟨by rfl, ?_⟩) (by assumption) ?_
    rotate_left 1
    · intro w hSw; (try dsimp only at hSw); go_simp; (try with_reducible rfl)
    simp only [Act.put, List.getElem_toArray, List.getElem_cons_zero, List.getElem_cons_succ, List.setIfInBounds_toArray, List.set_cons_zero, List.set_cons_succ]
    refine wpAnyH_done (by kernel_rfl) ?_ _
    go_wp2_with fail
    go_ret
    exact H6.out
  · skip
    go_enter Try.func26, Try.ntmps26
    go_wp2_with fail
    rw [HW0.out]
    rw [act_write (by simp)]
    replace H : Hid (DkAt w0.drew d F s) := H.out.kept (R := fun _ => False) (Keep.refl _ _).drew (fun _ _ h => h)
    replace R := Lib.hid R.out.drew'
    replace HB := Lib.hid HB.out.drew
    replace HG : Hid (w.heap.size < w0.drew.heap.size) := HG.out
    have C1 : Hid (w0.drew.cell? ⟨w.heap.size, 1, none⟩ = some (.int .i64 xn)) := c1
    have C2 : Hid (w0.drew.cell? ⟨w.heap.size, 2, none⟩ = some (.slice A m c)) := c2
    clear c0 c1 c2 HW0
    generalize hwd : w0.drew = wd at *
    have HWD := Lib.hid hwd
    clear hwd
    refine wp_region_held_drew (S := (fun w' => w'.cell? ⟨w.heap.size, 1, none⟩ = some (.int .i64 xn) ∧ w'.cell? ⟨w.heap.size, 2, none⟩ = some (.slice A m c))) (by kernel_rfl) ((by rw [HWD.out]; exact ⟨C1.out, C2.out⟩)) (fun hHeld => ?_)
    rw [HWD.out] at hHeld ⊢
    refine wpAnyH_take (i := 0) (v := ?_) rfl (by kernel_rfl) (by kernel_rfl) (by kernel_rfl) (fun _ _ _ h => h) (Or.inl ⟨by rfl, ?_⟩) (by assumption) ?_
    rotate_left 1
    · intro w hSw; (try dsimp only at hSw); go_simp; (try with_reducible rfl)
    simp only [Act.put, List.getElem_toArray, List.getElem_cons_zero, List.getElem_cons_succ, List.setIfInBounds_toArray, List.set_cons_zero, List.set_cons_succ]
    refine wpAnyH_take (i := 1) (v := ?_) rfl (by kernel_rfl) (by kernel_rfl) (by kernel_rfl) (fun _ _ _ h => h) (Or.inl ⟨by rfl, ?_⟩) (by assumption) ?_
    rotate_left 1
    · intro w hSw; (try dsimp only at hSw); go_simp; (try with_reducible rfl)
    simp only [Act.put, List.getElem_toArray, List.getElem_cons_zero, List.getElem_cons_succ, List.setIfInBounds_toArray, List.set_cons_zero, List.set_cons_succ]
    refine wpAnyH_take (i := 2) (v := ?_) rfl (by kernel_rfl) (by kernel_rfl) (by kernel_rfl) (fun _ _ _ h => h) (Or.inl ⟨by rfl, ?_⟩) (by assumption) ?_
    rotate_left 1
    · intro w hSw; (try dsimp only at hSw); (have x := hSw.1); clear hSw; go_simp; (try with_reducible rfl)
    simp only [Act.put, List.getElem_toArray, List.getElem_cons_zero, List.getElem_cons_succ, List.setIfInBounds_toArray, List.set_cons_zero, List.set_cons_succ]
    refine wpAnyH_take (i := 3) (v := ?_) rfl (by kernel_rfl) (by kernel_rfl) (by kernel_rfl) (fun _ _ _ h => h) (Or.inl ⟨by rfl, ?_⟩) (by assumption) ?_
    rotate_left 1
    · intro w hSw; (try dsimp only at hSw); go_simp; (try with_reducible rfl)
    simp only [Act.put, List.getElem_toArray, List.getElem_cons_zero, List.getElem_cons_succ, List.setIfInBounds_toArray, List.set_cons_zero, List.set_cons_succ]
    refine wpAnyH_take (i := 4) (v := ?_) rfl (by kernel_rfl) (by kernel_rfl) (by kernel_rfl) (fun _ _ _ h => h) (Or.inl ⟨by rfl, ?_⟩) (by assumption) ?_
    rotate_left 1
    · intro w hSw; (try dsimp only at hSw); (have x := hSw.2); clear hSw; go_simp; (try with_reducible rfl)
    simp only [Act.put, List.getElem_toArray, List.getElem_cons_zero, List.getElem_cons_succ, List.setIfInBounds_toArray, List.set_cons_zero, List.set_cons_succ]
    refine wpAnyH_ready (rs := [5]) (by kernel_rfl) (by simp) ?_
    refine AllReadyH.cons rfl (fun K hK => ?_) AllReadyH.nil
    go_simp
    refine (lSector A m c xb wd R.out (by have := HM.out; omega)).mono ?_
    rintro e w4 ⟨A4, n4, c4, rfl, hown, hb⟩
    have O4 := Lib.hid hown
    have B4 := Lib.hid hb
    clear hown hb
    go_wp2_with fail
    refine hK.out _ _ (⟨(B4.out.cell HG.out).trans C1.out, (B4.out.cell HG.out).trans C2.out⟩) (fun hHeld => ?_)
    clear hK K
    have HW4 := Lib.hid (dWrite d F s xn A4 n4 c4 (sectorB xb) w4 (H.out.to B4.out) (Rd.of_own O4.out) (own_off O4.out H.out.lt))
    have HGF : Hid (¬ F w.heap.size) := fun e => absurd (HLT.out _ e) (Nat.lt_irrefl _)
    refine wpAnyH_ready (rs := [6]) (by kernel_rfl) (by simp) ?_
    refine AllReadyH.cons rfl (fun K hK => ?_) AllReadyH.nil
    go_simp
    refine (HW4.out).mono ?_
    rintro e w6 h6
    have H6 := Lib.hid (DkTo.after HB.out (DkTo.after B4.out h6))
    obtain ⟨rfl, F6, hd6, hf6, hk6⟩ := h6
    have K6 := Lib.hid hk6
    clear hd6 hf6 hk6
    go_wp2_with fail
    refine hK.out _ _ (⟨(K6.out.cell (a := ⟨w.heap.size, 1, none⟩) (Nat.lt_of_lt_of_le HG.out B4.out.size) HGF.out).trans ((B4.out.cell HG.out).trans C1.out), (K6.out.cell (a := ⟨w.heap.size, 2, none⟩) (Nat.lt_of_lt_of_le HG.out B4.out.size) HGF.out).trans ((B4.out.cell HG.out).trans C2.out)⟩) (fun hHeld => ?_)
    clear hK K
    refine wpAnyH_take (i := 7) (v := ?_) rfl (by kernel_rfl) (by kernel_rfl) (by kernel_rfl) (fun _ _ _ h => h) (Or.inl ⟨by rfl, ?_⟩) (by assumption) ?_
    rotate_left 1
    · intro w hSw; (try dsimp only at hSw); go_simp; (try with_reducible rfl)
    simp only [Act.put, List.getElem_toArray, List.getElem_cons_zero, List.getElem_cons_succ, List.setIfInBounds_toArray, List.set_cons_zero, List.set_cons_succ]
    refine wpAnyH_done (by kernel_rfl) ?_ _
    go_wp2_with fail
    go_ret
    exact H6.out
  · skip
    go_enter Try.func26, Try.ntmps26
    go_wp2_with fail
    rw [HW0.out]
    rw [act_write (by simp)]
    replace H : Hid (DkAt w0.drew d F s) := H.out.kept (R := fun _ => False) (Keep.refl _ _).drew (fun _ _ h => h)
    replace R := Lib.hid R.out.drew'
    replace HB := Lib.hid HB.out.drew
    replace HG : Hid (w.heap.size < w0.drew.heap.size) := HG.out
    have C1 : Hid (w0.drew.cell? ⟨w.heap.size, 1, none⟩ = some (.int .i64 xn)) := c1
    have C2 : Hid (w0.drew.cell? ⟨w.heap.size, 2, none⟩ = some (.slice A m c)) := c2
    clear c0 c1 c2 HW0
    generalize hwd : w0.drew = wd at *
    have HWD := Lib.hid hwd
    clear hwd
    refine wp_region_held_drew (S := (fun w' => w'.cell? ⟨w.heap.size, 1, none⟩ = some (.int .i64 xn) ∧ w'.cell? ⟨w.heap.size, 2, none⟩ = some (.slice A m c))) (by kernel_rfl) ((by rw [HWD.out]; exact ⟨C1.out, C2.out⟩)) (fun hHeld => ?_)
    rw [HWD.out] at hHeld ⊢
    refine wpAnyH_take (i := 0) (v := ?_) rfl (by kernel_rfl) (by kernel_rfl) (by kernel_rfl) (fun _ _ _ h => h) (Or.inl ⟨by rfl, ?_⟩) (by assumption) ?_
    rotate_left 1
    · intro w hSw; (try dsimp only at hSw); go_simp; (try with_reducible rfl)
    simp only [Act.put, List.getElem_toArray, List.getElem_cons_zero, List.getElem_cons_succ, List.setIfInBounds_toArray, List.set_cons_zero, List.set_cons_succ]
    refine wpAnyH_take (i := 1) (v := ?_) rfl (by kernel_rfl) (by kernel_rfl) (by kernel_rfl) (fun _ _ _ h => h) (Or.inl ⟨by rfl, ?_⟩) (by assumption) ?_
    rotate_left 1
    · intro w hSw; (try dsimp only at hSw); go_simp; (try with_reducible rfl)
    simp only [Act.put, List.getElem_toArray, List.getElem_cons_zero, List.getElem_cons_succ, List.setIfInBounds_toArray, List.set_cons_zero, List.set_cons_succ]
    refine wpAnyH_take (i := 2) (v := ?_) rfl (by kernel_rfl) (by kernel_rfl) (by kernel_rfl) (fun _ _ _ h => h) (Or.inl ⟨by rfl, ?_⟩) (by assumption) ?_
    rotate_left 1
    · intro w hSw; (try dsimp only at hSw); (have x := hSw.1); clear hSw; go_simp; (try with_reducible rfl)
    simp only [Act.put, List.getElem_toArray, List.getElem_cons_zero, List.getElem_cons_succ, List.setIfInBounds_toArray, List.set_cons_zero, List.set_cons_succ]
    refine wpAnyH_take (i := 3) (v := ?_) rfl (by kernel_rfl) (by kernel_rfl) (by kernel_rfl) (fun _ _ _ h => h) (Or.inl ⟨by rfl, ?_⟩) (by assumption) ?_
    rotate_left 1
    · intro w hSw; (try dsimp only at hSw); go_simp; (try with_reducible rfl)
    simp only [Act.put, List.getElem_toArray, List.getElem_cons_zero, List.getElem_cons_succ, List.setIfInBounds_toArray, List.set_cons_zero, List.set_cons_succ]
    refine wpAnyH_take (i := 4) (v := ?_) rfl (by kernel_rfl) (by kernel_rfl) (by kernel_rfl) (fun _ _ _ h => h) (Or.inl ⟨by rfl, ?_⟩) (by assumption) ?_
    rotate_left 1
    · intro w hSw; (try dsimp only at hSw); (have x := hSw.2); clear hSw; go_simp; (try with_reducible rfl)
    simp only [Act.put, List.getElem_toArray, List.getElem_cons_zero, List.getElem_cons_succ, List.setIfInBounds_toArray, List.set_cons_zero, List.set_cons_succ]
    refine wpAnyH_ready (rs := [5]) (by kernel_rfl) (by simp) ?_
    refine AllReadyH.cons rfl (fun K hK => ?_) AllReadyH.nil
    go_simp
    refine (lSector A m c xb wd R.out (by have := HM.out; omega)).mono ?_
    rintro e w4 ⟨A4, n4, c4, rfl, hown, hb⟩
    have O4 := Lib.hid hown
    have B4 := Lib.hid hb
    clear hown hb
    go_wp2_with fail
    refine hK.out _ _ (⟨(B4.out.cell HG.out).trans C1.out, (B4.out.cell HG.out).trans C2.out⟩) (fun hHeld => ?_)
    clear hK K
    have HW4 := Lib.hid (dWrite d F s xn A4 n4 c4 (sectorB xb) w4 (H.out.to B4.out) (Rd.of_own O4.out) (own_off O4.out H.out.lt))
    have HGF : Hid (¬ F w.heap.size) := fun e => absurd (HLT.out _ e) (Nat.lt_irrefl _)
    refine wpAnyH_ready (rs := [6]) (by kernel_rfl) (by simp) ?_
    refine AllReadyH.cons rfl (fun K hK => ?_) AllReadyH.nil
    go_simp
    refine (HW4.out).mono ?_
    rintro e w6 h6
    have H6 := Lib.hid (DkTo.after HB.out (DkTo.after B4.out h6))
    obtain ⟨rfl, F6, hd6, hf6, hk6⟩ := h6
    have K6 := Lib.hid hk6
    clear hd6 hf6 hk6
    go_wp2_with fail
    refine hK.out _ _ (⟨(K6.out.cell (a := ⟨w.heap.size, 1, none⟩) (Nat.lt_of_lt_of_le HG.out B4.out.size) HGF.out).trans ((B4.out.cell HG.out).trans C1.out), (K6.out.cell (a := ⟨w.heap.size, 2, none⟩) (Nat.lt_of_lt_of_le HG.out B4.out.size) HGF.out).trans ((B4.out.cell HG.out).trans C2.out)⟩) (fun hHeld => ?_)
    clear hK K
    refine wpAnyH_take (i := 7) (v := ?_) rfl (by kernel_rfl) (by kernel_rfl) (by kernel_rfl) (fun _ _ _ h => h) (Or.inl ⟨by rfl, ?_⟩) (by assumption) ?_
    rotate_left 1
    · intro w hSw; (try dsimp only at hSw); go_simp; (try with_reducible rfl)
    simp only [Act.put, List.getElem_toArray, List.getElem_cons_zero, List.getElem_cons_succ, List.setIfInBounds_toArray, List.set_cons_zero, List.set_cons_succ]
    refine wpAnyH_done (by kernel_rfl) ?_ _
    go_wp2_with fail
    go_ret
    exact H6.out
  · skip
    go_enter Try.func26, Try.ntmps26
    go_wp2_with fail
    rw [HW0.out]
    rw [act_flush (by simp)]
    refine (dFlush d F s w0 H.out).mono ?_
    rintro e w6 h6
    have H6 := Lib.hid (DkTo.after HB.out h6)
    obtain ⟨rfl, _⟩ := h6
    go_wp2_with fail
    go_ret
    exact H6.out
  · skip
    go_enter Try.func26, Try.ntmps26
    go_wp2_with fail
    rw [HW0.out]
    rw [act_flush (by simp)]
    refine (dFlush d F s w0 H.out).mono ?_
    rintro e w6 h6
    have H6 := Lib.hid (DkTo.after HB.out h6)
    obtain ⟨rfl, _⟩ := h6
    go_wp2_with fail
    go_ret
    exact H6.out
  · skip
    go_enter Try.func26, Try.ntmps26
    go_wp2_with fail
    rw [HW0.out]
    rw [act_crash rfl]
    refine (dCrash d F s A m c xb w0 H.out R.out HMC.out (by have := HCC.out; omega)).mono ?_
    rintro e w6 h6
    have H6 := Lib.hid (DkTo.after HB.out h6)
    obtain ⟨rfl, _⟩ := h6
    go_wp2_with fail
    go_ret
    exact H6.out
  · skip
    go_enter Try.func26, Try.ntmps26
    go_wp2_with fail
    rw [HW0.out]
    rw [act_arm rfl]
    refine (dArm d F s xn A m c xb w0 H.out HNN.out.2 R.out HMC.out (by have := HCC.out; omega)).mono ?_
    rintro e w6 h6
    have H6 := Lib.hid (DkTo.after HB.out h6)
    obtain ⟨rfl, _⟩ := h6
    go_wp2_with fail
    go_ret
    exact H6.out
  · skip
    go_enter Try.func26, Try.ntmps26
    go_wp2_with fail
    rw [HW0.out]
    rw [act_start (by simp)]
    refine (dStart d F s w0 H.out).mono ?_
    rintro e w6 h6
    have H6 := Lib.hid (DkTo.after HB.out h6)
    obtain ⟨rfl, _⟩ := h6
    go_wp2_with fail
    go_ret
    exact H6.out
  · skip
    go_enter Try.func26, Try.ntmps26
    go_wp2_with fail
    rw [HW0.out]
    rw [act_start (by simp)]
    refine (dStart d F s w0 H.out).mono ?_
    rintro e w6 h6
    have H6 := Lib.hid (DkTo.after HB.out h6)
    obtain ⟨rfl, _⟩ := h6
    go_wp2_with fail
    go_ret
    exact H6.out
  · have HKD : Hid (¬ kd = 0 ∧ ¬ kd = 1 ∧ ¬ kd = 2 ∧ ¬ kd = 3 ∧ ¬ kd = 4 ∧ ¬ kd = 5 ∧ ¬ kd = 6 ∧ ¬ kd = 7 ∧ ¬ kd = 8) := hkd
    obtain ⟨k0, k1, k2, k3, k4, k5, k6, k7, k8⟩ := hkd
    go_enter Try.func26, Try.ntmps26
    go_wp2_with fail
    go_ret
    rw [HW0.out, act_other HKD.out]
    exact (DkTo.same H.out).after HB.out

/-- What made hands back: a new disk, or none. -/
def MadeR (w : World) (n : Int) (l : List DAct) (e : Ending) (w' : World) : Prop :=
  (∃ (k d : Nat) (F : Nat → Prop), n = (k : Int) ∧ 1 ≤ k ∧ k ≤ 12 ∧ Few l ∧ e = .returned (.tuple #[.pointer (some ⟨d, 0, none⟩), .bool true]) ∧ DkAt w' d F (DS.new k) ∧ (∀ j, F j → w.heap.size ≤ j) ∧ Below w.heap.size w w') ∨
  (e = .returned (.tuple #[.pointer none, .bool false]) ∧ w = w')
set_option maxRecDepth 1000000 in
set_option maxHeartbeats 1000000 in
theorem lMade (n : Int) (A : Option Addr) (m c : Nat) (l : List DAct) (w : World) (h : RdA w w.heap.size A m l) (hm : m ≤ 140737488351232) :
    Calls Try.prog 25 #[.int .i64 n, .slice A m c] w (MadeR w n l) := by
  have HG := Lib.hid (lGreat A m c l w h hm)
  clear h
  go_enter Try.func25, Try.ntmps25
  by_cases h1 : n < 1
  · go_wp2_with fail
    go_ret2
    exact .inr ⟨rfl, rfl⟩
  by_cases h2 : n > 12
  · go_wp2_with fail
    go_ret2
    exact .inr ⟨rfl, rfl⟩
  have HN : Hid (1 ≤ n ∧ n ≤ 12) := ⟨by omega, by omega⟩
  go_wp2_with fail
  refine (HG.out).mono ?_
  rintro e w1 ⟨g, rfl, rfl, hg⟩
  cases g with
  | true =>
    clear hg
    go_wp2_with fail
    go_ret2
    exact .inr ⟨rfl, rfl⟩
  | false =>
    have HF := Lib.hid (hg rfl)
    clear hg
    obtain ⟨k, rfl⟩ : ∃ k : Nat, n = (k : Int) := ⟨n.toNat, by have := HN.out.1; omega⟩
    go_wp2_with fail
    refine (dNew k w (by have := HN.out.1; omega) (by have := HN.out.2; omega)).mono ?_
    rintro e w1 ⟨d, rfl, F, hd, hf, hb⟩
    have D1 := Lib.hid hd
    have F1 := Lib.hid hf
    have B1 := Lib.hid hb
    clear hd hf hb
    go_wp2_with fail
    go_ret2
    exact .inl ⟨k, d, F, rfl, by have := HN.out.1; omega, by have := HN.out.2; omega, HF.out, rfl, D1.out, F1.out, B1.out⟩
end Go.Proofs.Ytbkdgciaapkemaa
