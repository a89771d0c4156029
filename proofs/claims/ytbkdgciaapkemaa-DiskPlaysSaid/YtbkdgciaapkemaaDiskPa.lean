/- Layer 6: both disks, the program's and the document's, in the same state: what the law's told asks of them (citadellaw06.told): it returns true, and only makes memory. -/
import Derived.Test.YtbkdgciaapkemaaDiskLd
import Derived.Test.YtbkdgciaapkemaaDiskRows
import Derived.Test.YtbkdgciaapkemaaDiskU
import Derived.Test.YtbkdgciaapkemaaKit
import Derived.Deep.RegionHeld
namespace Go.Proofs.Ytbkdgciaapkemaa
open Go.RowKit
set_option linter.unusedVariables false
set_option linter.unusedSimpArgs false

/-- Both disks, apart, in one state. -/
structure Pair (w : World) (d : Nat) (F : Nat → Prop) (r : Nat) (G : Nat → Prop) (s : DS) : Prop where
  dk : DkAt w d F s
  dr : DrAt w r G s
  off : ∀ k, F k → ¬ G k
theorem Pair.to {w w' : World} {d : Nat} {F : Nat → Prop} {r : Nat} {G : Nat → Prop} {s : DS} (h : Pair w d F r G s) (hb : Below w.heap.size w w') : Pair w' d F r G s := ⟨h.dk.to hb, h.dr.to hb, h.off⟩
theorem Pair.drew {w : World} {d : Nat} {F : Nat → Prop} {r : Nat} {G : Nat → Prop} {s : DS} (h : Pair w d F r G s) : Pair w.drew d F r G s :=
  ⟨h.dk.kept (R := fun _ => False) (Keep.refl _ _).drew (fun _ _ h => h), h.dr.kept (R := fun _ => False) (Keep.refl _ _).drew (fun _ _ h => h), h.off⟩
/-- The cells of the document's disk that the law reads itself. -/
theorem DrAt.cells {w : World} {r : Nat} {G : Nat → Prop} {s : DS} (h : DrAt w r G s) :
    ∃ lb cap, w.cell? ⟨r, 0, none⟩ = some (.slice (some ⟨lb, 0, none⟩) s.L.length cap) ∧ w.cell? ⟨r, 1, none⟩ = some (.bool (!s.up)) ∧ s.L.length ≤ cap ∧ cap ≤ 9223372036854775807 ∧
      ∀ i, i < s.L.length → ∃ b o c, w.cell? ⟨lb, i * 2, none⟩ = some (.slice (some ⟨b, o, none⟩) 64 c) ∧ Rd w w.heap.size (some ⟨b, o, none⟩) 64 (secAt s.L i).1 := by
  obtain ⟨lb, cap, vs, A, m, c, h⟩ := h
  obtain ⟨c0, c1, _⟩ := drCell h.obj
  refine ⟨lb, cap, c0, c1, h.cap.1, h.cap.2, fun i hi => ?_⟩
  obtain ⟨b, o, c, e, hr, _⟩ := (h.sec i hi).1
  exact ⟨b, o, c, by rw [← e]; exact (h.cell hi).1, hr⟩
/-- The round that raises each byte of one row, while another row stays. -/
def IncTwo (B B2 n c m c2 : Nat) (A A2 : Option Addr) (ys : List UInt8) (w : World) (i : Value) (wr : World) : Prop :=
  ∃ (k : Nat) (bs : List UInt8), k ≤ n ∧ i = .int .i64 (k : Int) ∧ wr.ownsRow B 5 1 (.slice A n c) n (bs.map bval) ∧ wr.ownsRow B2 5 1 (.slice A2 m c2) m (ys.map bval) ∧ Below B w wr

theorem flushed_len {s : DS} (h : s.ok) (i : Int) : (s.flushed i).length ≤ 64 := by
  unfold DS.flushed
  split
  · simp
  · rename_i hh
    simp only [DS.has, decide_eq_false_iff_not, Classical.not_not] at hh
    rw [h.secF (by omega)]
    exact Nat.le_refl _
theorem read_len {s : DS} (h : s.ok) (i : Int) : (s.read i).1.length ≤ 64 := by
  unfold DS.read
  split
  · simp
  split
  · simp
  · rename_i hh
    simp only [DS.has, decide_eq_false_iff_not, Classical.not_not] at hh
    show (Sec.now _).length ≤ 64
    unfold Sec.now
    cases hc : (secAt s.L i.toNat).2 with
    | none => simp only [Option.getD_none]; rw [h.secF (by omega)]; exact Nat.le_refl _
    | some c => simp only [Option.getD_some]; rw [h.secC (by omega) hc]; exact Nat.le_refl _
theorem flushed_out {s : DS} {i : Int} (h : ¬ (0 ≤ i ∧ i < s.L.length)) : s.flushed i = [] := by
  unfold DS.flushed
  rw [if_pos (by simp only [DS.has, decide_eq_false_iff_not]; exact h)]
theorem flushed_in {s : DS} {k : Nat} (h : k < s.L.length) : s.flushed (k : Int) = (secAt s.L k).1 := by
  unfold DS.flushed
  rw [if_neg (by simp only [DS.has, decide_eq_false_iff_not, Classical.not_not]; omega), Int.toNat_natCast]

set_option maxRecDepth 1000000 in
set_option maxHeartbeats 1000000 in
theorem lTold (d r : Nat) (F G : Nat → Prop) (s : DS) (w : World) (h : Pair w d F r G s) :
    Calls Try.prog 12 #[.pointer (some ⟨d, 0, none⟩), .pointer (some ⟨r, 0, none⟩)] w fun e w' => e = .returned (.bool true) ∧ Below w.heap.size w w' := by
  have H := Lib.hid h
  have H0 := Lib.hid h
  have HOK := Lib.hid h.dk.ok
  clear h
  go_enter Try.func12, Try.ntmps12
  go_wp2_with fail
  refine (dDirty d F s w H.out.dk).mono ?_
  rintro e w1 ⟨A1, c1, rfl, hown, hb⟩
  have R1 := Lib.hid (RdK.of_own hown)
  have CP1 := Lib.hid (own_cap hown)
  have B1 := Lib.hid hb
  replace H := Lib.hid (H.out.to hb)
  clear hown hb
  go_wp2_with fail
  refine (qDirty r G s w1 H.out.dr).mono ?_
  rintro e w2 ⟨A2, c2, rfl, hown, hb⟩
  have R2 := Lib.hid (RdK.of_own hown)
  have CP2 := Lib.hid (own_cap hown)
  have B2 := Lib.hid (B1.out.trans (hb.mono B1.out.size))
  replace H := Lib.hid (H.out.to hb)
  replace R1 := Lib.hid (R1.out.to hb)
  have hDL : (dirtyL s.L).length ≤ 1024 := Nat.le_trans (dirtyFrom_le 0 s.L) HOK.out.len
  clear hown hb B1
  generalize dirtyL s.L = D at *
  have HDL : Hid (D.length ≤ 1024) := hDL
  have HNL : Hid (s.L.length ≤ 1024) := HOK.out.len
  clear hDL
  obtain ⟨lb, cap, x0, x1, -, -, -⟩ := H.out.dr.cells
  have HD := Lib.hid H.out.drew
  have BD := Lib.hid B2.out.drew
  have RD1 := Lib.hid R1.out.drew'
  have RD2 := Lib.hid R2.out.drew'
  have X0 : Hid (w2.drew.cell? ⟨r, 0, none⟩ = some (.slice (some ⟨lb, 0, none⟩) s.L.length cap)) := x0
  have X1 : Hid (w2.drew.cell? ⟨r, 1, none⟩ = some (.bool (!s.up))) := x1
  have HUD := Lib.hid (dUp d F s _ HD.out.dk)
  have HLD := Lib.hid (dLen d F s _ HD.out.dk)
  clear x0 x1 H B2 R1 R2
  generalize hwd : w2.drew = wd at *
  have HWD := Lib.hid hwd
  clear hwd
  go_wp2_with fail
  refine wp_region_held_drew (S := (fun w' => w'.cell? ⟨r, 0, none⟩ = some (.slice (some ⟨lb, 0, none⟩) s.L.length cap) ∧ w'.cell? ⟨r, 1, none⟩ = some (.bool (!s.up)))) (by kernel_rfl) ((by rw [HWD.out]; exact ⟨X0.out, X1.out⟩)) (fun hHeld => ?_)
  rw [HWD.out] at hHeld ⊢
  refine wpAnyH_take (i := 0) (v := ?_) rfl (by kernel_rfl) (by kernel_rfl) (by kernel_rfl) (fun _ _ _ h => h) (Or.inl ⟨by rfl, ?_⟩) (by assumption) ?_
  rotate_left 1
  · intro w hSw; (try dsimp only at hSw); go_simp; (try with_reducible rfl)
  simp only [Act.put, List.getElem_toArray, List.getElem_cons_zero, List.getElem_cons_succ, List.setIfInBounds_toArray, List.set_cons_zero, List.set_cons_succ]
  refine wpAnyH_take (i := 2) (v := ?_) rfl (by kernel_rfl) (by kernel_rfl) (by kernel_rfl) (fun _ _ _ h => h) (Or.inl ⟨by rfl, ?_⟩) (by assumption) ?_
  rotate_left 1
  · intro w hSw; (try dsimp only at hSw); go_simp; (try with_reducible rfl)
  simp only [Act.put, List.getElem_toArray, List.getElem_cons_zero, List.getElem_cons_succ, List.setIfInBounds_toArray, List.set_cons_zero, List.set_cons_succ]
  refine wpAnyH_take (i := 3) (v := ?_) rfl (by kernel_rfl) (by kernel_rfl) (by kernel_rfl) (fun _ _ _ h => h) (Or.inl ⟨by rfl, ?_⟩) (by assumption) ?_
  rotate_left 1
  · intro w hSw; (try dsimp only at hSw); go_simp; (try with_reducible rfl)
  simp only [Act.put, List.getElem_toArray, List.getElem_cons_zero, List.getElem_cons_succ, List.setIfInBounds_toArray, List.set_cons_zero, List.set_cons_succ]
  refine wpAnyH_take (i := 4) (v := ?_) rfl (by kernel_rfl) (by kernel_rfl) (by kernel_rfl) (fun _ _ _ h => h) (Or.inl ⟨by rfl, ?_⟩) (by assumption) ?_
  rotate_left 1
  · intro w hSw; (try dsimp only at hSw); go_simp; (try with_reducible rfl)
  simp only [Act.put, List.getElem_toArray, List.getElem_cons_zero, List.getElem_cons_succ, List.setIfInBounds_toArray, List.set_cons_zero, List.set_cons_succ]
  refine wpAnyH_take (i := 5) (v := ?_) rfl (by kernel_rfl) (by kernel_rfl) (by kernel_rfl) (fun _ _ _ h => h) (Or.inl ⟨by rfl, ?_⟩) (by assumption) ?_
  rotate_left 1
  · intro w hSw; (try dsimp only at hSw); (have x := hSw.2); clear hSw; go_simp; (try with_reducible rfl)
  simp only [Act.put, List.getElem_toArray, List.getElem_cons_zero, List.getElem_cons_succ, List.setIfInBounds_toArray, List.set_cons_zero, List.set_cons_succ]
  refine wpAnyH_ready (rs := [1]) (by kernel_rfl) (by simp) ?_
  refine AllReadyH.cons rfl (fun K hK => ?_) AllReadyH.nil
  go_simp
  refine (HUD.out).mono ?_
  rintro e w' ⟨rfl, rfl⟩
  go_wp2_with fail
  refine hK.out _ _ (⟨X0.out, X1.out⟩) (fun hHeld => ?_)
  clear hK K
  refine wpAnyH_take (i := 6) (v := .bool false) rfl (by kernel_rfl) (by kernel_rfl) (by kernel_rfl) (fun _ _ _ h => h) (Or.inl ⟨by rfl, ?_⟩) (by assumption) ?_
  · intro w hSw
    cases s.up <;> go_simp
  simp only [Act.put, List.getElem_toArray, List.getElem_cons_zero, List.getElem_cons_succ, List.setIfInBounds_toArray, List.set_cons_zero, List.set_cons_succ]
  refine wpAnyH_take (i := 7) (v := ?_) rfl (by kernel_rfl) (by kernel_rfl) (by kernel_rfl) (fun _ _ _ h => h) (Or.inl ⟨by rfl, ?_⟩) (by assumption) ?_
  rotate_left 1
  · intro w hSw; (try dsimp only at hSw); go_simp; (try with_reducible rfl)
  simp only [Act.put, List.getElem_toArray, List.getElem_cons_zero, List.getElem_cons_succ, List.setIfInBounds_toArray, List.set_cons_zero, List.set_cons_succ]
  refine wpAnyH_take (i := 8) (v := ?_) rfl (by kernel_rfl) (by kernel_rfl) (by kernel_rfl) (fun _ _ _ h => h) (Or.inl ⟨by rfl, ?_⟩) (by assumption) ?_
  rotate_left 1
  · intro w hSw; (try dsimp only at hSw); go_simp; (try with_reducible rfl)
  simp only [Act.put, List.getElem_toArray, List.getElem_cons_zero, List.getElem_cons_succ, List.setIfInBounds_toArray, List.set_cons_zero, List.set_cons_succ]
  refine wpAnyH_take (i := 10) (v := ?_) rfl (by kernel_rfl) (by kernel_rfl) (by kernel_rfl) (fun _ _ _ h => h) (Or.inl ⟨by rfl, ?_⟩) (by assumption) ?_
  rotate_left 1
  · intro w hSw; (try dsimp only at hSw); go_simp; (try with_reducible rfl)
  simp only [Act.put, List.getElem_toArray, List.getElem_cons_zero, List.getElem_cons_succ, List.setIfInBounds_toArray, List.set_cons_zero, List.set_cons_succ]
  refine wpAnyH_take (i := 11) (v := ?_) rfl (by kernel_rfl) (by kernel_rfl) (by kernel_rfl) (fun _ _ _ h => h) (Or.inl ⟨by rfl, ?_⟩) (by assumption) ?_
  rotate_left 1
  · intro w hSw; (try dsimp only at hSw); go_simp; (try with_reducible rfl)
  simp only [Act.put, List.getElem_toArray, List.getElem_cons_zero, List.getElem_cons_succ, List.setIfInBounds_toArray, List.set_cons_zero, List.set_cons_succ]
  refine wpAnyH_take (i := 12) (v := ?_) rfl (by kernel_rfl) (by kernel_rfl) (by kernel_rfl) (fun _ _ _ h => h) (Or.inl ⟨by rfl, ?_⟩) (by assumption) ?_
  rotate_left 1
  · intro w hSw; (try dsimp only at hSw); go_simp; (try with_reducible rfl)
  simp only [Act.put, List.getElem_toArray, List.getElem_cons_zero, List.getElem_cons_succ, List.setIfInBounds_toArray, List.set_cons_zero, List.set_cons_succ]
  refine wpAnyH_take (i := 13) (v := ?_) rfl (by kernel_rfl) (by kernel_rfl) (by kernel_rfl) (fun _ _ _ h => h) (Or.inl ⟨by rfl, ?_⟩) (by assumption) ?_
  rotate_left 1
  · intro w hSw; (try dsimp only at hSw); (have x := hSw.1); clear hSw; go_simp; (try with_reducible rfl)
  simp only [Act.put, List.getElem_toArray, List.getElem_cons_zero, List.getElem_cons_succ, List.setIfInBounds_toArray, List.set_cons_zero, List.set_cons_succ]
  refine wpAnyH_take (i := 14) (v := ?_) rfl (by kernel_rfl) (by kernel_rfl) (by kernel_rfl) (fun _ _ _ h => h) (Or.inl ⟨by rfl, ?_⟩) (by assumption) ?_
  rotate_left 1
  · intro w hSw; (try dsimp only at hSw); go_simp; (try with_reducible rfl)
  simp only [Act.put, List.getElem_toArray, List.getElem_cons_zero, List.getElem_cons_succ, List.setIfInBounds_toArray, List.set_cons_zero, List.set_cons_succ]
  refine wpAnyH_ready (rs := [9]) (by kernel_rfl) (by simp) ?_
  refine AllReadyH.cons rfl (fun K hK => ?_) AllReadyH.nil
  go_simp
  refine (HLD.out).mono ?_
  rintro e w' ⟨rfl, rfl⟩
  go_wp2_with fail
  refine hK.out _ _ (⟨X0.out, X1.out⟩) (fun hHeld => ?_)
  clear hK K
  refine wpAnyH_take (i := 15) (v := ?_) rfl (by kernel_rfl) (by kernel_rfl) (by kernel_rfl) (fun _ _ _ h => h) (Or.inl ⟨by rfl, ?_⟩) (by assumption) ?_
  rotate_left 1
  · intro w hSw; (try dsimp only at hSw); go_simp; (try with_reducible rfl)
  simp only [Act.put, List.getElem_toArray, List.getElem_cons_zero, List.getElem_cons_succ, List.setIfInBounds_toArray, List.set_cons_zero, List.set_cons_succ]
  refine wpAnyH_take (i := 16) (v := ?_) rfl (by kernel_rfl) (by kernel_rfl) (by kernel_rfl) (fun _ _ _ h => h) (Or.inl ⟨by rfl, ?_⟩) (by assumption) ?_
  rotate_left 1
  · intro w hSw; (try dsimp only at hSw); go_simp; (try with_reducible rfl)
  simp only [Act.put, List.getElem_toArray, List.getElem_cons_zero, List.getElem_cons_succ, List.setIfInBounds_toArray, List.set_cons_zero, List.set_cons_succ]
  refine wpAnyH_take (i := 17) (v := ?_) rfl (by kernel_rfl) (by kernel_rfl) (by kernel_rfl) (fun _ _ _ h => h) (Or.inl ⟨by rfl, ?_⟩) (by assumption) ?_
  rotate_left 1
  · intro w hSw; (try dsimp only at hSw); go_simp; (try with_reducible rfl)
  simp only [Act.put, List.getElem_toArray, List.getElem_cons_zero, List.getElem_cons_succ, List.setIfInBounds_toArray, List.set_cons_zero, List.set_cons_succ]
  refine wpAnyH_take (i := 18) (v := ?_) rfl (by kernel_rfl) (by kernel_rfl) (by kernel_rfl) (fun _ _ _ h => h) (Or.inl ⟨by rfl, ?_⟩) (by assumption) ?_
  rotate_left 1
  · intro w hSw; (try dsimp only at hSw); go_simp; (try with_reducible rfl)
  simp only [Act.put, List.getElem_toArray, List.getElem_cons_zero, List.getElem_cons_succ, List.setIfInBounds_toArray, List.set_cons_zero, List.set_cons_succ]
  refine wpAnyH_take (i := 20) (v := ?_) rfl (by kernel_rfl) (by kernel_rfl) (by kernel_rfl) (fun _ _ _ h => h) (Or.inl ⟨by rfl, ?_⟩) (by assumption) ?_
  rotate_left 1
  · intro w hSw; (try dsimp only at hSw); go_simp; (try with_reducible rfl)
  simp only [Act.put, List.getElem_toArray, List.getElem_cons_zero, List.getElem_cons_succ, List.setIfInBounds_toArray, List.set_cons_zero, List.set_cons_succ]
  refine wpAnyH_take (i := 19) (v := ?_) rfl (by kernel_rfl) (by kernel_rfl) (by kernel_rfl) (fun _ _ _ h => h) (Or.inl ⟨by rfl, ?_⟩) (by assumption) ?_
  rotate_left 1
  · intro w hSw; (try dsimp only at hSw); go_simp; (try with_reducible rfl)
  simp only [Act.put, List.getElem_toArray, List.getElem_cons_zero, List.getElem_cons_succ, List.setIfInBounds_toArray, List.set_cons_zero, List.set_cons_succ]
  refine wpAnyH_take (i := 21) (v := ?_) rfl (by kernel_rfl) (by kernel_rfl) (by kernel_rfl) (fun _ _ _ h => h) (Or.inl ⟨by rfl, ?_⟩) (by assumption) ?_
  rotate_left 1
  · intro w hSw; (try dsimp only at hSw); go_simp; (try with_reducible rfl)
  simp only [Act.put, List.getElem_toArray, List.getElem_cons_zero, List.getElem_cons_succ, List.setIfInBounds_toArray, List.set_cons_zero, List.set_cons_succ]
  refine wpAnyH_take (i := 22) (v := ?_) rfl (by kernel_rfl) (by kernel_rfl) (by kernel_rfl) (fun _ _ _ h => h) (Or.inl ⟨by rfl, ?_⟩) (by assumption) ?_
  rotate_left 1
  · intro w hSw; (try dsimp only at hSw); go_simp; (try with_reducible rfl)
  simp only [Act.put, List.getElem_toArray, List.getElem_cons_zero, List.getElem_cons_succ, List.setIfInBounds_toArray, List.set_cons_zero, List.set_cons_succ]
  refine wpAnyH_take (i := 23) (v := ?_) rfl (by kernel_rfl) (by kernel_rfl) (by kernel_rfl) (fun _ _ _ h => h) (Or.inl ⟨by rfl, ?_⟩) (by assumption) ?_
  rotate_left 1
  · intro w hSw; (try dsimp only at hSw); go_simp; (try with_reducible rfl)
  simp only [Act.put, List.getElem_toArray, List.getElem_cons_zero, List.getElem_cons_succ, List.setIfInBounds_toArray, List.set_cons_zero, List.set_cons_succ]
  refine wpAnyH_done (by kernel_rfl) ?_ _
  clear hHeld HUD HLD X0 X1
  go_wp2_with fail
  go_loopw [7] (fun i wr => ∃ (k q : Nat), k ≤ D.length ∧ i = .int .i64 (k : Int) ∧ wr = wd.drewN q) (fun i _ => D.length - (intOf i).toNat)
  case atStart => exact ⟨0, 0, Nat.zero_le _, rfl, rfl⟩
  case round =>
    obtain ⟨k, q, hk, rfl, rfl⟩ := hrel
    have HK : Hid (k ≤ D.length) := hk
    clear hk
    by_cases hlt : k < D.length
    · have HLT : Hid (k < D.length) := hlt
      obtain ⟨b1, o1, rfl, _, hc1⟩ := RD1.out.2 (by omega)
      obtain ⟨b2, o2, rfl, _, hc2⟩ := RD2.out.2 (by omega)
      have x1 : wd.cell? ⟨b1, o1 + k, none⟩ = some (.int .i64 (nx D k : Int)) := hc1 k hlt
      have x2 : wd.cell? ⟨b2, o2 + k, none⟩ = some (.int .i64 (nx D k : Int)) := hc2 k hlt
      clear hc1 hc2
      have hkI : (k : Int) < (D.length : Int) := by omega
      have hk1025 : (k : Int) < 1025 := by have := HDL.out; omega
      clear hlt
      generalize nx D k = y at *
      go_wp2_with fail
      go_quiet (fail)
      go_wp2_with fail
      go_roundw
      case rel => exact ⟨k + 1, _, HLT.out, by go_num, rfl⟩
      case measure => have := HLT.out; simp [intOf]; omega
    · obtain rfl : k = D.length := by have := HK.out; omega
      have BZ := Lib.hid (below_drewN BD.out q)
      go_wp2_with fail
      generalize wd.drewN q = wz at *
      clear HD BD RD1 RD2 HWD CP1 CP2 HK
      go_loopw [8] (fun i wr => ∃ j : Int, -1 ≤ j ∧ j ≤ (s.L.length : Int) + 1 ∧ i = .int .i64 j ∧ Below w.heap.size w wr) (fun i _ => ((s.L.length : Int) + 1 - intOf i).toNat)
      case atStart => exact ⟨-1, by omega, by omega, rfl, BZ.out⟩
      case round =>
        clear BZ
        obtain ⟨j, hj0, hj1, rfl, hb⟩ := hrel
        have BR := Lib.hid hb
        have P := Lib.hid (H0.out.to hb)
        have J0 : Hid (-1 ≤ j) := hj0
        clear hb hj0 hj1
        obtain ⟨lb, cap, x0, -, -, -, -⟩ := P.out.dr.cells
        by_cases hj : j ≤ (s.L.length : Int)
        · have J2 : Hid (j ≤ (s.L.length : Int)) := hj
          have J1 : Hid (-1 ≤ j) := J0.out
          go_wp2_with fail
          clear x0 hj
          refine (dRead d F s j wr P.out.dk).mono ?_
          rintro e w3 ⟨A3, n3, c3, rfl, hown, hb⟩
          have O3 := Lib.hid (own_mono hown BR.out.size)
          have RD3 := Lib.hid (Rd.of_own hown)
          have N3 : Hid (n3 ≤ 64) := by show _ ≤ _; rw [← RD3.out.1]; exact read_len HOK.out j
          replace P := Lib.hid (P.out.to hb)
          replace BR := Lib.hid (BR.out.trans (hb.mono BR.out.size))
          clear hown hb
          go_wp2_with fail
          refine (qRead r G s j w3 P.out.dr).mono ?_
          rintro e w4 ⟨A4, n4, c4, rfl, hown, hb⟩
          have RD4 := Lib.hid (Rd.of_own hown)
          have N4 : Hid (n4 ≤ 64) := by show _ ≤ _; rw [← RD4.out.1]; exact read_len HOK.out j
          clear hown
          replace P := Lib.hid (P.out.to hb)
          replace BR := Lib.hid (BR.out.trans (hb.mono BR.out.size))
          replace RD3 := Lib.hid (RD3.out.to hb)
          replace O3 := Lib.hid (own_kept O3.out (Keep.of_below (R := fun _ => False) hb) (fun _ _ h => h))
          clear hb
          generalize (s.read j).2 = ev at *
          generalize (s.read j).1 = bs at *
          go_wp2_with fail
          refine (refSameBT A3 A4 n3 n4 c3 c4 bs bs w4 rfl RD3.out RD4.out (by have := N3.out; omega) (by have := N4.out; omega)).mono ?_
          rintro e w5 ⟨rfl, hb⟩
          clear RD4 N4
          replace P := Lib.hid (P.out.to hb)
          replace BR := Lib.hid (BR.out.trans (hb.mono BR.out.size))
          replace RD3 := Lib.hid (RD3.out.to hb)
          replace O3 := Lib.hid (own_kept O3.out (Keep.of_below (R := fun _ => False) hb) (fun _ _ h => h))
          clear hb
          go_wp2_with fail
          refine (dFlushed d F s j w5 P.out.dk).mono ?_
          rintro e w6 ⟨A5, n5, c5, rfl, hown, hb⟩
          have RD5 := Lib.hid (Rd.of_own hown)
          have O5 := Lib.hid hown
          have N5 : Hid (n5 ≤ 64) := by show _ ≤ _; rw [← RD5.out.1]; exact flushed_len HOK.out j
          have HS5 : Hid (w.heap.size ≤ w5.heap.size) := BR.out.size
          have PB : Hid (∀ g : Nat, 0 < n3 → A3 = some ⟨g, 0, none⟩ → g < w5.heap.size) := fun g h0 e => RD3.out.lts h0 g 0 e
          clear hown
          replace P := Lib.hid (P.out.to hb)
          replace BR := Lib.hid (BR.out.trans (hb.mono BR.out.size))
          replace O3 := Lib.hid (own_kept O3.out (Keep.of_below (R := fun _ => False) hb) (fun _ _ h => h))
          clear hb RD3
          obtain ⟨lb, cap, x0, -, hcp1, hcp2, hsec⟩ := P.out.dr.cells
          have hnl := HNL.out
          obtain ⟨ys, hys⟩ : ∃ ys, s.flushed j = ys := ⟨_, rfl⟩
          rcases Int.lt_or_le j 0 with hn | hn
          · have hz : ys = [] := by rw [← hys]; exact flushed_out (by omega)
            rw [hys] at RD5 O5
            have h50 : n5 = 0 := by have := RD5.out.1; rw [hz] at this; simpa using this.symm
            have h51 : ¬ ((n5 : Int) > 0) := by omega
            have hn' : ¬ j ≥ 0 := by omega
            clear hz hys hsec RD5 P h50
            go_wp2_with fail
            clear h51 hn' x0 hn
            go_loopw [14] (fun i wr => IncTwo w.heap.size w5.heap.size n3 c3 n5 c5 A3 A5 ys w i wr) (fun i _ => n3 - (intOf i).toNat)
            case atStart => exact ⟨0, _, Nat.zero_le _, rfl, O3.out, O5.out, BR.out⟩
            case round =>
              obtain ⟨k, cs, hk, rfl, hown, hownc, hbel⟩ := hrel
              have hn3 := N3.out
              by_cases hlt : k < n3
              · obtain ⟨g, rfl, hg⟩ := own_head hown (by omega)
                obtain ⟨hcell, hfr⟩ := own_cell (j := k) hown hlt
                have HC := Lib.hid hownc
                have HG := Lib.hid (PB.out g (by omega) rfl)
                clear hownc
                go_wp2_with fail
                go_roundw
                case rel =>
                  obtain ⟨h1, h2⟩ := own_set (j := k) hown hbel _ (u8_inc (nth cs k)) hg
                  exact ⟨k + 1, _, by omega, by go_num, h1, ownsRow_setCell_below HC.out HG.out _, h2⟩
                case measure => simp [intOf]; omega
              · obtain rfl : k = n3 := by omega
                have HC := Lib.hid (own_mono hownc HS5.out)
                have HB := Lib.hid hbel
                clear hown hownc hbel O3 O5 PB BR hn3
                go_wp2_with fail
                go_loopw [15] (fun i wr => IncRel w.heap.size n5 c5 A5 w i wr) (fun i _ => n5 - (intOf i).toNat)
                case atStart => exact ⟨0, _, Nat.zero_le _, rfl, HC.out, HB.out⟩
                case round =>
                  obtain ⟨k, cs, hk, rfl, hown, hbel⟩ := hrel
                  have hn5 := N5.out
                  by_cases hlt : k < n5
                  · exfalso; omega
                  · obtain rfl : k = n5 := by omega
                    have HBZ := Lib.hid hbel
                    clear hown hbel HC
                    have hj1 := J1.out
                    have hj2 := J2.out
                    have hnl := HNL.out
                    go_wp2_with fail
                    go_roundw
                    case rel => exact ⟨j + 1, by omega, by omega, by go_num, HBZ.out⟩
                    case measure => simp [intOf]; omega
          rcases Int.lt_or_le j (s.L.length : Int) with hm | hm
          · obtain ⟨j, rfl⟩ : ∃ i : Nat, j = (i : Int) := ⟨j.toNat, by omega⟩
            have hi : j < s.L.length := by omega
            obtain ⟨b6, o6, c6, y0, hrd⟩ := hsec j hi
            have hfe : ys = (secAt s.L j).1 := by rw [← hys]; exact flushed_in hi
            rw [← hfe] at hrd
            rw [hys] at RD5 O5
            have RD6 := Lib.hid hrd
            clear hfe hrd hsec hys hi
            go_wp2_with fail
            refine (refSameBT A5 (some ⟨b6, o6, none⟩) n5 64 c5 c6 ys ys w6 rfl RD5.out RD6.out (by have := N5.out; omega) (by decide)).mono ?_
            rintro e w7 ⟨rfl, hb⟩
            clear RD5 RD6 x0 y0
            replace P := Lib.hid (P.out.to hb)
            replace BR := Lib.hid (BR.out.trans (hb.mono BR.out.size))
            replace O3 := Lib.hid (own_kept O3.out (Keep.of_below (R := fun _ => False) hb) (fun _ _ h => h))
            replace O5 := Lib.hid (own_kept O5.out (Keep.of_below (R := fun _ => False) hb) (fun _ _ h => h))
            clear hb
            obtain ⟨lb7, cap7, x7, -, -, -, -⟩ := P.out.dr.cells
            clear P
            have hn3 : ¬ (j : Int) < 0 := by omega
            have hm3 : ¬ (j : Int) ≥ (s.L.length : Int) := by omega
            go_wp2_with fail
            clear hn3 hm3 hn hm x7
            go_loopw [14] (fun i wr => IncTwo w.heap.size w5.heap.size n3 c3 n5 c5 A3 A5 ys w i wr) (fun i _ => n3 - (intOf i).toNat)
            case atStart => exact ⟨0, _, Nat.zero_le _, rfl, O3.out, O5.out, BR.out⟩
            case round =>
              obtain ⟨k, cs, hk, rfl, hown, hownc, hbel⟩ := hrel
              have hn3 := N3.out
              by_cases hlt : k < n3
              · obtain ⟨g, rfl, hg⟩ := own_head hown (by omega)
                obtain ⟨hcell, hfr⟩ := own_cell (j := k) hown hlt
                have HC := Lib.hid hownc
                have HG := Lib.hid (PB.out g (by omega) rfl)
                clear hownc
                go_wp2_with fail
                go_roundw
                case rel =>
                  obtain ⟨h1, h2⟩ := own_set (j := k) hown hbel _ (u8_inc (nth cs k)) hg
                  exact ⟨k + 1, _, by omega, by go_num, h1, ownsRow_setCell_below HC.out HG.out _, h2⟩
                case measure => simp [intOf]; omega
              · obtain rfl : k = n3 := by omega
                have HC := Lib.hid (own_mono hownc HS5.out)
                have HB := Lib.hid hbel
                clear hown hownc hbel O3 O5 PB BR hn3
                go_wp2_with fail
                go_loopw [15] (fun i wr => IncRel w.heap.size n5 c5 A5 w i wr) (fun i _ => n5 - (intOf i).toNat)
                case atStart => exact ⟨0, _, Nat.zero_le _, rfl, HC.out, HB.out⟩
                case round =>
                  obtain ⟨k, cs, hk, rfl, hown, hbel⟩ := hrel
                  have hn5 := N5.out
                  by_cases hlt : k < n5
                  · obtain ⟨g, rfl, hg⟩ := own_head hown (by omega)
                    obtain ⟨hcell, hfr⟩ := own_cell (j := k) hown hlt
                    go_wp2_with fail
                    go_roundw
                    case rel =>
                      obtain ⟨h1, h2⟩ := own_set (j := k) hown hbel _ (u8_inc (nth cs k)) hg
                      exact ⟨k + 1, _, by omega, by go_num, h1, h2⟩
                    case measure => simp [intOf]; omega
                  · obtain rfl : k = n5 := by omega
                    have HBZ := Lib.hid hbel
                    clear hown hbel HC
                    have hj1 := J1.out
                    have hj2 := J2.out
                    have hnl := HNL.out
                    go_wp2_with fail
                    go_roundw
                    case rel => exact ⟨j + 1, by omega, by omega, by go_num, HBZ.out⟩
                    case measure => simp [intOf]; omega
          · have hz : ys = [] := by rw [← hys]; exact flushed_out (by omega)
            rw [hys] at RD5 O5
            have h50 : n5 = 0 := by have := RD5.out.1; rw [hz] at this; simpa using this.symm
            have h51 : ¬ ((n5 : Int) > 0) := by omega
            have hm' : ¬ j < (s.L.length : Int) := by omega
            have hm2 : j ≥ (s.L.length : Int) := by omega
            have hn2 : j ≥ 0 := by omega
            have hn3 : ¬ j < 0 := by omega
            clear hz hys hsec RD5 P h50
            go_wp2_with fail
            clear h51 hm' hm2 hn2 hn3 x0 hn hm
            go_loopw [14] (fun i wr => IncTwo w.heap.size w5.heap.size n3 c3 n5 c5 A3 A5 ys w i wr) (fun i _ => n3 - (intOf i).toNat)
            case atStart => exact ⟨0, _, Nat.zero_le _, rfl, O3.out, O5.out, BR.out⟩
            case round =>
              obtain ⟨k, cs, hk, rfl, hown, hownc, hbel⟩ := hrel
              have hn3 := N3.out
              by_cases hlt : k < n3
              · obtain ⟨g, rfl, hg⟩ := own_head hown (by omega)
                obtain ⟨hcell, hfr⟩ := own_cell (j := k) hown hlt
                have HC := Lib.hid hownc
                have HG := Lib.hid (PB.out g (by omega) rfl)
                clear hownc
                go_wp2_with fail
                go_roundw
                case rel =>
                  obtain ⟨h1, h2⟩ := own_set (j := k) hown hbel _ (u8_inc (nth cs k)) hg
                  exact ⟨k + 1, _, by omega, by go_num, h1, ownsRow_setCell_below HC.out HG.out _, h2⟩
                case measure => simp [intOf]; omega
              · obtain rfl : k = n3 := by omega
                have HC := Lib.hid (own_mono hownc HS5.out)
                have HB := Lib.hid hbel
                clear hown hownc hbel O3 O5 PB BR hn3
                go_wp2_with fail
                go_loopw [15] (fun i wr => IncRel w.heap.size n5 c5 A5 w i wr) (fun i _ => n5 - (intOf i).toNat)
                case atStart => exact ⟨0, _, Nat.zero_le _, rfl, HC.out, HB.out⟩
                case round =>
                  obtain ⟨k, cs, hk, rfl, hown, hbel⟩ := hrel
                  have hn5 := N5.out
                  by_cases hlt : k < n5
                  · exfalso; omega
                  · obtain rfl : k = n5 := by omega
                    have HBZ := Lib.hid hbel
                    clear hown hbel HC
                    have hj1 := J1.out
                    have hj2 := J2.out
                    have hnl := HNL.out
                    go_wp2_with fail
                    go_roundw
                    case rel => exact ⟨j + 1, by omega, by omega, by go_num, HBZ.out⟩
                    case measure => simp [intOf]; omega
        · go_wp2_with fail
          go_ret
          exact ⟨rfl, BR.out⟩
end Go.Proofs.Ytbkdgciaapkemaa
