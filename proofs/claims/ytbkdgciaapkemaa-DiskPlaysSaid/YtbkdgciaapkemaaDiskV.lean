/- The document's disk (citadelref06): a write; a new one. -/
import Derived.Test.YtbkdgciaapkemaaDiskU
namespace Go.Proofs.Ytbkdgciaapkemaa
open Go.RowKit
set_option linter.unusedVariables false
set_option linter.unusedSimpArgs false

theorem DrSl.of_own {w : World} {B r lb : Nat} {F : Nat → Prop} {A : Option Addr} {c : Nat} {bs : List UInt8} (h : w.ownsRow B 5 1 (.slice A 64 c) 64 (bs.map bval)) (hf : ∀ k, B ≤ k → k < w.heap.size → F k) (hr : r < B) (hl : lb < B) : DrSl w r lb F (.slice A 64 c) bs := by
  have hR := Rd.of_own h
  obtain ⟨g, rfl, hB⟩ := own_head h (by decide)
  have hlt := hR.blk (by decide)
  exact ⟨g, 0, c, rfl, hR, hf g hB hlt, by omega, by omega⟩
set_option maxRecDepth 1000000 in
set_option maxHeartbeats 1000000 in
theorem qWrite (r : Nat) (F : Nat → Prop) (s : DS) (i : Int) (A : Option Addr) (n c : Nat) (b : List UInt8) (w : World) (h : DrAt w r F s) (hr : Rd w w.heap.size A n b) (hn : n ≤ 140737488355328) (ho : Off A n F) :
    Calls Try.prog 33 #[.pointer (some ⟨r, 0, none⟩), .int .i64 i, .slice A n c] w (DrTo w r F (s.write i b)) := by
  have HFA := Lib.hid (qFalls r F s w h)
  have H := Lib.hid h
  have R := Lib.hid hr
  have HO := Lib.hid ho
  obtain ⟨lb0, cap0, vs0, A0, m0, c00, hP⟩ := h
  obtain ⟨c0, c1, _, _, _, _, _, _⟩ := drCell hP.obj
  have HNN := Lib.hid R.out.1
  clear hP hr ho
  go_enter Try.func33, Try.ntmps33
  cases hu : s.up
  · have HU := Lib.hid hu
    rw [hu] at c1
    clear hu
    go_wp2_with fail
    go_ret
    rw [DS.write, HU.out, if_pos rfl]
    exact DrTo.same H.out
  have HU := Lib.hid hu
  rw [hu] at c1
  clear hu
  by_cases h0 : i < 0
  · have HH : Hid (s.has i = false) := by show _ = _; simp only [DS.has, decide_eq_false_iff_not]; omega
    go_wp2_with fail
    go_ret
    rw [DS.write, HU.out, if_neg (by decide), HH.out, if_pos rfl]
    exact DrTo.same H.out
  by_cases h1 : i ≥ (s.L.length : Int)
  · have HH : Hid (s.has i = false) := by show _ = _; simp only [DS.has, decide_eq_false_iff_not]; omega
    go_wp2_with fail
    go_ret
    rw [DS.write, HU.out, if_neg (by decide), HH.out, if_pos rfl]
    exact DrTo.same H.out
  have HH : Hid (s.has i = true) := by show _ = _; simp only [DS.has, decide_eq_true_eq]; omega
  by_cases h64 : n = 64
  · subst h64
    obtain ⟨k, rfl⟩ : ∃ k : Nat, i = (k : Int) := ⟨i.toNat, by omega⟩
    have HK : Hid (k < s.L.length) := by show _ < _; omega
    by_cases hl1 : s.left = 1
    · have HL := Lib.hid hl1
      have e1 : decide (s.left = 1) = true := by simp [hl1]
      rw [e1] at HFA
      clear hl1 e1
      go_wp2_with fail
      refine (HFA.out).mono ?_
      rintro e w1 ⟨rfl, hd, hk⟩
      have D1 := Lib.hid hd
      have K1 := Lib.hid hk
      clear hd hk
      go_wp2_with fail
      go_ret
      rw [show s.write (k : Int) b = (60, s.fall (selB s.stay)) from by
        unfold DS.write
        rw [if_neg (c := s.up = false) (by rw [HU.out]; decide), if_neg (c := s.has (k : Int) = false) (by rw [HH.out]; decide), if_neg (c := b.length ≠ 64) (by rw [HNN.out]; decide), if_pos HL.out]]
      have e : s.fell = s.fall (selB s.stay) := by unfold DS.fell; rw [if_pos HL.out]
      rw [e] at D1
      exact ⟨rfl, F, D1.out, fun _ hk => .inl hk, K1.out⟩
    · have HL : Hid (¬ s.left = 1) := hl1
      have e1 : decide (s.left = 1) = false := by simp [hl1]
      rw [e1] at HFA
      clear hl1 e1
      go_wp2_with fail
      refine (HFA.out).mono ?_
      rintro e w1 ⟨rfl, hd, hk⟩
      rw [fell_up HL.out] at hd
      obtain ⟨lb, cap, vs, A1, m1, c11, hP⟩ := hd
      have HP := Lib.hid hP
      have K1 := Lib.hid hk
      have HFL : Hid (s.write (k : Int) b = (0, s.put k b)) := by
        show _ = _
        unfold DS.write
        rw [if_neg (c := s.up = false) (by rw [HU.out]; decide), if_neg (c := s.has (k : Int) = false) (by rw [HH.out]; decide), if_neg (c := b.length ≠ 64) (by rw [HNN.out]; decide), if_neg (by exact HL.out), Int.toNat_natCast]
      have R1 := Lib.hid (R.out.kept hk HO.out)
      clear hP hk c1 c0 R HFA
      go_wp2_with fail
      replace HP : Hid (DrP w1.drew r lb cap vs A1 m1 c11 F ⟨s.L, s.up, s.left - 1, s.stay⟩) := HP.out.kept (R := fun _ => False) (Keep.refl _ _).drew (fun _ _ h => h)
      replace K1 := Lib.hid K1.out.drew
      replace R1 := Lib.hid R1.out.drew'
      generalize hwd : w1.drew = wd at *
      have HWD := Lib.hid hwd
      clear hwd
      obtain ⟨c0, _, _, _, _, _, _, _⟩ := drCell HP.out.obj
      have C0 := Lib.hid c0
      have HLR := Lib.hid (HP.out.lt r HP.out.fr)
      have hkn : (k : Int) < (s.L.length : Int) := by have := HK.out; omega
      clear c0
      refine wp_region_held_drew (S := (fun w' => w'.cell? ⟨r, 0, none⟩ = some (.slice (some ⟨lb, 0, none⟩) s.L.length cap) ∧ True)) (by kernel_rfl) ((by rw [HWD.out]; exact ⟨C0.out, trivial⟩)) (fun hHeld => ?_)
      rw [HWD.out] at hHeld ⊢
      refine wpAnyH_take (i := 0) (v := ?_) rfl (by kernel_rfl) (by kernel_rfl) (by kernel_rfl) (fun _ _ _ h => h) (Or.inl ⟨by rfl, ?_⟩) (by assumption) ?_
      rotate_left 1
      · intro w hSw; (try dsimp only at hSw); go_simp; (try with_reducible rfl)
      simp only [Act.put, List.getElem_toArray, List.getElem_cons_zero, List.getElem_cons_succ, List.setIfInBounds_toArray, List.set_cons_zero, List.set_cons_succ]
      refine wpAnyH_take (i := 1) (v := ?_) rfl (by kernel_rfl) (by kernel_rfl) (by kernel_rfl) (fun _ _ _ h => h) (Or.inl ⟨by rfl, ?_⟩) (by assumption) ?_
      rotate_left 1
      · intro w hSw; (try dsimp only at hSw); go_simp; (try with_reducible rfl)
      simp only [Act.put, List.getElem_toArray, List.getElem_cons_zero, List.getElem_cons_succ, List.setIfInBounds_toArray, List.set_cons_zero, List.set_cons_succ]
      refine wpAnyH_take (i := 2) (v := ?_) rfl (by kernel_rfl) (by kernel_rfl) (by kernel_rfl) (fun _ _ _ h => h) (Or.inl ⟨by rfl, ?_⟩) (by assumption) ?_
      rotate_left 1
      · intro w hSw; (try dsimp only at hSw); go_simp; (try with_reducible rfl)
      simp only [Act.put, List.getElem_toArray, List.getElem_cons_zero, List.getElem_cons_succ, List.setIfInBounds_toArray, List.set_cons_zero, List.set_cons_succ]
      refine wpAnyH_take (i := 3) (v := ?_) rfl (by kernel_rfl) (by kernel_rfl) (by kernel_rfl) (fun _ _ _ h => h) (Or.inl ⟨by rfl, ?_⟩) (by assumption) ?_
      rotate_left 1
      · intro w hSw; (try dsimp only at hSw); (have x := hSw.1); clear hSw; go_simp; (try with_reducible rfl)
      simp only [Act.put, List.getElem_toArray, List.getElem_cons_zero, List.getElem_cons_succ, List.setIfInBounds_toArray, List.set_cons_zero, List.set_cons_succ]
      refine wpAnyH_take (i := 4) (v := ?_) rfl (by kernel_rfl) (by kernel_rfl) (by kernel_rfl) (fun _ _ _ h => h) (Or.inl ⟨by rfl, ?_⟩) (by assumption) ?_
      rotate_left 1
      · intro w hSw; (try dsimp only at hSw); go_simp; (try with_reducible rfl)
      simp only [Act.put, List.getElem_toArray, List.getElem_cons_zero, List.getElem_cons_succ, List.setIfInBounds_toArray, List.set_cons_zero, List.set_cons_succ]
      refine wpAnyH_take (i := 5) (v := ?_) rfl (by kernel_rfl) (by kernel_rfl) (by kernel_rfl) (fun _ _ _ h => h) (Or.inl ⟨by rfl, ?_⟩) (by assumption) ?_
      rotate_left 1
      · intro w hSw; (try dsimp only at hSw); go_simp; (try with_reducible rfl)
      simp only [Act.put, List.getElem_toArray, List.getElem_cons_zero, List.getElem_cons_succ, List.setIfInBounds_toArray, List.set_cons_zero, List.set_cons_succ]
      refine wpAnyH_ready (rs := [6]) (by kernel_rfl) (by simp) ?_
      refine AllReadyH.cons rfl (fun K hK => ?_) AllReadyH.nil
      go_simp
      refine (refCopy A 64 c b wd R1.out (by decide)).mono ?_
      rintro e w6 ⟨A6, n6, c6, rfl, hown, hb⟩
      have O6 := Lib.hid hown
      have B6 := Lib.hid hb
      clear hown hb
      go_wp2_with fail
      refine hK.out _ _ (⟨(B6.out.cell HLR.out).trans C0.out, trivial⟩) (fun hHeld => ?_)
      clear hK K
      obtain rfl : n6 = 64 := by rw [← (Rd.of_own O6.out).1, HNN.out]
      obtain ⟨d0, d1, z0, z1⟩ := (HP.out.to B6.out).cell (i := k) HK.out
      refine wpAnyH_take (i := 7) (v := ?_) rfl (by kernel_rfl) (by kernel_rfl) (by kernel_rfl) (fun _ _ _ h => h) (Or.inl ⟨by rfl, ?_⟩) (by assumption) ?_
      rotate_left 1
      · intro w hSw; (try dsimp only at hSw); go_simp; (try with_reducible rfl)
      simp only [Act.put, List.getElem_toArray, List.getElem_cons_zero, List.getElem_cons_succ, List.setIfInBounds_toArray, List.set_cons_zero, List.set_cons_succ]
      refine wpAnyH_take (i := 8) (v := ?_) rfl (by kernel_rfl) (by kernel_rfl) (by kernel_rfl) (fun _ _ _ h => h) (Or.inl ⟨by rfl, ?_⟩) (by assumption) ?_
      rotate_left 1
      · intro w hSw; (try dsimp only at hSw); go_simp; (try with_reducible rfl)
      simp only [Act.put, List.getElem_toArray, List.getElem_cons_zero, List.getElem_cons_succ, List.setIfInBounds_toArray, List.set_cons_zero, List.set_cons_succ]
      have P2 := (HP.out.to B6.out).more (G := fun k => F k ∨ (wd.heap.size ≤ k ∧ k < w6.heap.size)) (fun k h => .inl h) (fun k h => by rcases h with h | h; exact Nat.lt_of_lt_of_le (HP.out.lt k h) B6.out.size; exact h.2)
      have P3 := Lib.hid (P2.setC (i := k) HK.out (v := .slice A6 64 c6) (x := some b) ⟨fun h => (by cases h), fun b' hb' => by
        injection hb' with hb'
        subst hb'
        exact ⟨DrSl.of_own O6.out (fun k h1 h2 => .inr ⟨h1, h2⟩) HLR.out (HP.out.lt lb HP.out.fl), HNN.out⟩⟩)
      have HRL : Hid (lb ≠ r) := fun e => HP.out.rl e.symm
      have C6 := Lib.hid ((B6.out.cell HLR.out).trans C0.out)
      clear P2 d0 z0
      refine wpAnyH_ready (rs := [9]) (by kernel_rfl) (by simp) ?_
      refine AllReadyH.cons rfl (fun K hK => ?_) AllReadyH.nil
      go_simp
      refine hK.out _ _ (⟨(World.cell?_setCell_other _ _ _ _ (fun e => HRL.out (congrArg Addr.block e))).trans C6.out, trivial⟩) (fun hHeld => ?_)
      clear hK K
      refine wpAnyH_done (by kernel_rfl) ?_ _
      clear hHeld d1 z1
      go_wp2_with fail
      go_ret
      rw [HFL.out]
      refine ⟨rfl, _, ⟨lb, cap, _, A1, m1, c11, P3.out⟩, fun k hk => hk.imp id (fun h => Nat.le_trans K1.out.size h.1), (K1.out.trans (Keep.of_below B6.out)).setCell _ _ HP.out.fl⟩
  · have HN64 : Hid (¬ n = 64) := h64
    have hn64 : ¬ (n : Int) = 64 := by omega
    clear h64
    go_wp2_with fail
    go_ret
    rw [DS.write, HU.out, if_neg (by decide), HH.out, if_neg (by decide), if_pos (by rw [HNN.out]; exact HN64.out)]
    exact DrTo.same H.out
end Go.Proofs.Ytbkdgciaapkemaa
