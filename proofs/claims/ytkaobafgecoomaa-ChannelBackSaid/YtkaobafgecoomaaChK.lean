/- The laws' own helpers of layer 10, part four: stays. -/
import Derived.Test.YtkaobafgecoomaaChJ
namespace Go.Proofs.Ytkaobafgecoomaa
open Go.RowKit
set_option linter.unusedVariables false
set_option linter.unusedSimpArgs false

theorem shown_tails (l : List (List UInt8)) : (l.map tailR).map shown = l := by
  rw [List.map_map]
  have : shown ∘ tailR = id := by funext m; simp [shown, tailR]
  rw [this, List.map_id]
theorem tails_take (l : List (List UInt8)) (n : Nat) (h : l.length = n) : (l.map tailR ++ [lastR]).take n = l.map tailR := by
  rw [List.take_left' (by simp [h])]
/-- A copy reads as what was copied. -/
theorem OwS.copy {w : World} {B n : Nat} {A : Option Addr} {l : List (List UInt8)} (h : OwS w B A (n + 1) (l.map tailR ++ [lastR])) (hl : l.length = n) : RdS w w.heap.size A n l := by
  have h1 := (h.take (Nat.le_succ n)).rdS
  rw [tails_take l n hl, shown_tails] at h1
  exact h1
theorem rowAt_tail {l : List (List UInt8)} {k : Nat} (h : k < l.length) : rowAt (l.map tailR ++ [lastR]) k = tailR (l.getD k []) := by
  rw [rowAt_left (by simpa using h)]
  simp [rowAt, List.getD, List.getElem?_eq_getElem h]
theorem rowAt_lastR {l : List (List UInt8)} {n : Nat} (h : l.length = n) : rowAt (l.map tailR ++ [lastR]) n = lastR := by
  subst h
  have := rowAt_last (l.map tailR) lastR
  rwa [List.length_map] at this
theorem nth_tail (m : List UInt8) : nth (m ++ [99]) m.length = 99 := by
  simp [nth, List.getD]
set_option maxRecDepth 1000000 in
set_option maxHeartbeats 1000000 in
theorem lStays (a b d e s : Int) (A A' : Option Addr) (n k0 c B : Nat) (l : List (List UInt8)) (w : World) (hO : OwS w B A (n + 1) (l.map tailR ++ [lastR])) (hk0 : n + 1 ≤ k0) (hR : RdS w w.heap.size A' n l) (hn : n ≤ 20) (hl : ∀ m ∈ l, m.length ≤ 400) :
    Calls Try.prog 15 #[.agg #[.int .i64 a, .int .i64 b, .int .i64 d, .int .i64 e, .int .i64 s, .slice A n k0], .agg #[.int .i64 a, .int .i64 b, .int .i64 d, .int .i64 e, .int .i64 s, .slice A' n c]] w fun x w' => x = .returned (.bool true) ∧ Below w.heap.size w w' := by
  have HLL := Lib.hid hR.1
  have HN := Lib.hid hn
  have HL := Lib.hid hl
  have HK0 := Lib.hid hk0
  have B1 := (Below.refl w.heap.size w).alloc (Nat.le_refl _) (.cells #[.int .i64 a, .int .i64 b, .int .i64 d, .int .i64 e, .int .i64 s, .slice A n k0] 26)
  have Q1 := Qx.new w a b d e s (.slice A n k0) 26
  have S1 : (w.alloc (.cells #[.int .i64 a, .int .i64 b, .int .i64 d, .int .i64 e, .int .i64 s, .slice A n k0] 26)).heap.size = w.heap.size + 1 := by simp
  generalize hw1 : (w.alloc (.cells #[.int .i64 a, .int .i64 b, .int .i64 d, .int .i64 e, .int .i64 s, .slice A n k0] 26)) = w1 at *
  have B2 := B1.alloc B1.size (.cells #[.int .i64 a, .int .i64 b, .int .i64 d, .int .i64 e, .int .i64 s, .slice A' n c] 26)
  have Q2 := Qx.new w1 a b d e s (.slice A' n c) 26
  have Q12 := Q1.to ((Below.refl _ _).alloc (Nat.le_refl _) (.cells #[.int .i64 a, .int .i64 b, .int .i64 d, .int .i64 e, .int .i64 s, .slice A' n c] 26))
  rw [S1] at Q2
  have Q := Lib.hid Q12
  have Q' := Lib.hid Q2
  have O := Lib.hid (hO.to B2)
  have S := Lib.hid (hR.toX B2)
  have BW := Lib.hid B2
  have HW1 := Lib.hid hw1
  have HSL : Hid (∀ W : World, (Instr.slice 24 (.slice A n k0) none (some (.int .i64 ((n : Int) + 1))) none).run Try.prog W = .ok (.slice A (n + 1) k0) W) := fun W => by
    have := slice_hc (T := 24) (U := 27) Try.underlying24 slices_size A (n := n) (h := n + 1) hk0 .i64 W
    rwa [show ((n + 1 : Nat) : Int) = (n : Int) + 1 from by push_cast; rfl] at this
  clear B1 Q1 S1 B2 Q2 Q12 hO hR hn hl hk0 hw1
  go_enter Try.func15, Try.ntmps15
  go_upto_region 1 with (fail)
  rw [HW1.out]
  generalize (w1.alloc (.cells #[.int .i64 a, .int .i64 b, .int .i64 d, .int .i64 e, .int .i64 s, .slice A' n c] 26)) = w2 at *
  clear HW1
  obtain ⟨x0, x1, x2, x3, x4, x5, _⟩ := Q.out
  obtain ⟨y0, y1, y2, y3, y4, y5, _⟩ := Q'.out
  obtain ⟨bb, o, A9, c9, rfl, hcell9, hrow9, _⟩ := O.out.at_ (Nat.lt_succ_self n)
  rw [rowAt_lastR HLL.out] at hcell9 hrow9
  change w2.cell? ⟨bb, o + n, none⟩ = some (.slice A9 1 c9) at hcell9
  have H9 := Lib.hid hrow9
  have hs0 := HSL.out
  have hwn : IntKind.i64.wrap ((n : Int) + 1) = (n : Int) + 1 := by have := HN.out; rw [IntKind.wrap_i64]; omega
  have hnn : (n : Int) < (n : Int) + 1 := by omega
  clear hrow9
  go_wp2_with fail
  clear hs0 hnn
  go_loopw [7, 8] (fun s7 _ wr => ∃ (k q : Nat), k ≤ n ∧ s7 = .int .i64 (k : Int) ∧ wr = w2.drewN q) (fun s7 _ _ => n - (intOf s7).toNat)
  case atStart => exact ⟨0, 0, Nat.zero_le _, rfl, rfl⟩
  case round =>
    obtain ⟨k, q, hk, rfl, rfl⟩ := hrel
    by_cases hlt : k < n
    · have hltI : (k : Int) < (n : Int) := by omega
      have HLT : Hid (k < n) := hlt
      have hwk : IntKind.i64.wrap ((k : Int) + 1) = (k : Int) + 1 := by have := HN.out; rw [IntKind.wrap_i64]; omega
      obtain ⟨bb', o', A1, c1, e', hcell, hrow, _⟩ := O.out.at_ (Nat.lt_succ_of_lt hlt)
      injection e' with e'
      injection e' with e1 e2
      subst e1; subst e2
      have hkl : k < l.length := by rw [HLL.out]; exact hlt
      rw [rowAt_tail hkl] at hcell hrow
      obtain ⟨m1, hm1⟩ : ∃ m1, (l.getD k []).length = m1 := ⟨_, rfl⟩
      replace hcell : w2.cell? ⟨bb, o + k, none⟩ = some (.slice A1 m1 c1) := by rw [← hm1]; exact hcell
      have HM1 : Hid (m1 ≤ 400) := by
        show _ ≤ _
        rw [← hm1]
        refine HL.out _ ?_
        rw [show l.getD k [] = l[k] from by simp [List.getD, List.getElem?_eq_getElem hkl]]
        exact List.getElem_mem hkl
      have hlen : (tailR (l.getD k [])).1.length = m1 + 1 := by simp only [tailR, List.length_append, hm1]; rfl
      have hc1 : m1 + 1 ≤ c1 := by rw [← hlen]; exact hrow.2.2.1
      have HS1 : ∀ W : World, (Instr.slice 27 (.slice A1 m1 c1) none (some (.int .i64 ((m1 : Int) + 1))) none).run Try.prog W = .ok (.slice A1 (m1 + 1) c1) W := fun W => by
        have := slice_hc (T := 27) (U := 5) Try.underlying27 (u8_size isU8) A1 (n := m1) (h := m1 + 1) hc1 .i64 W
        rwa [show ((m1 + 1 : Nat) : Int) = (m1 : Int) + 1 from by push_cast; rfl] at this
      obtain ⟨b1, o1, rfl, _, z1, _⟩ := hrow.1.cell (j := m1) (by rw [hlen]; exact Nat.lt_succ_self _)
      replace z1 : w2.cell? ⟨b1, o1 + m1, none⟩ = some (.int .u8 99) := by
        rw [z1, ← hm1]; show some (Value.int .u8 ((nth (l.getD k [] ++ [99]) _ : Nat) : Int)) = _; rw [nth_tail]; rfl
      have hwm : IntKind.i64.wrap ((m1 : Int) + 1) = (m1 : Int) + 1 := by have := HM1.out; rw [IntKind.wrap_i64]; omega
      have hmm : (m1 : Int) < (m1 : Int) + 1 := by omega
      have hmn : m1 < m1 + 1 := Nat.lt_succ_self _
      clear hk hlt hrow hlen hc1 hkl hm1
      go_wp2_with fail
      refine wp_region_held_drew (S := (fun w' => w'.cell? ⟨w.heap.size, 5, none⟩ = some (.slice (some ⟨bb, o, none⟩) n k0) ∧ w'.cell? ⟨bb, o + k, none⟩ = some (.slice (some ⟨b1, o1, none⟩) m1 c1))) (by kernel_rfl) (⟨x5, hcell⟩) (fun hHeld => ?_)
      refine wpAnyH_take (i := 0) (v := ?_) rfl (by kernel_rfl) (by kernel_rfl) (by kernel_rfl) (fun _ _ _ h => h) (Or.inl ⟨by rfl, ?_⟩) (by assumption) ?_
      rotate_left 1
      · intro w hSw; (try dsimp only at hSw); go_simp; (try with_reducible rfl)
      simp only [Act.put, List.getElem_toArray, List.getElem_cons_zero, List.getElem_cons_succ, List.setIfInBounds_toArray, List.set_cons_zero, List.set_cons_succ]
      refine wpAnyH_take (i := 1) (v := ?_) rfl (by kernel_rfl) (by kernel_rfl) (by kernel_rfl) (fun _ _ _ h => h) (Or.inl ⟨by rfl, ?_⟩) (by assumption) ?_
      rotate_left 1
      · intro w hSw; (try dsimp only at hSw); go_simp; (try with_reducible rfl)
      simp only [Act.put, List.getElem_toArray, List.getElem_cons_zero, List.getElem_cons_succ, List.setIfInBounds_toArray, List.set_cons_zero, List.set_cons_succ]
      refine wpAnyH_take (i := 2) (v := ?_) rfl (by kernel_rfl) (by kernel_rfl) (by kernel_rfl) (fun _ _ _ h => h) (Or.inl ⟨by rfl, ?_⟩) (by assumption) ?_
      rotate_left 1
      · intro w hSw; (try dsimp only at hSw); go_simp; (try with_reducible rfl)
      simp only [Act.put, List.getElem_toArray, List.getElem_cons_zero, List.getElem_cons_succ, List.setIfInBounds_toArray, List.set_cons_zero, List.set_cons_succ]
      refine wpAnyH_take (i := 3) (v := ?_) rfl (by kernel_rfl) (by kernel_rfl) (by kernel_rfl) (fun _ _ _ h => h) (Or.inl ⟨by rfl, ?_⟩) (by assumption) ?_
      rotate_left 1
      · intro w hSw; (try dsimp only at hSw); go_simp; (try with_reducible rfl)
      simp only [Act.put, List.getElem_toArray, List.getElem_cons_zero, List.getElem_cons_succ, List.setIfInBounds_toArray, List.set_cons_zero, List.set_cons_succ]
      refine wpAnyH_take (i := 4) (v := ?_) rfl (by kernel_rfl) (by kernel_rfl) (by kernel_rfl) (fun _ _ _ h => h) (Or.inl ⟨by rfl, ?_⟩) (by assumption) ?_
      rotate_left 1
      · intro w hSw; (try dsimp only at hSw); go_simp; (try with_reducible rfl)
      simp only [Act.put, List.getElem_toArray, List.getElem_cons_zero, List.getElem_cons_succ, List.setIfInBounds_toArray, List.set_cons_zero, List.set_cons_succ]
      refine wpAnyH_take (i := 5) (v := ?_) rfl (by kernel_rfl) (by kernel_rfl) (by kernel_rfl) (fun _ _ _ h => h) (Or.inl ⟨by rfl, ?_⟩) (by assumption) ?_
      rotate_left 1
      · intro w hSw; (try dsimp only at hSw); go_simp; (try with_reducible rfl)
      simp only [Act.put, List.getElem_toArray, List.getElem_cons_zero, List.getElem_cons_succ, List.setIfInBounds_toArray, List.set_cons_zero, List.set_cons_succ]
      refine wpAnyH_take (i := 6) (v := ?_) rfl (by kernel_rfl) (by kernel_rfl) (by kernel_rfl) (fun _ _ _ h => h) (Or.inl ⟨by rfl, ?_⟩) (by assumption) ?_
      rotate_left 1
      · intro w hSw; (try dsimp only at hSw); go_simp; (try with_reducible rfl)
      simp only [Act.put, List.getElem_toArray, List.getElem_cons_zero, List.getElem_cons_succ, List.setIfInBounds_toArray, List.set_cons_zero, List.set_cons_succ]
      refine wpAnyH_take (i := 7) (v := ?_) rfl (by kernel_rfl) (by kernel_rfl) (by kernel_rfl) (fun _ _ _ h => h) (Or.inl ⟨by rfl, ?_⟩) (by assumption) ?_
      rotate_left 1
      · intro w hSw; (try dsimp only at hSw); go_simp; (try with_reducible rfl)
      simp only [Act.put, List.getElem_toArray, List.getElem_cons_zero, List.getElem_cons_succ, List.setIfInBounds_toArray, List.set_cons_zero, List.set_cons_succ]
      refine wpAnyH_take (i := 8) (v := ?_) rfl (by kernel_rfl) (by kernel_rfl) (by kernel_rfl) (fun _ _ _ h => h) (Or.inl ⟨by rfl, ?_⟩) (by assumption) ?_
      rotate_left 1
      · intro w hSw; (try dsimp only at hSw); go_simp; (try with_reducible rfl)
      simp only [Act.put, List.getElem_toArray, List.getElem_cons_zero, List.getElem_cons_succ, List.setIfInBounds_toArray, List.set_cons_zero, List.set_cons_succ]
      refine wpAnyH_take (i := 9) (v := ?_) rfl (by kernel_rfl) (by kernel_rfl) (by kernel_rfl) (fun _ _ _ h => h) (Or.inl ⟨by rfl, ?_⟩) (by assumption) ?_
      rotate_left 1
      · intro w hSw; (try dsimp only at hSw); go_simp; (try with_reducible rfl)
      simp only [Act.put, List.getElem_toArray, List.getElem_cons_zero, List.getElem_cons_succ, List.setIfInBounds_toArray, List.set_cons_zero, List.set_cons_succ]
      refine wpAnyH_take (i := 10) (v := ?_) rfl (by kernel_rfl) (by kernel_rfl) (by kernel_rfl) (fun _ _ _ h => h) (Or.inl ⟨by rfl, ?_⟩) (by assumption) ?_
      rotate_left 1
      · intro w hSw; (try dsimp only at hSw); go_simp; (try with_reducible rfl)
      simp only [Act.put, List.getElem_toArray, List.getElem_cons_zero, List.getElem_cons_succ, List.setIfInBounds_toArray, List.set_cons_zero, List.set_cons_succ]
      refine wpAnyH_take (i := 11) (v := ?_) rfl (by kernel_rfl) (by kernel_rfl) (by kernel_rfl) (fun _ _ _ h => h) (Or.inl ⟨by rfl, ?_⟩) (by assumption) ?_
      rotate_left 1
      · intro w hSw; (try dsimp only at hSw); go_simp; (try with_reducible rfl)
      simp only [Act.put, List.getElem_toArray, List.getElem_cons_zero, List.getElem_cons_succ, List.setIfInBounds_toArray, List.set_cons_zero, List.set_cons_succ]
      refine wpAnyH_take (i := 12) (v := ?_) rfl (by kernel_rfl) (by kernel_rfl) (by kernel_rfl) (fun _ _ _ h => h) (Or.inl ⟨by rfl, ?_⟩) (by assumption) ?_
      rotate_left 1
      · intro w hSw; (try dsimp only at hSw); go_simp; (try with_reducible rfl)
      simp only [Act.put, List.getElem_toArray, List.getElem_cons_zero, List.getElem_cons_succ, List.setIfInBounds_toArray, List.set_cons_zero, List.set_cons_succ]
      refine wpAnyH_take (i := 13) (v := ?_) rfl (by kernel_rfl) (by kernel_rfl) (by kernel_rfl) (fun _ _ _ h => h) (Or.inl ⟨by rfl, ?_⟩) (by assumption) ?_
      rotate_left 1
      · intro w hSw; (try dsimp only at hSw); go_simp; (try with_reducible rfl)
      simp only [Act.put, List.getElem_toArray, List.getElem_cons_zero, List.getElem_cons_succ, List.setIfInBounds_toArray, List.set_cons_zero, List.set_cons_succ]
      refine wpAnyH_done (by kernel_rfl) ?_ _
      clear hHeld
      have e9 : (w2.drewN q).drew = w2.drewN (q + 1) := rfl
      rw [e9]
      go_wp2_with fail
      go_roundw
      case rel => exact ⟨k + 1, q + 1, HLT.out, by go_num, rfl⟩
      case measure => have := HLT.out; simp [intOf]; omega
    · obtain rfl : k = n := by omega
      have hltI : ¬ (k : Int) < (k : Int) := by omega
      obtain ⟨b9, o9, rfl, _, z9, _⟩ := H9.out.1.cell (j := 0) (show 0 < lastR.1.length from by decide)
      have z9 : w2.cell? ⟨b9, o9, none⟩ = some (.int .u8 98) := z9
      have RC := Lib.hid (O.out.copy HLL.out)
      have BB := Lib.hid (below_drewN BW.out q)
      clear hk hlt
      go_wp2_with fail
      refine (rSameQ a b d e s a b d e s _ A' k k k0 c l l (w2.drewN q) RC.out S.out (by have := HN.out; omega)).mono ?_
      rintro x w3 ⟨rfl, hb⟩
      have hq : (eqC ⟨a, b, d, e, s⟩ ⟨a, b, d, e, s⟩ && decide (l = l)) = true := by simp [eqC]
      rw [hq]
      have z93 : w3.cell? ⟨b9, o9, none⟩ = some (.int .u8 98) := (hb.cell (p := ⟨b9, o9, none⟩) (cell_block (w := w2.drewN q) z9)).trans z9
      have B3 := Lib.hid (BB.out.trans (hb.mono BB.out.size))
      clear hq hb
      go_wp2_with fail
      go_ret
      exact ⟨rfl, B3.out⟩
end Go.Proofs.Ytkaobafgecoomaa
