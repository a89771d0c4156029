/- Contracts of the document's own functions of layer 10, part one: in, May, MayQueue, Same, All. -/
import Derived.Test.YtkaobafgecoomaaChT
namespace Go.Proofs.Ytkaobafgecoomaa
open Go.RowKit
set_option linter.unusedVariables false
set_option linter.unusedSimpArgs false

def btw (n lo hi : Int) : Bool := decide (lo ≤ n) && decide (n ≤ hi)
theorem btw_iff {n lo hi : Int} : btw n lo hi = true ↔ lo ≤ n ∧ n ≤ hi := by simp [btw]
set_option maxRecDepth 1000000 in
set_option maxHeartbeats 1000000 in
theorem rIn (n lo hi : Int) (w : World) : Calls Try.prog 29 #[.int .i64 n, .int .i64 lo, .int .i64 hi] w fun e w' => e = .returned (.bool (btw n lo hi)) ∧ w = w' := by
  go_enter Try.func29, Try.ntmps29
  go_wp2
  all_goals (go_ret; refine ⟨ret_bool ?_, rfl⟩; rw [Bool.eq_iff_iff, btw_iff]; simp only [decide_eq_true_eq, Bool.false_eq_true, false_iff] at *; omega)
set_option maxRecDepth 1000000 in
set_option maxHeartbeats 1000000 in
theorem rMay (a b d e s : Int) (w : World) :
    Calls Try.prog 20 #[.agg #[.int .i64 a, .int .i64 b, .int .i64 d, .int .i64 e, .int .i64 s]] w fun x w' => x = .returned (.bool (mayC ⟨a, b, d, e, s⟩)) ∧ Below w.heap.size w w' := by
  have BB := Lib.hid ((Below.refl w.heap.size w).alloc (Nat.le_refl _) (.cells #[.int .i64 a, .int .i64 b, .int .i64 d, .int .i64 e, .int .i64 s] 23))
  go_enter Try.func20, Try.ntmps20
  go_wp2_with fail
  refine (rIn _ _ _ _).mono ?_
  rintro x w1 ⟨rfl, rfl⟩
  cases h1 : btw a 1 8
  ·
    have HF : Hid (false = mayC ⟨a, b, d, e, s⟩) := by
      show _ = _
      rw [eq_comm, ← Bool.not_eq_true, mayC_iff]
      rw [← Bool.not_eq_true, btw_iff] at h1
      simp only; omega
    clear h1
    go_wp2_with fail
    go_ret
    refine ⟨ret_bool ?_, BB.out⟩
    exact HF.out
  have H1 := Lib.hid (btw_iff.1 h1)
  clear h1
  go_wp2_with fail
  refine (rIn _ _ _ _).mono ?_
  rintro x w1 ⟨rfl, rfl⟩
  cases h1 : btw b 1 6
  ·
    have HF : Hid (false = mayC ⟨a, b, d, e, s⟩) := by
      show _ = _
      rw [eq_comm, ← Bool.not_eq_true, mayC_iff]
      rw [← Bool.not_eq_true, btw_iff] at h1
      simp only; omega
    clear h1
    go_wp2_with fail
    go_ret
    refine ⟨ret_bool ?_, BB.out⟩
    exact HF.out
  have H2 := Lib.hid (btw_iff.1 h1)
  clear h1
  go_wp2_with fail
  refine (rIn _ _ _ _).mono ?_
  rintro x w1 ⟨rfl, rfl⟩
  cases h1 : btw d 1 6
  ·
    have HF : Hid (false = mayC ⟨a, b, d, e, s⟩) := by
      show _ = _
      rw [eq_comm, ← Bool.not_eq_true, mayC_iff]
      rw [← Bool.not_eq_true, btw_iff] at h1
      simp only; omega
    clear h1
    go_wp2_with fail
    go_ret
    refine ⟨ret_bool ?_, BB.out⟩
    exact HF.out
  have H3 := Lib.hid (btw_iff.1 h1)
  clear h1
  by_cases hbd : b = d
  · have HF : Hid (false = mayC ⟨a, b, d, e, s⟩) := by
      show _ = _
      rw [eq_comm, ← Bool.not_eq_true, mayC_iff]
      simp only; omega
    subst hbd
    go_wp2_with fail
    go_ret
    refine ⟨ret_bool ?_, BB.out⟩
    exact HF.out
  have HBD := Lib.hid hbd
  go_wp2_with fail
  refine (rIn _ _ _ _).mono ?_
  rintro x w1 ⟨rfl, rfl⟩
  cases h1 : btw e 1 4
  ·
    have HF : Hid (false = mayC ⟨a, b, d, e, s⟩) := by
      show _ = _
      rw [eq_comm, ← Bool.not_eq_true, mayC_iff]
      rw [← Bool.not_eq_true, btw_iff] at h1
      simp only; omega
    clear h1
    go_wp2_with fail
    go_ret
    refine ⟨ret_bool ?_, BB.out⟩
    exact HF.out
  have H4 := Lib.hid (btw_iff.1 h1)
  clear h1
  go_wp2_with fail
  refine (rIn _ _ _ _).mono ?_
  rintro x w1 ⟨rfl, rfl⟩
  cases h1 : btw s 1 16
  ·
    have HF : Hid (false = mayC ⟨a, b, d, e, s⟩) := by
      show _ = _
      rw [eq_comm, ← Bool.not_eq_true, mayC_iff]
      rw [← Bool.not_eq_true, btw_iff] at h1
      simp only; omega
    clear h1
    go_wp2_with fail
    go_ret
    refine ⟨ret_bool ?_, BB.out⟩
    exact HF.out
  have HF : Hid (true = mayC ⟨a, b, d, e, s⟩) := by
    show _ = _
    have := H1.out; have := H2.out; have := H3.out; have := H4.out; have := HBD.out; have := btw_iff.1 h1
    rw [eq_comm, mayC_iff]
    simp only; omega
  clear h1
  go_wp2_with fail
  go_ret
  refine ⟨ret_bool ?_, BB.out⟩
  rw [← HF.out]; simpa using HBD.out
theorem any_false_at {c : Ch} {l : List (List UInt8)} (h : ∀ j, j < l.length → longM c (l.getD j []) = false) : l.any (longM c) = false := (firstLong_none h).2
theorem any_true_at {c : Ch} {l : List (List UInt8)} {i : Nat} (h : i < l.length) (hi : longM c (l.getD i []) = true) : l.any (longM c) = true := by
  rw [List.any_eq_true]
  exact ⟨l[i], List.getElem_mem h, by simpa [List.getD, List.getElem?_eq_getElem h] using hi⟩
set_option maxRecDepth 1000000 in
set_option maxHeartbeats 1000000 in
theorem rMayQ (a b d e s : Int) (A : Option Addr) (n c : Nat) (l : List (List UInt8)) (w : World) (hS : RdS w w.heap.size A n l) (hn : n ≤ 140737488355328) :
    Calls Try.prog 25 #[.agg #[.int .i64 a, .int .i64 b, .int .i64 d, .int .i64 e, .int .i64 s, .slice A n c]] w fun x w' => x = .returned (.bool (mayQ ⟨a, b, d, e, s⟩ l)) ∧ Below w.heap.size w w' := by
  have B := Lib.hid ((Below.refl w.heap.size w).alloc (Nat.le_refl _) (.cells #[.int .i64 a, .int .i64 b, .int .i64 d, .int .i64 e, .int .i64 s, .slice A n c] 26))
  have Q := Lib.hid (Qx.new w a b d e s (.slice A n c) 26)
  have S := Lib.hid (hS.toX B.out)
  have HN := Lib.hid hn
  have HL := Lib.hid hS.1
  clear hS hn
  obtain ⟨c0, c1, c2, c3, c4, c5, _⟩ := Q.out
  go_enter Try.func25, Try.ntmps25
  go_wp2_with fail
  generalize (w.alloc (.cells #[.int .i64 a, .int .i64 b, .int .i64 d, .int .i64 e, .int .i64 s, .slice A n c] 26)) = w0 at *
  refine (rMay a b d e s _).mono ?_
  rintro x w1 ⟨rfl, hb⟩
  replace Q := Lib.hid (Q.out.to hb)
  replace S := Lib.hid (S.out.toX hb)
  replace B := Lib.hid (B.out.trans (hb.mono B.out.size))
  clear hb c0 c1 c2 c3 c4 c5
  obtain ⟨c0, c1, c2, c3, c4, c5, _⟩ := Q.out
  cases hm : mayC ⟨a, b, d, e, s⟩
  · have HF : Hid (mayQ ⟨a, b, d, e, s⟩ l = false) := by show _ = _; unfold mayQ; rw [hm]; rfl
    clear hm
    go_wp2_with fail
    go_ret
    exact ⟨by rw [HF.out]; rfl, B.out⟩
  have HM := Lib.hid hm
  clear hm
  by_cases hc : (n : Int) > e
  · have HF : Hid (mayQ ⟨a, b, d, e, s⟩ l = false) := by
      show _ = _
      unfold mayQ
      rw [decide_eq_false (by rw [HL.out]; simp only; omega)]
      simp
    go_wp2_with fail
    go_ret
    exact ⟨by rw [HF.out]; rfl, B.out⟩
  have HF : Hid (mayQ ⟨a, b, d, e, s⟩ l = !l.any (longM ⟨a, b, d, e, s⟩)) := by
    show _ = _
    unfold mayQ
    rw [HM.out, decide_eq_true (by rw [HL.out]; simp only; omega)]
    simp
  go_wp2_with fail
  clear hc
  go_loopw [3] (fun s3 wr => ∃ (k q : Nat), k ≤ n ∧ s3 = .int .i64 (k : Int) ∧ wr = w1.drewN q ∧ ∀ j, j < k → longM ⟨a, b, d, e, s⟩ (l.getD j []) = false) (fun s3 _ => n - (intOf s3).toNat)
  case atStart => exact ⟨0, 0, Nat.zero_le _, rfl, rfl, fun _ h => absurd h (Nat.not_lt_zero _)⟩
  case round =>
    obtain ⟨k, q, hk, rfl, rfl, hb⟩ := hrel
    have HB := Lib.hid hb
    clear hb
    by_cases hlt : k < n
    · have hltI : (k : Int) < (n : Int) := by omega
      have HLT : Hid (k < n) := hlt
      have hwk : IntKind.i64.wrap ((k : Int) + 1) = (k : Int) + 1 := by have := HN.out; rw [IntKind.wrap_i64]; omega
      obtain ⟨bb, o, A', m, c', rfl, hcell, hrd⟩ := S.out.at_ hlt
      have HML := Lib.hid hrd.1
      clear hrd hk
      by_cases hlong : (m : Int) > s
      · have HX : Hid (l.any (longM ⟨a, b, d, e, s⟩) = true) := any_true_at (by rw [HL.out]; exact hlt) (by unfold longM; rw [HML.out]; exact decide_eq_true hlong)
        go_wp2_with fail
        go_quiet (fail)
        go_wp2_with fail
        go_ret
        exact ⟨by rw [HF.out, HX.out]; rfl, below_drewN (below_drewN B.out q) _⟩
      · have HX : Hid (longM ⟨a, b, d, e, s⟩ (l.getD k []) = false) := by show _ = _; unfold longM; rw [HML.out]; exact decide_eq_false hlong
        go_wp2_with fail
        go_quiet (fail)
        go_wp2_with fail
        go_roundw
        case rel => exact ⟨k + 1, _, HLT.out, by go_num, rfl, fun j hj => by
          rcases Nat.lt_succ_iff_lt_or_eq.1 hj with h | rfl
          · exact HB.out j h
          · exact HX.out⟩
        case measure => have := HLT.out; simp [intOf]; omega
    · obtain rfl : k = n := by omega
      have hltI : ¬ (k : Int) < (k : Int) := by omega
      have HX := Lib.hid (any_false_at (c := ⟨a, b, d, e, s⟩) (l := l) (fun j hj => HB.out j (by rw [HL.out] at hj; exact hj)))
      clear hk hlt
      go_wp2_with fail
      go_ret
      exact ⟨by rw [HF.out, HX.out]; rfl, below_drewN B.out q⟩
set_option maxRecDepth 1000000 in
set_option maxHeartbeats 1000000 in
theorem rSameQ (a b d e s a' b' d' e' s' : Int) (A A' : Option Addr) (n n' c c' : Nat) (l l' : List (List UInt8)) (w : World) (hS : RdS w w.heap.size A n l) (hS' : RdS w w.heap.size A' n' l') (hn : n ≤ 140737488355328) :
    Calls Try.prog 13 #[.agg #[.int .i64 a, .int .i64 b, .int .i64 d, .int .i64 e, .int .i64 s, .slice A n c], .agg #[.int .i64 a', .int .i64 b', .int .i64 d', .int .i64 e', .int .i64 s', .slice A' n' c']] w fun x w' =>
      x = .returned (.bool (eqC ⟨a, b, d, e, s⟩ ⟨a', b', d', e', s'⟩ && decide (l = l'))) ∧ Below w.heap.size w w' := by
  have hgd := ch_guard
  have heq := ch_eq
  have B1 := (Below.refl w.heap.size w).alloc (Nat.le_refl _) (.cells #[.int .i64 a, .int .i64 b, .int .i64 d, .int .i64 e, .int .i64 s, .slice A n c] 26)
  have Q1 := Qx.new w a b d e s (.slice A n c) 26
  have S1 : (w.alloc (.cells #[.int .i64 a, .int .i64 b, .int .i64 d, .int .i64 e, .int .i64 s, .slice A n c] 26)).heap.size = w.heap.size + 1 := by simp
  generalize hw1 : (w.alloc (.cells #[.int .i64 a, .int .i64 b, .int .i64 d, .int .i64 e, .int .i64 s, .slice A n c] 26)) = w1 at *
  have B2 := B1.alloc B1.size (.cells #[.int .i64 a', .int .i64 b', .int .i64 d', .int .i64 e', .int .i64 s', .slice A' n' c'] 26)
  have Q2 := Qx.new w1 a' b' d' e' s' (.slice A' n' c') 26
  have Q12 := Q1.to ((Below.refl _ _).alloc (Nat.le_refl _) (.cells #[.int .i64 a', .int .i64 b', .int .i64 d', .int .i64 e', .int .i64 s', .slice A' n' c'] 26))
  rw [S1] at Q2
  have Q := Lib.hid Q12
  have Q' := Lib.hid Q2
  have S := Lib.hid (hS.toX B2)
  have S' := Lib.hid (hS'.toX B2)
  have B := Lib.hid B2
  have HN := Lib.hid hn
  have HW1 := Lib.hid hw1
  clear B1 Q1 S1 B2 Q2 Q12 hS hS' hn hw1
  go_enter Try.func13, Try.ntmps13
  go_upto_region 1 with (fail)
  rw [HW1.out]
  generalize (w1.alloc (.cells #[.int .i64 a', .int .i64 b', .int .i64 d', .int .i64 e', .int .i64 s', .slice A' n' c'] 26)) = w2 at *
  clear HW1
  obtain ⟨x0, x1, x2, x3, x4, x5, _⟩ := Q.out
  obtain ⟨y0, y1, y2, y3, y4, y5, _⟩ := Q'.out
  cases hd : eqC ⟨a, b, d, e, s⟩ ⟨a', b', d', e', s'⟩
  · have HD := Lib.hid hd
    go_wp2_with fail
    go_ret
    exact ⟨rfl, B.out⟩
  have HD := Lib.hid hd
  by_cases hne : n = n'
  · subst hne
    have heI : ((n : Int) != (n : Int)) = false := by simp
    go_wp2_with fail
    clear heI
    go_loopw [5] (fun s5 wr => ∃ (k q : Nat), k ≤ n ∧ s5 = .int .i64 (k : Int) ∧ wr = w2.drewN q ∧ l.take k = l'.take k) (fun s5 _ => n - (intOf s5).toNat)
    case atStart => exact ⟨0, 0, Nat.zero_le _, rfl, rfl, by simp⟩
    case round =>
      obtain ⟨k, q, hk, rfl, rfl, ht⟩ := hrel
      have HT := Lib.hid ht
      clear ht
      by_cases hlt : k < n
      · have hltI : (k : Int) < (n : Int) := by omega
        have HLT : Hid (k < n) := hlt
        have hwk : IntKind.i64.wrap ((k : Int) + 1) = (k : Int) + 1 := by have := HN.out; rw [IntKind.wrap_i64]; omega
        obtain ⟨bb, o, A1, m1, c1, rfl, hcell, hrd⟩ := S.out.at_ hlt
        obtain ⟨bb', o', A2, m2, c2, rfl, hcell', hrd'⟩ := S'.out.at_ hlt
        obtain ⟨r1, hr1⟩ : ∃ r1, l.getD k [] = r1 := ⟨_, rfl⟩
        obtain ⟨r2, hr2⟩ : ∃ r2, l'.getD k [] = r2 := ⟨_, rfl⟩
        rw [hr1] at hrd
        rw [hr2] at hrd'
        have HX1 := Lib.hid hr1
        have HX2 := Lib.hid hr2
        clear hr1 hr2
        have HR1 := Lib.hid hrd
        have HR2 := Lib.hid hrd'
        have HC1 := Lib.hid hcell
        have HC2 := Lib.hid hcell'
        clear hrd hrd' hk
        go_wp2_with fail
        obtain ⟨wd, hwd⟩ : ∃ wd, (w2.drewN q).drew = wd := ⟨_, rfl⟩
        have SS : Hid ((wd.cell? ⟨w.heap.size, 5, none⟩ = some (.slice (some ⟨bb, o, none⟩) n c) ∧ wd.cell? ⟨w.heap.size + 1, 5, none⟩ = some (.slice (some ⟨bb', o', none⟩) n c') ∧ wd.cell? ⟨bb, o + k, none⟩ = some (.slice A1 m1 c1) ∧ wd.cell? ⟨bb', o' + k, none⟩ = some (.slice A2 m2 c2)) ∧ Rd wd wd.heap.size A1 m1 r1 ∧ Rd wd wd.heap.size A2 m2 r2) := by
          rw [← hwd]; exact ⟨⟨x5, y5, HC1.out, HC2.out⟩, HR1.out, HR2.out⟩
        clear x0 x1 x2 x3 x4 x5 y0 y1 y2 y3 y4 y5 hcell hcell'
        refine wp_region_held_drew (S := (fun w' => (w'.cell? ⟨w.heap.size, 5, none⟩ = some (.slice (some ⟨bb, o, none⟩) n c) ∧ w'.cell? ⟨w.heap.size + 1, 5, none⟩ = some (.slice (some ⟨bb', o', none⟩) n c') ∧ w'.cell? ⟨bb, o + k, none⟩ = some (.slice A1 m1 c1) ∧ w'.cell? ⟨bb', o' + k, none⟩ = some (.slice A2 m2 c2)) ∧ Rd w' w'.heap.size A1 m1 r1 ∧ Rd w' w'.heap.size A2 m2 r2)) (by kernel_rfl) ((by rw [hwd]; exact SS.out)) (fun hHeld => ?_)
        rw [hwd] at hHeld ⊢
        have HWD := Lib.hid hwd
        clear hwd
        refine wpAnyH_take (i := 0) (v := ?_) rfl (by kernel_rfl) (by kernel_rfl) (by kernel_rfl) (fun _ _ _ h => h) (Or.inl ⟨by rfl, ?_⟩) (by assumption) ?_
        rotate_left 1
        · intro w hSw; (try dsimp only at hSw); go_simp; (try with_reducible rfl)
        simp only [Act.put, List.getElem_toArray, List.getElem_cons_zero, List.getElem_cons_succ, List.setIfInBounds_toArray, List.set_cons_zero, List.set_cons_succ]
        refine wpAnyH_take (i := 1) (v := ?_) rfl (by kernel_rfl) (by kernel_rfl) (by kernel_rfl) (fun _ _ _ h => h) (Or.inl ⟨by rfl, ?_⟩) (by assumption) ?_
        rotate_left 1
        · intro w hSw; (try dsimp only at hSw); go_simp; (try with_reducible rfl)
        simp only [Act.put, List.getElem_toArray, List.getElem_cons_zero, List.getElem_cons_succ, List.setIfInBounds_toArray, List.set_cons_zero, List.set_cons_succ]
        refine wpAnyH_take (i := 2) (v := ?_) rfl (by kernel_rfl) (by kernel_rfl) (by kernel_rfl) (fun _ _ _ h => h) (Or.inl ⟨by rfl, ?_⟩) (by assumption) ?_
        rotate_left 1
        · intro w hSw; (try dsimp only at hSw); go_simp; (try with_reducible rfl)
        simp only [Act.put, List.getElem_toArray, List.getElem_cons_zero, List.getElem_cons_succ, List.setIfInBounds_toArray, List.set_cons_zero, List.set_cons_succ]
        refine wpAnyH_take (i := 3) (v := ?_) rfl (by kernel_rfl) (by kernel_rfl) (by kernel_rfl) (fun _ _ _ h => h) (Or.inl ⟨by rfl, ?_⟩) (by assumption) ?_
        rotate_left 1
        · intro w hSw; (try dsimp only at hSw); go_simp; (try with_reducible rfl)
        simp only [Act.put, List.getElem_toArray, List.getElem_cons_zero, List.getElem_cons_succ, List.setIfInBounds_toArray, List.set_cons_zero, List.set_cons_succ]
        refine wpAnyH_take (i := 4) (v := ?_) rfl (by kernel_rfl) (by kernel_rfl) (by kernel_rfl) (fun _ _ _ h => h) (Or.inl ⟨by rfl, ?_⟩) (by assumption) ?_
        rotate_left 1
        · intro w hSw; (try dsimp only at hSw); go_simp; (try with_reducible rfl)
        simp only [Act.put, List.getElem_toArray, List.getElem_cons_zero, List.getElem_cons_succ, List.setIfInBounds_toArray, List.set_cons_zero, List.set_cons_succ]
        refine wpAnyH_take (i := 5) (v := ?_) rfl (by kernel_rfl) (by kernel_rfl) (by kernel_rfl) (fun _ _ _ h => h) (Or.inl ⟨by rfl, ?_⟩) (by assumption) ?_
        rotate_left 1
        · intro w hSw; (try dsimp only at hSw); have hcv := hSw.2.1.conv c1 27 5 9 Try.underlying27 Try.underlying5 Try.underlying9; go_simp; (try with_reducible rfl)
        simp only [Act.put, List.getElem_toArray, List.getElem_cons_zero, List.getElem_cons_succ, List.setIfInBounds_toArray, List.set_cons_zero, List.set_cons_succ]
        refine wpAnyH_take (i := 6) (v := ?_) rfl (by kernel_rfl) (by kernel_rfl) (by kernel_rfl) (fun _ _ _ h => h) (Or.inl ⟨by rfl, ?_⟩) (by assumption) ?_
        rotate_left 1
        · intro w hSw; (try dsimp only at hSw); go_simp; (try with_reducible rfl)
        simp only [Act.put, List.getElem_toArray, List.getElem_cons_zero, List.getElem_cons_succ, List.setIfInBounds_toArray, List.set_cons_zero, List.set_cons_succ]
        refine wpAnyH_take (i := 7) (v := ?_) rfl (by kernel_rfl) (by kernel_rfl) (by kernel_rfl) (fun _ _ _ h => h) (Or.inl ⟨by rfl, ?_⟩) (by assumption) ?_
        rotate_left 1
        · intro w hSw; (try dsimp only at hSw); go_simp; (try with_reducible rfl)
        simp only [Act.put, List.getElem_toArray, List.getElem_cons_zero, List.getElem_cons_succ, List.setIfInBounds_toArray, List.set_cons_zero, List.set_cons_succ]
        refine wpAnyH_take (i := 8) (v := ?_) rfl (by kernel_rfl) (by kernel_rfl) (by kernel_rfl) (fun _ _ _ h => h) (Or.inl ⟨by rfl, ?_⟩) (by assumption) ?_
        rotate_left 1
        · intro w hSw; (try dsimp only at hSw); go_simp; (try with_reducible rfl)
        simp only [Act.put, List.getElem_toArray, List.getElem_cons_zero, List.getElem_cons_succ, List.setIfInBounds_toArray, List.set_cons_zero, List.set_cons_succ]
        refine wpAnyH_take (i := 9) (v := ?_) rfl (by kernel_rfl) (by kernel_rfl) (by kernel_rfl) (fun _ _ _ h => h) (Or.inl ⟨by rfl, ?_⟩) (by assumption) ?_
        rotate_left 1
        · intro w hSw; (try dsimp only at hSw); go_simp; (try with_reducible rfl)
        simp only [Act.put, List.getElem_toArray, List.getElem_cons_zero, List.getElem_cons_succ, List.setIfInBounds_toArray, List.set_cons_zero, List.set_cons_succ]
        refine wpAnyH_take (i := 10) (v := ?_) rfl (by kernel_rfl) (by kernel_rfl) (by kernel_rfl) (fun _ _ _ h => h) (Or.inl ⟨by rfl, ?_⟩) (by assumption) ?_
        rotate_left 1
        · intro w hSw; (try dsimp only at hSw); go_simp; (try with_reducible rfl)
        simp only [Act.put, List.getElem_toArray, List.getElem_cons_zero, List.getElem_cons_succ, List.setIfInBounds_toArray, List.set_cons_zero, List.set_cons_succ]
        refine wpAnyH_take (i := 11) (v := ?_) rfl (by kernel_rfl) (by kernel_rfl) (by kernel_rfl) (fun _ _ _ h => h) (Or.inl ⟨by rfl, ?_⟩) (by assumption) ?_
        rotate_left 1
        · intro w hSw; (try dsimp only at hSw); have hcv := hSw.2.2.conv c2 27 5 9 Try.underlying27 Try.underlying5 Try.underlying9; go_simp; (try with_reducible rfl)
        simp only [Act.put, List.getElem_toArray, List.getElem_cons_zero, List.getElem_cons_succ, List.setIfInBounds_toArray, List.set_cons_zero, List.set_cons_succ]
        refine wpAnyH_take (i := 12) (v := ?_) rfl (by kernel_rfl) (by kernel_rfl) (by kernel_rfl) (fun _ _ _ h => h) (Or.inl ⟨by rfl, ?_⟩) (by assumption) ?_
        rotate_left 1
        · intro w hSw; (try dsimp only at hSw); go_simp; (try with_reducible rfl)
        simp only [Act.put, List.getElem_toArray, List.getElem_cons_zero, List.getElem_cons_succ, List.setIfInBounds_toArray, List.set_cons_zero, List.set_cons_succ]
        refine wpAnyH_done (by kernel_rfl) ?_ _
        clear hHeld
        have E1 : Hid ((strOfNums (numsOf r1)).toList = r1) := by show _ = _; rw [Lib.strOfNums_toList, bytesOf_numsOf]
        have E2 : Hid ((strOfNums (numsOf r2)).toList = r2) := by show _ = _; rw [Lib.strOfNums_toList, bytesOf_numsOf]
        generalize strOfNums (numsOf r1) = s1 at *
        generalize strOfNums (numsOf r2) = s2 at *
        have BD : Hid (Below w.heap.size w wd) := by rw [← HWD.out]; exact (below_drewN B.out q).drew
        obtain ⟨y, hy⟩ : ∃ y, (s1.toList == s2.toList) = y := ⟨_, rfl⟩
        rw [hy]
        have hr : y = true ↔ r1 = r2 := by rw [← hy, E1.out, E2.out]; simp
        have HRR := Lib.hid hr
        clear hr hy
        cases y
        rotate_left 1
        · have HEQ := Lib.hid (HRR.out.1 rfl)
          go_wp2_with fail
          go_roundw
          case rel => exact ⟨k + 1, q + 1, HLT.out, by go_num, by rw [← HWD.out]; rfl, rows_step (by rw [S.out.1]; exact HLT.out) (by rw [S'.out.1]; exact HLT.out) HT.out (by rw [HX1.out, HX2.out]; exact HEQ.out)⟩
          case measure => have := HLT.out; simp [intOf]; omega
        · have hr : ¬ r1 = r2 := fun e => by have := HRR.out.2 e; cases this
          have HE : Hid (false = decide (l = l')) := by
            show _ = _
            rw [decide_eq_false (fun e => hr (by rw [← HX1.out, ← HX2.out, e]))]
          clear hr
          go_wp2_with fail
          go_ret
          exact ⟨ret_bool (by first | exact HE.out | (rw [HD.out, ← HE.out]; rfl)), BD.out⟩
      · obtain rfl : k = n := by omega
        have hltI : ¬ (k : Int) < (k : Int) := by omega
        have HE : Hid (true = decide (l = l')) := by
          show _ = _
          have := HT.out
          rw [List.take_of_length_le (by rw [S.out.1]; exact Nat.le_refl _), List.take_of_length_le (by rw [S'.out.1]; exact Nat.le_refl _)] at this
          rw [decide_eq_true this]
        clear hk hlt
        go_wp2_with fail
        go_ret
        exact ⟨ret_bool HE.out, below_drewN B.out q⟩
  · have heI : ((n : Int) != (n' : Int)) = true := by simp; omega
    have HE : Hid (decide (l = l') = false) := by
      show _ = _
      rw [decide_eq_false (fun e => hne (by rw [← S.out.1, ← S'.out.1, e]))]
    clear hne
    go_wp2_with fail
    go_ret
    exact ⟨ret_bool HE.out.symm, B.out⟩
set_option maxRecDepth 1000000 in
set_option maxHeartbeats 1000000 in
theorem rAll (A : Option Addr) (n c : Nat) (l : List Ch) (w : World) (h : RdC w w.heap.size A n l) (hn : n ≤ 1000) :
    Calls Try.prog 22 #[.slice A n c] w fun e w' => e = .returned (.int .i64 (allE l)) ∧ Below w.heap.size w w' := by
  have R := Lib.hid h
  have HN := Lib.hid hn
  clear h hn
  go_enter Try.func22, Try.ntmps22
  go_wp2_with fail
  go_loopw [3] (fun s3 wr => ∃ k : Nat, k ≤ n ∧ s3 = .int .i64 (k : Int) ∧ Below w.heap.size w wr ∧ ∀ j, j < k → mayC (chAt l j) = true) (fun s3 _ => n - (intOf s3).toNat)
  case atStart => exact ⟨0, Nat.zero_le _, rfl, Below.refl _ _, fun _ h => absurd h (Nat.not_lt_zero _)⟩
  case round =>
    obtain ⟨k, hk, rfl, hbel, hb⟩ := hrel
    have HB := Lib.hid hb
    have B := Lib.hid hbel
    clear hb hbel
    by_cases hlt : k < n
    · have hltI : (k : Int) < (n : Int) := by omega
      have HLT : Hid (k < n) := hlt
      have hwk : IntKind.i64.wrap ((k : Int) + 1) = (k : Int) + 1 := by have := HN.out; rw [IntKind.wrap_i64]; omega
      obtain ⟨bb, o, rfl, x0, x1, x2, x3, x4⟩ := (R.out.below B.out).at_ hlt
      clear hk hlt
      go_wp2_with fail
      refine (rMay _ _ _ _ _ wr).mono ?_
      rintro e w1 ⟨rfl, hb⟩
      replace B := Lib.hid (B.out.trans (hb.mono B.out.size))
      clear hb x0 x1 x2 x3 x4
      obtain ⟨y, hy⟩ : ∃ y, mayC ⟨(chAt l k).id, (chAt l k).fr, (chAt l k).dst, (chAt l k).cap, (chAt l k).size⟩ = y := ⟨_, rfl⟩
      rw [hy]
      have HY : Hid (mayC (chAt l k) = y) := hy
      clear hy
      cases y
      · have HE : Hid (allE l = 2) := by
          show _ = _
          unfold allE
          rw [if_pos]
          rw [List.any_eq_true]
          have hkl : k < l.length := by rw [R.out.1]; exact HLT.out
          exact ⟨l[k], List.getElem_mem hkl, by rw [← chAt_lt hkl, HY.out]; rfl⟩
        go_wp2_with fail
        go_ret
        exact ⟨by rw [HE.out]; rfl, B.out⟩
      · go_wp2_with fail
        go_roundw
        case rel => exact ⟨k + 1, HLT.out, by go_num, B.out, fun j hj => by
          rcases Nat.lt_succ_iff_lt_or_eq.1 hj with h | rfl
          · exact HB.out j h
          · exact HY.out⟩
        case measure => have := HLT.out; simp [intOf]; omega
    · obtain rfl : k = n := by omega
      have hltI : ¬ (k : Int) < (k : Int) := by omega
      have HOK : Hid (l.any (fun c => !mayC c) = false) := by
        show _ = _
        rw [List.any_eq_false]
        intro x hx
        obtain ⟨i, hi, rfl⟩ := List.getElem_of_mem hx
        rw [← chAt_lt hi, HB.out i (by rw [R.out.1] at hi; exact hi)]
        simp
      clear hk hlt
      go_wp2_with fail
      clear hltI
      go_loopw [4] (fun s4 w2 => ∃ (j q : Nat), 1 ≤ j ∧ (j ≤ k ∨ j = 1) ∧ s4 = .int .i64 (j : Int) ∧ w2 = wr.drewN q ∧ ∀ i, i + 1 < j → (chAt l i).id < (chAt l (i + 1)).id) (fun s4 _ => k - (intOf s4).toNat)
      case atStart => exact ⟨1, 0, Nat.le_refl _, .inr rfl, rfl, rfl, fun _ h => by omega⟩
      case round =>
        obtain ⟨j, q, hj1, hj, rfl, rfl, hup⟩ := hrel
        have HUP := Lib.hid hup
        clear hup
        by_cases hlt : j < k
        · have hltI : (j : Int) < (k : Int) := by omega
          have HLT : Hid (j < k) := hlt
          have HJ1 : Hid (1 ≤ j) := hj1
          have hwk : IntKind.i64.wrap ((j : Int) + 1) = (j : Int) + 1 := by have := HN.out; rw [IntKind.wrap_i64]; omega
          obtain ⟨i, rfl⟩ : ∃ i, j = i + 1 := ⟨j - 1, by omega⟩
          have hwi : IntKind.i64.wrap (((i + 1 : Nat) : Int) - 1) = (i : Int) := by have := HN.out; have := HLT.out; rw [IntKind.wrap_i64]; omega
          obtain ⟨bb, o, rfl, x0, x1, x2, x3, x4⟩ := (R.out.below B.out).at_ hlt
          obtain ⟨bb', o', e', y0, y1, y2, y3, y4⟩ := (R.out.below B.out).at_ (j := i) (by omega)
          injection e' with e'
          injection e' with e1 e2
          subst e1; subst e2
          clear x1 x2 x3 x4 y1 y2 y3 y4 hlt hj hj1
          have hil : i < k := by have := HLT.out; omega
          have hil1 : i + 1 < k := HLT.out
          have hwi2 : IntKind.i64.wrap (i : Int) = (i : Int) := by have := HN.out; rw [IntKind.wrap_i64]; omega
          have hwi3 : IntKind.i64.wrap ((i : Int) + 1 - 1) = (i : Int) := by have := HN.out; rw [IntKind.wrap_i64]; omega
          have hilI : (i : Int) < (k : Int) := by omega
          have hwk3 : IntKind.i64.wrap ((i : Int) + 1 + 1) = (i : Int) + 1 + 1 := by have := HN.out; rw [IntKind.wrap_i64]; omega
          have hwk4 : wrap64 ((i : Int) + 1 + 1) = (i : Int) + 1 + 1 := by have := HN.out; unfold wrap64; omega
          by_cases hle : (chAt l (i + 1)).id ≤ (chAt l i).id
          · have HE : Hid (allE l = 100) := by
              show _ = _
              unfold allE
              rw [if_neg (by rw [HOK.out]; simp), if_neg ?_]
              intro ha
              have := ha i (by have := HLT.out; rw [R.out.1]; omega)
              omega
            go_wp2_with fail
            go_quiet (fail)
            go_wp2_with fail
            go_ret
            exact ⟨by rw [HE.out]; rfl, below_drewN (below_drewN B.out q) _⟩
          · have HGT := Lib.hid hle
            go_wp2_with fail
            go_quiet (fail)
            go_wp2_with fail
            go_roundw
            case rel => exact ⟨i + 1 + 1, _, by omega, .inl HLT.out, by go_num, rfl, fun x hx => by
              by_cases hxi : x = i
              · subst hxi; have := HGT.out; omega
              · exact HUP.out x (by omega)⟩
            case measure => have := HLT.out; simp [intOf]; omega
        · have hltI : ¬ (j : Int) < (k : Int) := by omega
          have HE : Hid (allE l = 0) := by
            show _ = _
            unfold allE
            rw [if_neg (by rw [HOK.out]; simp), if_pos ?_]
            intro i hi
            exact HUP.out i (by rw [R.out.1] at hi; omega)
          clear hj hlt
          go_wp2_with fail
          go_ret
          exact ⟨by rw [HE.out]; rfl, below_drewN B.out q⟩
end Go.Proofs.Ytkaobafgecoomaa
