/- Contracts of the document's own functions of layer 10, part one: in, May, MayQueue, Same, All. -/
import Derived.Test.YtecedmjhhaabgaaChTq
namespace Go.Proofs.Ytecedmjhhaabgaa
open Go.RowKit
set_option linter.unusedVariables false
set_option linter.unusedSimpArgs false

def btw (n lo hi : Int) : Bool := decide (lo ≤ n) && decide (n ≤ hi)
theorem btw_iff {n lo hi : Int} : btw n lo hi = true ↔ lo ≤ n ∧ n ≤ hi := by simp [btw]
set_option maxRecDepth 1000000 in
set_option maxHeartbeats 1000000 in
theorem rIn (n lo hi : Int) (w : World) : Calls Try.prog 85 #[.int .i64 n, .int .i64 lo, .int .i64 hi] w fun e w' => e = .returned (.bool (btw n lo hi)) ∧ w = w' := by
  go_enter Try.func85, Try.ntmps85
  go_wp2
  all_goals (go_ret; refine ⟨ret_bool ?_, rfl⟩; rw [Bool.eq_iff_iff, btw_iff]; simp only [decide_eq_true_eq, Bool.false_eq_true, false_iff] at *; omega)
set_option maxRecDepth 1000000 in
set_option maxHeartbeats 1000000 in
theorem rMay (a b d e s : Int) (w : World) :
    Calls Try.prog 75 #[.agg #[.int .i64 a, .int .i64 b, .int .i64 d, .int .i64 e, .int .i64 s]] w fun x w' => x = .returned (.bool (mayC ⟨a, b, d, e, s⟩)) ∧ Below w.heap.size w w' := by
  have BB := Lib.hid ((Below.refl w.heap.size w).alloc (Nat.le_refl _) (.cells #[.int .i64 a, .int .i64 b, .int .i64 d, .int .i64 e, .int .i64 s] 47))
  go_enter Try.func75, Try.ntmps75
  go_wp2_with fail
  refine (rIn _ _ _ _).mono ?_
  rintro x w1 ⟨rfl, rfl⟩
  cases h1 : btw a 1 8
  ·
    have HF : Hid (false = mayC ⟨a, b, d, e, s⟩) := by
      show _ = _
      rw [eq_comm, ← Bool.not_eq_true, mayC_iff]
      rw [← Bool.not_eq_true, btw_iff] at h1
      simp only; omega
    clear h1
    go_wp2_with fail
    go_ret
    refine ⟨ret_bool ?_, BB.out⟩
    exact HF.out
  have H1 := Lib.hid (btw_iff.1 h1)
  clear h1
  go_wp2_with fail
  refine (rIn _ _ _ _).mono ?_
  rintro x w1 ⟨rfl, rfl⟩
  cases h1 : btw b 1 6
  ·
    have HF : Hid (false = mayC ⟨a, b, d, e, s⟩) := by
      show _ = _
      rw [eq_comm, ← Bool.not_eq_true, mayC_iff]
      rw [← Bool.not_eq_true, btw_iff] at h1
      simp only; omega
    clear h1
    go_wp2_with fail
    go_ret
    refine ⟨ret_bool ?_, BB.out⟩
    exact HF.out
  have H2 := Lib.hid (btw_iff.1 h1)
  clear h1
  go_wp2_with fail
  refine (rIn _ _ _ _).mono ?_
  rintro x w1 ⟨rfl, rfl⟩
  cases h1 : btw d 1 6
  ·
    have HF : Hid (false = mayC ⟨a, b, d, e, s⟩) := by
      show _ = _
      rw [eq_comm, ← Bool.not_eq_true, mayC_iff]
      rw [← Bool.not_eq_true, btw_iff] at h1
      simp only; omega
    clear h1
    go_wp2_with fail
    go_ret
    refine ⟨ret_bool ?_, BB.out⟩
    exact HF.out
  have H3 := Lib.hid (btw_iff.1 h1)
  clear h1
  by_cases hbd : b = d
  · have HF : Hid (false = mayC ⟨a, b, d, e, s⟩) := by
      show _ = _
      rw [eq_comm, ← Bool.not_eq_true, mayC_iff]
      simp only; omega
    subst hbd
    go_wp2_with fail
    go_ret
    refine ⟨ret_bool ?_, BB.out⟩
    exact HF.out
  have HBD := Lib.hid hbd
  go_wp2_with fail
  refine (rIn _ _ _ _).mono ?_
  rintro x w1 ⟨rfl, rfl⟩
  cases h1 : btw e 1 4
  ·
    have HF : Hid (false = mayC ⟨a, b, d, e, s⟩) := by
      show _ = _
      rw [eq_comm, ← Bool.not_eq_true, mayC_iff]
      rw [← Bool.not_eq_true, btw_iff] at h1
      simp only; omega
    clear h1
    go_wp2_with fail
    go_ret
    refine ⟨ret_bool ?_, BB.out⟩
    exact HF.out
  have H4 := Lib.hid (btw_iff.1 h1)
  clear h1
  go_wp2_with fail
  refine (rIn _ _ _ _).mono ?_
  rintro x w1 ⟨rfl, rfl⟩
  cases h1 : btw s 1 16
  ·
    have HF : Hid (false = mayC ⟨a, b, d, e, s⟩) := by
      show _ = _
      rw [eq_comm, ← Bool.not_eq_true, mayC_iff]
      rw [← Bool.not_eq_true, btw_iff] at h1
      simp only; omega
    clear h1
    go_wp2_with fail
    go_ret
    refine ⟨ret_bool ?_, BB.out⟩
    exact HF.out
  have HF : Hid (true = mayC ⟨a, b, d, e, s⟩) := by
    show _ = _
    have := H1.out; have := H2.out; have := H3.out; have := H4.out; have := HBD.out; have := btw_iff.1 h1
    rw [eq_comm, mayC_iff]
    simp only; omega
  clear h1
  go_wp2_with fail
  go_ret
  refine ⟨ret_bool ?_, BB.out⟩
  rw [← HF.out]; simpa using HBD.out
theorem any_false_at {c : Ch} {l : List (List UInt8)} (h : ∀ j, j < l.length → longM c (l.getD j []) = false) : l.any (longM c) = false := (firstLong_none h).2
theorem any_true_at {c : Ch} {l : List (List UInt8)} {i : Nat} (h : i < l.length) (hi : longM c (l.getD i []) = true) : l.any (longM c) = true := by
  rw [List.any_eq_true]
  exact ⟨l[i], List.getElem_mem h, by simpa [List.getD, List.getElem?_eq_getElem h] using hi⟩
set_option maxRecDepth 1000000 in
set_option maxHeartbeats 1000000 in
theorem rAll (A : Option Addr) (n c : Nat) (l : List Ch) (w : World) (h : RdC w w.heap.size A n l) (hn : n ≤ 1000) :
    Calls Try.prog 63 #[.slice A n c] w fun e w' => e = .returned (.int .i64 (allE l)) ∧ Below w.heap.size w w' := by
  have R := Lib.hid h
  have HN := Lib.hid hn
  clear h hn
  go_enter Try.func63, Try.ntmps63
  go_wp2_with fail
  go_loopw [3] (fun s3 wr => ∃ k : Nat, k ≤ n ∧ s3 = .int .i64 (k : Int) ∧ Below w.heap.size w wr ∧ ∀ j, j < k → mayC (chAt l j) = true) (fun s3 _ => n - (intOf s3).toNat)
  case atStart => exact ⟨0, Nat.zero_le _, rfl, Below.refl _ _, fun _ h => absurd h (Nat.not_lt_zero _)⟩
  case round =>
    obtain ⟨k, hk, rfl, hbel, hb⟩ := hrel
    have HB := Lib.hid hb
    have B := Lib.hid hbel
    clear hb hbel
    by_cases hlt : k < n
    · have hltI : (k : Int) < (n : Int) := by omega
      have HLT : Hid (k < n) := hlt
      have hwk : IntKind.i64.wrap ((k : Int) + 1) = (k : Int) + 1 := by have := HN.out; rw [IntKind.wrap_i64]; omega
      obtain ⟨bb, o, rfl, x0, x1, x2, x3, x4⟩ := (R.out.below B.out).at_ hlt
      clear hk hlt
      go_wp2_with fail
      refine (rMay _ _ _ _ _ wr).mono ?_
      rintro e w1 ⟨rfl, hb⟩
      replace B := Lib.hid (B.out.trans (hb.mono B.out.size))
      clear hb x0 x1 x2 x3 x4
      obtain ⟨y, hy⟩ : ∃ y, mayC ⟨(chAt l k).id, (chAt l k).fr, (chAt l k).dst, (chAt l k).cap, (chAt l k).size⟩ = y := ⟨_, rfl⟩
      rw [hy]
      have HY : Hid (mayC (chAt l k) = y) := hy
      clear hy
      cases y
      · have HE : Hid (allE l = 2) := by
          show _ = _
          unfold allE
          rw [if_pos]
          rw [List.any_eq_true]
          have hkl : k < l.length := by rw [R.out.1]; exact HLT.out
          exact ⟨l[k], List.getElem_mem hkl, by rw [← chAt_lt hkl, HY.out]; rfl⟩
        go_wp2_with fail
        go_ret
        exact ⟨by rw [HE.out]; rfl, B.out⟩
      · go_wp2_with fail
        go_roundw
        case rel => exact ⟨k + 1, HLT.out, by go_num, B.out, fun j hj => by
          rcases Nat.lt_succ_iff_lt_or_eq.1 hj with h | rfl
          · exact HB.out j h
          · exact HY.out⟩
        case measure => have := HLT.out; simp [intOf]; omega
    · obtain rfl : k = n := by omega
      have hltI : ¬ (k : Int) < (k : Int) := by omega
      have HOK : Hid (l.any (fun c => !mayC c) = false) := by
        show _ = _
        rw [List.any_eq_false]
        intro x hx
        obtain ⟨i, hi, rfl⟩ := List.getElem_of_mem hx
        rw [← chAt_lt hi, HB.out i (by rw [R.out.1] at hi; exact hi)]
        simp
      clear hk hlt
      go_wp2_with fail
      clear hltI
      go_loopw [4] (fun s4 w2 => ∃ (j q : Nat), 1 ≤ j ∧ (j ≤ k ∨ j = 1) ∧ s4 = .int .i64 (j : Int) ∧ w2 = wr.drewN q ∧ ∀ i, i + 1 < j → (chAt l i).id < (chAt l (i + 1)).id) (fun s4 _ => k - (intOf s4).toNat)
      case atStart => exact ⟨1, 0, Nat.le_refl _, .inr rfl, rfl, rfl, fun _ h => by omega⟩
      case round =>
        obtain ⟨j, q, hj1, hj, rfl, rfl, hup⟩ := hrel
        have HUP := Lib.hid hup
        clear hup
        by_cases hlt : j < k
        · have hltI : (j : Int) < (k : Int) := by omega
          have HLT : Hid (j < k) := hlt
          have HJ1 : Hid (1 ≤ j) := hj1
          have hwk : IntKind.i64.wrap ((j : Int) + 1) = (j : Int) + 1 := by have := HN.out; rw [IntKind.wrap_i64]; omega
          obtain ⟨i, rfl⟩ : ∃ i, j = i + 1 := ⟨j - 1, by omega⟩
          have hwi : IntKind.i64.wrap (((i + 1 : Nat) : Int) - 1) = (i : Int) := by have := HN.out; have := HLT.out; rw [IntKind.wrap_i64]; omega
          obtain ⟨bb, o, rfl, x0, x1, x2, x3, x4⟩ := (R.out.below B.out).at_ hlt
          obtain ⟨bb', o', e', y0, y1, y2, y3, y4⟩ := (R.out.below B.out).at_ (j := i) (by omega)
          injection e' with e'
          injection e' with e1 e2
          subst e1; subst e2
          clear x1 x2 x3 x4 y1 y2 y3 y4 hlt hj hj1
          have hil : i < k := by have := HLT.out; omega
          have hil1 : i + 1 < k := HLT.out
          have hwi2 : IntKind.i64.wrap (i : Int) = (i : Int) := by have := HN.out; rw [IntKind.wrap_i64]; omega
          have hwi3 : IntKind.i64.wrap ((i : Int) + 1 - 1) = (i : Int) := by have := HN.out; rw [IntKind.wrap_i64]; omega
          have hilI : (i : Int) < (k : Int) := by omega
          have hwk3 : IntKind.i64.wrap ((i : Int) + 1 + 1) = (i : Int) + 1 + 1 := by have := HN.out; rw [IntKind.wrap_i64]; omega
          have hwk4 : wrap64 ((i : Int) + 1 + 1) = (i : Int) + 1 + 1 := by have := HN.out; unfold wrap64; omega
          by_cases hle : (chAt l (i + 1)).id ≤ (chAt l i).id
          · have HE : Hid (allE l = 100) := by
              show _ = _
              unfold allE
              rw [if_neg (by rw [HOK.out]; simp), if_neg ?_]
              intro ha
              have := ha i (by have := HLT.out; rw [R.out.1]; omega)
              omega
            go_wp2_with fail
            go_quiet (fail)
            go_wp2_with fail
            go_ret
            exact ⟨by rw [HE.out]; rfl, below_drewN (below_drewN B.out q) _⟩
          · have HGT := Lib.hid hle
            go_wp2_with fail
            go_quiet (fail)
            go_wp2_with fail
            go_roundw
            case rel => exact ⟨i + 1 + 1, _, by omega, .inl HLT.out, by go_num, rfl, fun x hx => by
              by_cases hxi : x = i
              · subst hxi; have := HGT.out; omega
              · exact HUP.out x (by omega)⟩
            case measure => have := HLT.out; simp [intOf]; omega
        · have hltI : ¬ (j : Int) < (k : Int) := by omega
          have HE : Hid (allE l = 0) := by
            show _ = _
            unfold allE
            rw [if_neg (by rw [HOK.out]; simp), if_pos ?_]
            intro i hi
            exact HUP.out i (by rw [R.out.1] at hi; omega)
          clear hj hlt
          go_wp2_with fail
          go_ret
          exact ⟨by rw [HE.out]; rfl, below_drewN B.out q⟩
end Go.Proofs.Ytecedmjhhaabgaa
