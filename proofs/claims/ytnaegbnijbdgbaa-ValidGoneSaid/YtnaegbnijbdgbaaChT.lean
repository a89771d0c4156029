/- Contracts of the program's channel package, part three: Same (slices.EqualFunc with bytes.Equal), All (over slices.IndexFunc at channels). -/
import Derived.Test.YtnaegbnijbdgbaaChQ
import Derived.Lib.Bytealg
import Derived.Deep.Cut
namespace Go.Proofs.Ytnaegbnijbdgbaa
open Go.RowKit
set_option linter.unusedVariables false
set_option linter.unusedSimpArgs false

theorem rows_eq_len {l l' : List (List UInt8)} (h : l = l') : l.length = l'.length := by rw [h]
theorem rows_step {l l' : List (List UInt8)} {k : Nat} (h : k < l.length) (h' : k < l'.length) (ht : l.take k = l'.take k) (he : l.getD k [] = l'.getD k []) : l.take (k + 1) = l'.take (k + 1) := by
  rw [List.take_succ_eq_append_getElem h, List.take_succ_eq_append_getElem h', ht]
  simp [List.getD, List.getElem?_eq_getElem h, List.getElem?_eq_getElem h'] at he
  rw [he]
/-- Are two channels the same? -/
def eqC (x y : Ch) : Bool := decide (x = y)
theorem eqC_iff {x y : Ch} : eqC x y = true ↔ x = y := by simp [eqC]
theorem ch_guard : Try.prog.eqGuardType Try.prog.depth 51 = false := by kernel_rfl
theorem ch_eq (a b d e s a' b' d' e' s' : Int) (w : World) : (Op.equalIn 10000 51 (.agg #[.int .i64 a, .int .i64 b, .int .i64 d, .int .i64 e, .int .i64 s]) (.agg #[.int .i64 a', .int .i64 b', .int .i64 d', .int .i64 e', .int .i64 s'])).run Try.prog w = .ok (eqC ⟨a, b, d, e, s⟩ ⟨a', b', d', e', s'⟩) w := by
  unfold eqC
  have hS : Try.prog.underlying 51 = some (.struct (Try.prog.fieldsOf 51)) := by kernel_rfl
  have hp : Try.prog.stoodInHeld 51 = false := by kernel_rfl
  have u3 := Try.underlying3
  have a3 := Try.isAgg3
  have z3 := Try.sizeOf3
  rw [show (10000 : Nat) = 9999 + 1 from rfl, run_equalIn_agg w 9999 51 _ _ hS hp]
  simp only [Program.fieldsOf, Try.underlying51]
  go_simp
  by_cases h1 : a = a' <;> by_cases h2 : b = b' <;> by_cases h3 : d = d' <;> by_cases h4 : e = e' <;> by_cases h5 : s = s' <;> simp [h1, h2, h3, h4, h5]
def qu (a b d e s : Int) (v : Value) : Value := .agg #[.int .i64 a, .int .i64 b, .int .i64 d, .int .i64 e, .int .i64 s, v]
/-- Where the first channel stands that may not be; -1. -/
def firstBad (l : List Ch) : Int := match l.findIdx? (fun c => !mayC c) with | some i => (i : Int) | none => -1
theorem firstBad_at {l : List Ch} {i : Nat} (h : i < l.length) (hb : ∀ j, j < i → mayC (chAt l j) = true) (hi : mayC (chAt l i) = false) : firstBad l = (i : Int) := by
  have e : l.findIdx? (fun c => !mayC c) = some i := by
    rw [List.findIdx?_eq_some_iff_getElem]
    refine ⟨h, ?_, fun j hj => ?_⟩
    · rw [← chAt_lt h, hi]; rfl
    · rw [← chAt_lt (Nat.lt_trans hj h), hb j hj]; simp
  simp [firstBad, e]
theorem firstBad_none {l : List Ch} (hb : ∀ j, j < l.length → mayC (chAt l j) = true) : firstBad l = -1 := by
  have : l.findIdx? (fun c => !mayC c) = none := by
    rw [List.findIdx?_eq_none_iff]
    intro x hx
    obtain ⟨i, hi, rfl⟩ := List.getElem_of_mem hx
    rw [← chAt_lt hi, hb i hi]; rfl
  simp [firstBad, this]
def badC (l : List Ch) : Bool := l.any fun c => !mayC c
theorem firstBad_any (l : List Ch) : decide (firstBad l ≥ 0) = badC l := by
  unfold firstBad badC
  cases h : l.findIdx? (fun c => !mayC c) with
  | none =>
    rw [List.findIdx?_eq_none_iff] at h
    have : l.any (fun c => !mayC c) = false := by rw [List.any_eq_false]; intro x hx; simpa using h x hx
    rw [this]; rfl
  | some i =>
    rw [List.findIdx?_eq_some_iff_getElem] at h
    obtain ⟨hi, h1, _⟩ := h
    have : l.any (fun c => !mayC c) = true := by rw [List.any_eq_true]; exact ⟨_, List.getElem_mem hi, h1⟩
    rw [this]; simp
theorem badC_false {l : List Ch} (h : badC l = false) {j : Nat} (hj : j < l.length) : mayC (chAt l j) = true := by
  unfold badC at h
  rw [List.any_eq_false] at h
  have := h _ (List.getElem_mem hj)
  rw [chAt_lt hj]
  simpa using this
set_option maxRecDepth 1000000 in
set_option maxHeartbeats 1000000 in
theorem wBad (a b d e s : Int) (w : World) :
    Calls Try.prog 35 #[.agg #[.int .i64 a, .int .i64 b, .int .i64 d, .int .i64 e, .int .i64 s]] w fun x w' => x = .returned (.bool (!mayC ⟨a, b, d, e, s⟩)) ∧ Below w.heap.size w w' := by
  have B := Lib.hid ((Below.refl w.heap.size w).alloc (Nat.le_refl _) (.cells #[.int .i64 a, .int .i64 b, .int .i64 d, .int .i64 e, .int .i64 s] 51))
  go_enter Try.func35, Try.ntmps35
  go_wp2_with fail
  refine (wMay a b d e s _).mono ?_
  rintro x w1 ⟨rfl, hb⟩
  replace B := Lib.hid (B.out.trans (hb.mono B.out.size))
  obtain ⟨y, hy⟩ : ∃ y, mayC ⟨a, b, d, e, s⟩ = y := ⟨_, rfl⟩
  rw [hy]
  have HYY := Lib.hid hy
  clear hb hy
  go_wp2_with fail
  go_ret
  exact ⟨ret_bool (by rw [HYY.out]), B.out⟩
set_option maxRecDepth 1000000 in
set_option maxHeartbeats 1000000 in
theorem wIndexCh (A : Option Addr) (n c : Nat) (l : List Ch) (w : World) (h : RdC w w.heap.size A n l) (hn : n ≤ 1000) :
    Calls Try.prog 57 #[.slice A n c, .func (.func 35) #[] #[]] w fun e w' => e = .returned (.int .i64 (firstBad l)) ∧ Below w.heap.size w w' := by
  have R := Lib.hid h
  have HN := Lib.hid hn
  clear h hn
  go_enter Try.func57, Try.ntmps57
  go_wp2_with fail
  go_loopw [5, 8] (fun s5 s8 wr => ∃ k : Nat, k ≤ n ∧ s8 = .int .i64 (k : Int) ∧ Below w.heap.size w wr ∧ ∀ j, j < k → mayC (chAt l j) = true) (fun _ s8 _ => n - (intOf s8).toNat)
  case atStart => exact ⟨0, Nat.zero_le _, rfl, Below.refl _ _, fun _ h => absurd h (Nat.not_lt_zero _)⟩
  case round =>
    obtain ⟨k, hk, rfl, hbel, hb⟩ := hrel
    have HB := Lib.hid hb
    have B := Lib.hid hbel
    clear hb hbel
    by_cases hlt : k < n
    · have hltI : (k : Int) < (n : Int) := by omega
      have HLT : Hid (k < n) := hlt
      have hwk : IntKind.i64.wrap ((k : Int) + 1) = (k : Int) + 1 := by have := HN.out; rw [IntKind.wrap_i64]; omega
      obtain ⟨bb, o, rfl, x0, x1, x2, x3, x4⟩ := (R.out.below B.out).at_ hlt
      clear hk hlt
      go_wp2_with fail
      refine (wBad _ _ _ _ _ wr).mono ?_
      rintro e w1 ⟨rfl, hb⟩
      replace B := Lib.hid (B.out.trans (hb.mono B.out.size))
      clear hb x0 x1 x2 x3 x4
      obtain ⟨y, hy⟩ : ∃ y, mayC ⟨(chAt l k).id, (chAt l k).fr, (chAt l k).dst, (chAt l k).cap, (chAt l k).size⟩ = y := ⟨_, rfl⟩
      rw [hy]
      have HY : Hid (mayC (chAt l k) = y) := hy
      clear hy
      cases y
      · have HF := Lib.hid (firstBad_at (l := l) (i := k) (by rw [R.out.1]; exact HLT.out) HB.out HY.out)
        go_wp2_with fail
        go_ret
        exact ⟨by rw [HF.out]; rfl, B.out⟩
      · go_wp2_with fail
        go_roundw
        case rel => exact ⟨k + 1, HLT.out, by go_num, B.out, fun j hj => by
          rcases Nat.lt_succ_iff_lt_or_eq.1 hj with h | rfl
          · exact HB.out j h
          · exact HY.out⟩
        case measure => have := HLT.out; simp [intOf]; omega
    · obtain rfl : k = n := by omega
      have hltI : ¬ (k : Int) < (k : Int) := by omega
      have HF := Lib.hid (firstBad_none (l := l) (fun j hj => HB.out j (by rw [R.out.1] at hj; exact hj)))
      clear hk hlt
      go_wp2_with fail
      go_ret
      exact ⟨by rw [HF.out]; rfl, B.out⟩
set_option maxRecDepth 1000000 in
set_option maxHeartbeats 1000000 in
theorem wContainsC (A : Option Addr) (n c : Nat) (l : List Ch) (w : World) (h : RdC w w.heap.size A n l) (hn : n ≤ 1000) :
    Calls Try.prog 34 #[.slice A n c, .func (.func 35) #[] #[]] w fun e w' => e = .returned (.bool (badC l)) ∧ Below w.heap.size w w' := by
  have H := Lib.hid (wIndexCh A n c l w h hn)
  have HF := Lib.hid (firstBad_any l)
  clear h hn
  go_enter Try.func34, Try.ntmps34
  go_wp2_with fail
  refine H.out.mono ?_
  rintro e w1 ⟨rfl, hb⟩
  generalize firstBad l = f at *
  have B := Lib.hid hb
  clear hb
  go_wp2_with fail
  all_goals (go_ret; refine ⟨ret_bool ?_, B.out⟩; rw [← HF.out]; try simp_all)
/-- The IDs of the first k channels ascend, and are above 0. -/
def upTo (l : List Ch) (k : Nat) : Prop := ∀ j, j + 1 < k → (chAt l j).id < (chAt l (j + 1)).id
theorem upTo_all (l : List Ch) : upTo l l.length ↔ ascC l := Iff.rfl
set_option maxRecDepth 1000000 in
set_option maxHeartbeats 1000000 in
theorem wAll (A : Option Addr) (n c : Nat) (l : List Ch) (w : World) (h : RdC w w.heap.size A n l) (hn : n ≤ 1000) :
    Calls Try.prog 17 #[.slice A n c] w fun e w' => e = .returned (.int .i64 (allE l)) ∧ Below w.heap.size w w' := by
  have R := Lib.hid h
  have HN := Lib.hid hn
  clear h hn
  go_enter Try.func17, Try.ntmps17
  go_wp2_with fail
  refine (wContainsC A n c l w R.out HN.out).mono ?_
  rintro e w1 ⟨rfl, hb⟩
  have B := Lib.hid hb
  clear hb
  cases hy : badC l
  · have HY := Lib.hid hy
    clear hy
    go_wp2_with fail
    go_loopw [3, 10] (fun s3 s10 wr => ∃ k : Nat, k ≤ n ∧ s10 = .int .i64 (k : Int) ∧ s3 = .int .i64 (if k = 0 then 0 else (chAt l (k - 1)).id) ∧ Below w.heap.size w wr ∧ upTo l k) (fun _ s10 _ => n - (intOf s10).toNat)
    case atStart => exact ⟨0, Nat.zero_le _, rfl, rfl, B.out, fun _ h => by omega⟩
    case round =>
      obtain ⟨k, hk, rfl, rfl, hbel, hup⟩ := hrel
      clear B
      have B := Lib.hid hbel
      have HUP := Lib.hid hup
      clear hbel hup
      by_cases hlt : k < n
      · have hltI : (k : Int) < (n : Int) := by omega
        have HLT : Hid (k < n) := hlt
        have hwk : IntKind.i64.wrap ((k : Int) + 1) = (k : Int) + 1 := by have := HN.out; rw [IntKind.wrap_i64]; omega
        have HM := Lib.hid (badC_false HY.out (j := k) (by rw [R.out.1]; exact hlt))
        obtain ⟨bb, o, rfl, x0, x1, x2, x3, x4⟩ := (R.out.below B.out).at_ hlt
        obtain ⟨p, hp⟩ : ∃ p, (if k = 0 then 0 else (chAt l (k - 1)).id) = p := ⟨_, rfl⟩
        rw [hp]
        have HP := Lib.hid hp
        clear hp hk hlt
        replace B := Lib.hid (B.out.alloc B.out.size (.cells #[.int .i64 (chAt l k).id, .int .i64 (chAt l k).fr, .int .i64 (chAt l k).dst, .int .i64 (chAt l k).cap, .int .i64 (chAt l k).size] 51))
        by_cases hle : (chAt l k).id ≤ p
        · have HE : Hid (allE l = 100) := by
            show _ = _
            unfold allE
            rw [if_neg (by rw [show l.any (fun c => !mayC c) = badC l from rfl, HY.out]; simp), if_neg ?_]
            intro ha
            have hp := HP.out
            split at hp
            · have := (mayC_iff.1 HM.out).1; omega
            · rename_i hk0
              have := ha (k - 1) (by have := HLT.out; rw [R.out.1]; omega)
              rw [show k - 1 + 1 = k from by omega] at this
              omega
          go_wp2_with fail
          go_ret
          exact ⟨by rw [HE.out]; rfl, B.out⟩
        · have HGT := Lib.hid hle
          go_wp2_with fail
          go_roundw
          case rel => exact ⟨k + 1, HLT.out, by go_num, by rfl, B.out, fun j hj => by
            by_cases hjk : j + 1 < k
            · exact HUP.out j hjk
            · obtain rfl : k = j + 1 := by omega
              have h1 := HP.out
              have h2 := HGT.out
              rw [if_neg (by omega)] at h1
              rw [show j + 1 - 1 = j from rfl] at h1
              omega⟩
          case measure => have := HLT.out; simp [intOf]; omega
      · obtain rfl : k = n := by omega
        have hltI : ¬ (k : Int) < (k : Int) := by omega
        have HE : Hid (allE l = 0) := by
          show _ = _
          unfold allE
          rw [if_neg (by rw [show l.any (fun c => !mayC c) = badC l from rfl, HY.out]; simp), if_pos ?_]
          intro j hj
          exact HUP.out j (by rw [← R.out.1]; exact hj)
        clear hk hlt
        generalize (if k = 0 then 0 else (chAt l (k - 1)).id) = p at *
        go_wp2_with fail
        go_ret
        exact ⟨by rw [HE.out]; rfl, B.out⟩
  · have HE : Hid (allE l = 2) := by
      show _ = _
      unfold allE
      rw [if_pos (show l.any (fun c => !mayC c) = true from hy)]
    go_wp2_with fail
    go_ret
    exact ⟨by rw [HE.out]; rfl, B.out⟩
end Go.Proofs.Ytnaegbnijbdgbaa
