/- Contracts of the program's schedule package: the library's ContainsFunc at windows, isWrong, sum, May, Frame. -/
import Derived.Test.YtdlhbggnhamenaaRegP
import Derived.Test.YtdlhbggnhamenaaSchM
import Derived.Test.YtdlhbggnhamenaaShelfS
namespace Go.Proofs.Ytdlhbggnhamenaa
open Go.RowKit
set_option linter.unusedVariables false
set_option linter.unusedSimpArgs false

def winV (r : Reg) : Value := .agg (regL r).toArray
set_option maxRecDepth 1000000 in
set_option maxHeartbeats 1000000 in
theorem Sch.index0 (g : Nat) (lb : Array Value) (A : Option Addr) (c : Nat) (w : World) :
    Calls Try.prog 22 #[.slice A 0 c, .func (.func g) #[] lb] w fun e w' => e = .returned (.int .i64 (-1)) ∧ Below w.heap.size w w' := by
  go_enter Try.func22, Try.ntmps22
  go_wp2
  go_loopw [5, 8] (fun _ s8 wr => s8 = .int .i64 0 ∧ wr = w) (fun _ _ _ => 0)
  case atStart => exact ⟨rfl, rfl⟩
  case round =>
    obtain ⟨rfl, rfl⟩ := hrel
    go_wp2
    go_ret
    exact ⟨rfl, Below.refl _ _⟩
/-- slices.IndexFunc at a slice of windows. -/
theorem Sch.index (g : Nat) (lb : Array Value) (eg : ∀ args w, (callFunc g args).run Try.prog w = .ok (.enter g args) w) (p : Reg → Bool) (A : Option Addr) (n c : Nat) (l : List Reg) (w : World)
    (hp : PredBelow Try.prog g lb winV p w) (h : RdG w w.heap.size A n l) (hn : n ≤ 9223372036854775807) :
    Calls Try.prog 22 #[.slice A n c, .func (.func g) #[] lb] w fun e w' => e = .returned (.int .i64 (idxR p l)) ∧ Below w.heap.size w w' := by
  rcases Nat.eq_zero_or_pos n with rfl | hpos
  · obtain rfl : l = [] := List.length_eq_zero_iff.1 h.1
    rw [show idxR p [] = -1 from rfl]
    exact Sch.index0 g lb A c w
  · obtain ⟨b, o, rfl, hb, hc⟩ := h.2 hpos
    have := AnyQ.slices_IndexFunc shIndexS 2 Try.isAgg35 Try.sizeOf35 regL (fun _ => rfl) p g lb eg b o n c l w hp (Nat.le_of_eq h.1.symm) hn hb (RdG.shelf h.1 hc)
    rw [List.take_of_length_le (Nat.le_of_eq h.1)] at this
    exact this
/-- slices.ContainsFunc at a slice of windows. -/
theorem Sch.contains (g : Nat) (lb : Array Value) (eg : ∀ args w, (callFunc g args).run Try.prog w = .ok (.enter g args) w) (p : Reg → Bool) (A : Option Addr) (n c : Nat) (l : List Reg) (w : World)
    (hp : PredBelow Try.prog g lb winV p w) (h : RdG w w.heap.size A n l) (hn : n ≤ 9223372036854775807) :
    Calls Try.prog 19 #[.slice A n c, .func (.func g) #[] lb] w fun e w' => e = .returned (.bool (l.any p)) ∧ Below w.heap.size w w' := by
  rcases Nat.eq_zero_or_pos n with rfl | hpos
  · obtain rfl : l = [] := List.length_eq_zero_iff.1 h.1
    go_enter Try.func19, Try.ntmps19
    go_wp2_with fail
    refine (Sch.index0 g lb A c w).mono ?_
    rintro e w1 ⟨rfl, hb⟩
    go_wp2_with fail
    go_ret
    exact ⟨rfl, hb⟩
  · obtain ⟨b, o, rfl, hb, hc⟩ := h.2 hpos
    have := AnyQ.slices_ContainsFunc shContainsS 2 Try.isAgg35 Try.sizeOf35 regL (fun _ => rfl) p g lb eg b o n c l w hp (Nat.le_of_eq h.1.symm) hn hb (RdG.shelf h.1 hc)
    rw [List.take_of_length_le (Nat.le_of_eq h.1)] at this
    exact this


set_option maxRecDepth 1000000 in
set_option maxHeartbeats 1000000 in
theorem Sch.isWrong (b s : Int) (w : World) :
    Calls Try.prog 20 #[.agg #[.int .i64 b, .int .i64 s]] w fun e w' => e = .returned (.bool (!okW (b, s))) ∧ Below w.heap.size w w' := by
  go_enter Try.func20, Try.ntmps20
  go_wp2
  all_goals (go_ret; refine ⟨ret_bool ?_, (Below.refl _ _).alloc (Nat.le_refl _) _⟩; rw [Bool.eq_iff_iff, Bool.not_eq_true', ← Bool.not_eq_true, okW_iff]; simp only [Bool.or_eq_true, decide_eq_true_eq, Bool.false_eq_true, false_iff, true_iff] at *; omega)
/-- isWrong, as ContainsFunc calls it. -/
theorem Sch.wrong (lb : Array Value) (w : World) (hl : lb = #[]) : PredBelow Try.prog 20 lb winV (fun x => !okW x) w := fun W x hb => by
  subst hl
  show Calls Try.prog 20 #[.agg #[.int .i64 x.1, .int .i64 x.2]] W _
  refine (Sch.isWrong x.1 x.2 W).mono ?_
  rintro e w1 ⟨rfl, hb'⟩
  exact ⟨rfl, hb.trans (hb'.mono hb.size)⟩

def SumR (l : List Reg) (n : Nat) (w : World) (s3 s8 : Value) (wr : World) : Prop :=
  ∃ k : Nat, k ≤ n ∧ s8 = .int .i64 (k : Int) ∧ s3 = .int .i64 (sumW (l.take k)) ∧ Below w.heap.size w wr
set_option maxRecDepth 1000000 in
set_option maxHeartbeats 1000000 in
theorem Sch.sum (A : Option Addr) (n c : Nat) (l : List Reg) (w : World) (h : RdG w w.heap.size A n l) (hn : n ≤ 12) (ok : ∀ x ∈ l, okW x = true) :
    Calls Try.prog 21 #[.slice A n c] w fun e w' => e = .returned (.int .i64 (sumW l)) ∧ Below w.heap.size w w' := by
  have R := Lib.hid h
  have HN := Lib.hid hn
  have OK := Lib.hid ok
  clear h hn ok
  go_enter Try.func21, Try.ntmps21
  go_wp2
  go_loopw [3, 5, 8] (fun s3 _ s8 wr => SumR l n w s3 s8 wr) (fun _ _ s8 _ => n - (intOf s8).toNat)
  case atStart => exact ⟨0, Nat.zero_le _, rfl, rfl, Below.refl _ _⟩
  case round =>
    obtain ⟨k, hk, rfl, rfl, hb⟩ := hrel
    have BB := Lib.hid hb
    clear hb
    by_cases hlt : k < n
    · obtain ⟨b, o, rfl, hbo, hc⟩ := (R.out.to BB.out).2 (by omega)
      have c0 := (hc k hlt).1
      have c1 := (hc k hlt).2
      have hltI : (k : Int) < (n : Int) := by omega
      have HK : Hid (k < n) := hlt
      have HS := Lib.hid (sumW_succ (l := l) (k := k) (by rw [R.out.1]; exact hlt))
      have h1 := sumW_take_le OK.out k
      have h2 := sumW_ge OK.out
      have h3 := okW_at OK.out (k := k) (by rw [R.out.1]; exact hlt)
      have h4 := R.out.1
      have h5 := HN.out
      have hw : IntKind.i64.wrap (sumW (l.take k) + (rat l k).1) = sumW (l.take k) + (rat l k).1 := by rw [IntKind.wrap_i64]; omega
      have hwk : IntKind.i64.wrap ((k : Int) + 1) = (k : Int) + 1 := by rw [IntKind.wrap_i64]; omega
      clear hc hk hlt hbo h1 h2 h3 h4 h5
      go_wp2
      go_roundw
      case rel => exact ⟨k + 1, HK.out, by go_num, by rw [HS.out], BB.out.alloc BB.out.size _⟩
      case measure => have := HK.out; simp [intOf]; omega
    · obtain rfl : k = n := by omega
      have hltI : ¬ (k : Int) < (k : Int) := by omega
      clear hk hlt
      rw [List.take_of_length_le (by rw [R.out.1]; exact Nat.le_refl _)]
      go_wp2
      go_ret
      exact ⟨rfl, BB.out⟩
set_option maxRecDepth 1000000 in
set_option maxHeartbeats 1000000 in
theorem Sch.may (A : Option Addr) (n c : Nat) (l : List Reg) (w : World) (h : RdG w w.heap.size A n l) (hn : n ≤ 9223372036854775807) :
    Calls Try.prog 10 #[.slice A n c] w fun e w' => e = .returned (.bool (mayW l)) ∧ Below w.heap.size w w' := by
  have R := Lib.hid h
  have HN := Lib.hid hn
  have eg : ∀ args w, (callFunc 20 args).run Try.prog w = .ok (.enter 20 args) w := enters_of Try.func20 (by kernel_rfl) rfl
  have EG := Lib.hid eg
  clear h hn eg
  by_cases h0 : n = 0
  · subst h0
    have HF : Hid (mayW l = false) := by
      show _ = _
      obtain rfl : l = [] := List.length_eq_zero_iff.1 R.out.1
      rfl
    go_enter Try.func10, Try.ntmps10
    go_wp2_with fail
    go_ret
    exact ⟨by rw [HF.out]; rfl, Below.refl _ _⟩
  have hz : ((n : Int) == 0) = false := by
    have : (n : Int) ≠ 0 := by omega
    simpa using this
  by_cases h12 : 12 < n
  · have h12I : (n : Int) > 12 := by omega
    have HF : Hid (mayW l = false) := by
      show _ = _
      rw [Bool.eq_false_iff]
      intro hm
      have := (mayW_iff.1 hm).2.1
      have := R.out.1
      omega
    clear h0 h12
    go_enter Try.func10, Try.ntmps10
    go_wp2_with fail
    go_ret
    exact ⟨by rw [HF.out]; rfl, Below.refl _ _⟩
  have h12I : ¬ (n : Int) > 12 := by omega
  have H12 : Hid (n ≤ 12 ∧ n ≠ 0) := by (show _ ∧ _); omega
  clear h0 h12
  go_enter Try.func10, Try.ntmps10
  go_wp2_with fail
  refine (Sch.contains _ _ EG.out _ A n c l _ (Sch.wrong _ _ rfl) R.out HN.out).mono ?_
  rintro e w1 ⟨rfl, hb⟩
  have B := Lib.hid hb
  clear hb
  cases ha : l.any (fun x => !okW x)
  · have OK : Hid (∀ x ∈ l, okW x = true) := by
      intro x hx
      have := List.any_eq_false.1 ha x hx
      simpa using this
    clear ha
    go_wp2_with fail
    refine (Sch.sum A n c l w1 (R.out.to B.out) H12.out.1 OK.out).mono ?_
    rintro e w2 ⟨rfl, hb⟩
    replace B := Lib.hid (B.out.trans (hb.mono B.out.size))
    clear hb
    go_wp2_with fail
    all_goals (go_ret; refine ⟨ret_bool ?_, B.out⟩; rw [Bool.eq_iff_iff, mayW_iff]; have := H12.out; have := R.out.1; have := OK.out; simp only [decide_eq_true_eq, Bool.false_eq_true, false_iff, true_iff] at *; first | exact ⟨fun _ => ⟨by omega, by omega, OK.out, by omega⟩, fun _ => by omega⟩ | exact ⟨fun _ => ⟨by omega, by omega, OK.out, by omega⟩, fun h => h.2.2.2⟩ | skip)
  · have HF : Hid (mayW l = false) := by
      show _ = _
      rw [Bool.eq_false_iff]
      intro hm
      obtain ⟨x, hx, hn⟩ := List.any_eq_true.1 ha
      have := may_ok hm x hx
      rw [this] at hn
      cases hn
    clear ha
    go_wp2_with fail
    go_ret
    exact ⟨by rw [HF.out]; rfl, B.out⟩
set_option maxRecDepth 1000000 in
set_option maxHeartbeats 1000000 in
theorem Sch.frame (A : Option Addr) (n c : Nat) (l : List Reg) (w : World) (h : RdG w w.heap.size A n l) (hn : n ≤ 9223372036854775807) :
    Calls Try.prog 12 #[.slice A n c] w fun e w' => e = .returned (.int .i64 (frameW l)) ∧ Below w.heap.size w w' := by
  have R := Lib.hid h
  have HN := Lib.hid hn
  clear h hn
  go_enter Try.func12, Try.ntmps12
  go_wp2_with fail
  refine (Sch.may A n c l w R.out HN.out).mono ?_
  rintro e w1 ⟨rfl, hb⟩
  have B := Lib.hid hb
  clear hb
  cases hm : mayW l
  · have HF := Lib.hid (frameW_not hm)
    clear hm
    go_wp2_with fail
    go_ret
    exact ⟨by rw [HF.out]; rfl, B.out⟩
  · have HF := Lib.hid (frameW_may hm)
    have HM := Lib.hid hm
    clear hm
    go_wp2_with fail
    refine (Sch.sum A n c l w1 (R.out.to B.out) (by have := (mayW_iff.1 HM.out).2.1; have := R.out.1; omega) (may_ok HM.out)).mono ?_
    rintro e w2 ⟨rfl, hb⟩
    go_wp2_with fail
    go_ret
    exact ⟨by rw [HF.out]; rfl, B.out.trans (hb.mono B.out.size)⟩
end Go.Proofs.Ytdlhbggnhamenaa
