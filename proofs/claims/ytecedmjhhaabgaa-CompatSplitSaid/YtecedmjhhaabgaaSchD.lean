/- Contracts of the document's own schedules (citadelref09): May, Whole, At, Ticks. -/
import Derived.Test.YtecedmjhhaabgaaSchM
import Derived.Test.YtecedmjhhaabgaaPairQ
namespace Go.Proofs.Ytecedmjhhaabgaa
open Go.RowKit
set_option linter.unusedVariables false
set_option linter.unusedSimpArgs false

theorem intsY : ZT Try.prog 34 3 := ⟨Try.underlying34, by kernel_rfl⟩

def DMayR (l : List Reg) (n : Nat) (w : World) (s3 s4 : Value) (wr : World) : Prop :=
  ∃ k : Nat, k ≤ n ∧ k ≤ 12 ∧ s4 = .int .i64 (k : Int) ∧ s3 = .int .i64 (sumW (l.take k)) ∧ (∀ x ∈ l.take k, okW x = true) ∧ wr = w
set_option maxRecDepth 1000000 in
set_option maxHeartbeats 1000000 in
theorem SchD.may (A : Option Addr) (n c : Nat) (l : List Reg) (w : World) (h : RdG w w.heap.size A n l) (hn : n ≤ 9223372036854775807) :
    Calls Try.prog 59 #[.slice A n c] w fun e w' => e = .returned (.bool (mayW l)) ∧ Below w.heap.size w w' := by
  have R := Lib.hid h
  have HN := Lib.hid hn
  clear h hn
  go_enter Try.func59, Try.ntmps59
  go_wp2
  go_loopw [3, 4] (fun s3 s4 wr => DMayR l n w s3 s4 wr) (fun _ s4 _ => n - (intOf s4).toNat)
  case atStart => exact ⟨0, Nat.zero_le _, Nat.zero_le _, rfl, rfl, fun x hx => (by cases hx), rfl⟩
  case round =>
    obtain ⟨k, hk, hk12, rfl, rfl, hok, rfl⟩ := hrel
    have HOK := Lib.hid hok
    clear hok
    by_cases hlt : k < n
    · obtain ⟨b, o, rfl, hbo, hc⟩ := R.out.2 (by omega)
      have c0 := (hc k hlt).1
      have c1 := (hc k hlt).2
      have hltI : (k : Int) < (n : Int) := by omega
      have HK : Hid (k < n) := hlt
      have HKL : Hid (k < l.length) := by (show _ < _); rw [R.out.1]; exact hlt
      clear hc hk hlt hbo
      by_cases h12 : (k : Int) ≥ 12
      · have HF : Hid (mayW l = false) := by
          show _ = _
          rw [Bool.eq_false_iff]; intro hm
          have := (mayW_iff.1 hm).2.1
          have := HKL.out
          omega
        clear hk12
        go_wp2
        go_ret
        exact ⟨by rw [HF.out]; rfl, Below.refl _ _⟩
      have hno : okW (rat l k) = false → Hid (mayW l = false) := fun h => by
        show _ = _
        rw [Bool.eq_false_iff]; intro hm
        rw [may_ok hm _ (rat_mem HKL.out)] at h
        cases h
      have hbad : ¬ (1 ≤ (rat l k).1 ∧ (rat l k).1 ≤ 64 ∧ 0 ≤ (rat l k).2 ∧ (rat l k).2 ≤ 6) → Hid (mayW l = false) := fun h => hno (by rw [Bool.eq_false_iff]; exact fun h' => h (okW_iff.1 h'))
      have HBAD := Lib.hid hbad
      clear hno hbad
      by_cases h1 : (rat l k).1 < 1
      · have HF := HBAD.out (by omega)
        clear hk12
        go_wp2
        go_ret
        exact ⟨by rw [HF.out]; rfl, Below.refl _ _⟩
      by_cases h2 : (rat l k).1 > 64
      · have HF := HBAD.out (by omega)
        clear hk12
        go_wp2
        go_ret
        exact ⟨by rw [HF.out]; rfl, Below.refl _ _⟩
      by_cases h3 : (rat l k).2 < 0
      · have HF := HBAD.out (by omega)
        clear hk12
        go_wp2
        go_ret
        exact ⟨by rw [HF.out]; rfl, Below.refl _ _⟩
      by_cases h4 : (rat l k).2 > 6
      · have HF := HBAD.out (by omega)
        clear hk12
        go_wp2
        go_ret
        exact ⟨by rw [HF.out]; rfl, Below.refl _ _⟩
      have HOK2 : Hid (∀ x ∈ l.take (k + 1), okW x = true) := by
        intro x hx
        rw [take_rat HKL.out, List.mem_append, List.mem_singleton] at hx
        rcases hx with hx | rfl
        · exact HOK.out x hx
        · exact okW_iff.2 ⟨by omega, by omega, by omega, by omega⟩
      have hsb := sumW_ge HOK.out
      have hkl : (l.take k).length ≤ k := by rw [List.length_take]; omega
      have hw : IntKind.i64.wrap (sumW (l.take k) + (rat l k).1) = sumW (l.take k) + (rat l k).1 := by rw [IntKind.wrap_i64]; omega
      have hwk : IntKind.i64.wrap ((k : Int) + 1) = (k : Int) + 1 := by rw [IntKind.wrap_i64]; omega
      have HSS := Lib.hid (sumW_succ HKL.out)
      have HK12 : Hid (k + 1 ≤ 12) := by (show _ ≤ _); omega
      clear hk12 hsb hkl
      go_wp2
      go_roundw
      case rel => exact ⟨k + 1, HK.out, HK12.out, by go_num, by rw [HSS.out], HOK2.out, rfl⟩
      case measure => have := HK.out; simp [intOf]; omega
    · obtain rfl : k = n := by omega
      have hltI : ¬ (k : Int) < (k : Int) := by omega
      rw [List.take_of_length_le (by rw [R.out.1]; exact Nat.le_refl _)] at HOK ⊢
      have HL : Hid (l.length ≤ 12) := by (show _ ≤ _); rw [R.out.1]; exact hk12
      have hge := (sumW_ge HOK.out).1
      by_cases h0 : sumW l > 0
      · have HNE : Hid (l.length ≠ 0) := by
          show _ ≠ _
          intro e
          rw [List.length_eq_zero_iff.1 e] at h0
          simp [sumW_nil] at h0
        clear hk hlt hk12 hge
        go_wp2
        all_goals (go_ret; refine ⟨ret_bool ?_, Below.refl _ _⟩; rw [Bool.eq_iff_iff, mayW_iff]; simp only [decide_eq_true_eq, Bool.and_eq_true, Bool.false_eq_true, false_iff, true_iff])
        all_goals first | exact ⟨fun h => ⟨HNE.out, HL.out, HOK.out, by omega⟩, fun h => ⟨by omega, h.2.2.2⟩⟩ | exact ⟨fun h => ⟨HNE.out, HL.out, HOK.out, by omega⟩, fun h => h.2.2.2⟩ | exact ⟨HNE.out, HL.out, HOK.out, by omega⟩ | exact fun h => by have := h.2.2.2; omega
      · have HF : Hid (mayW l = false) := by
          show _ = _
          rw [Bool.eq_false_iff]; intro hm
          have := may_pos hm
          omega
        clear hk hlt hk12 hge
        go_wp2
        go_ret
        exact ⟨by rw [HF.out]; rfl, Below.refl _ _⟩

def DWhR (l : List Reg) (n : Nat) (w : World) (s3 s4 : Value) (wr : World) : Prop :=
  ∃ k m : Nat, k ≤ n ∧ (0 < k → mayW l = true) ∧ s4 = .int .i64 (k : Int) ∧ wr.ownsRow w.heap.size 3 1 s3 m ((partsW (l.take k)).map iv) ∧ Below w.heap.size w wr
def DWhI (l : List Reg) (k : Nat) (w : World) (s3 s5 : Value) (wr : World) : Prop :=
  ∃ j m : Nat, (j : Int) ≤ (rat l k).1 ∧ s5 = .int .i64 (j : Int) ∧ wr.ownsRow w.heap.size 3 1 s3 m ((partsW (l.take k) ++ List.replicate j (rat l k).2).map iv) ∧ Below w.heap.size w wr
theorem parts_short' {l : List Reg} (hm : mayW l = true) {k j : Nat} (hk : k < l.length) (hj : (j : Int) ≤ (rat l k).1) : (partsW (l.take k) ++ List.replicate j (rat l k).2).length ≤ 64 := by
  have h1 := partsW_len (l := l.take k) fun x hx => may_ok hm x (List.mem_of_mem_take hx)
  have h2 := sumW_succ hk
  have h3 := (sumW_take_le (may_ok hm) (k + 1)).2
  have h4 := may_pos hm
  rw [List.length_append, List.length_replicate]
  omega
/-- What the document's At hands back: five numbers. -/
def RetA (w : World) (a : (Int × Int × Int × Int) × Int) (e : Ending) (w' : World) : Prop :=
  e = .returned (.tuple #[.int .i64 a.1.1, .int .i64 a.1.2.1, .int .i64 a.1.2.2.1, .int .i64 a.1.2.2.2, .int .i64 a.2]) ∧ Below w.heap.size w w'
theorem res_five {P : Program} {fn : Func} {p q r s u : Tmp} (h : fn.results = #[.tmp p, .tmp q, .tmp r, .tmp s, .tmp u]) (tmps : Array Value) (w : World) (a b c d e : Int) (hp : tmps.getD p undef = .int .i64 a) (hq : tmps.getD q undef = .int .i64 b) (hr : tmps.getD r undef = .int .i64 c) (hs : tmps.getD s undef = .int .i64 d) (hu : tmps.getD u undef = .int .i64 e) :
    (results fn tmps).run P w = .ok (.tuple #[.int .i64 a, .int .i64 b, .int .i64 c, .int .i64 d, .int .i64 e]) w := by
  have hp' : tmps[p]?.getD undef = .int .i64 a := by simpa using hp
  have hq' : tmps[q]?.getD undef = .int .i64 b := by simpa using hq
  have hr' : tmps[r]?.getD undef = .int .i64 c := by simpa using hr
  have hs' : tmps[s]?.getD undef = .int .i64 d := by simpa using hs
  have hu' : tmps[u]?.getD undef = .int .i64 e := by simpa using hu
  simp [results, h, hp', hq', hr', hs', hu']
def DAtR (l : List Reg) (n : Nat) (t : Int) (w1 : World) (s9 s10 : Value) (wr : World) : Prop :=
  ∃ k : Nat, k ≤ n ∧ s10 = .int .i64 (k : Int) ∧ s9 = .int .i64 (sumW (l.take k)) ∧ sumW (l.take k) ≤ t ∧ wr = w1
def DTiR (xs : List Int) (p : Int) (w1 : World) (s5 s7 : Value) (wr : World) : Prop :=
  ∃ k : Nat, k ≤ xs.length ∧ s7 = .int .i64 (k : Int) ∧ s5 = .int .i64 ((xs.take k).count p : Int) ∧ wr = w1
end Go.Proofs.Ytecedmjhhaabgaa
