/- Contracts of the document's own schedules (citadelref09): May, Whole, At, Ticks. -/
import Derived.Test.YtdlhbggnhamenaaSchM
import Derived.Test.YtdlhbggnhamenaaPair
namespace Go.Proofs.Ytdlhbggnhamenaa
open Go.RowKit
set_option linter.unusedVariables false
set_option linter.unusedSimpArgs false

theorem intsY : ZT Try.prog 32 3 := ⟨Try.underlying32, by kernel_rfl⟩

def DMayR (l : List Reg) (n : Nat) (w : World) (s3 s4 : Value) (wr : World) : Prop :=
  ∃ k : Nat, k ≤ n ∧ k ≤ 12 ∧ s4 = .int .i64 (k : Int) ∧ s3 = .int .i64 (sumW (l.take k)) ∧ (∀ x ∈ l.take k, okW x = true) ∧ wr = w
set_option maxRecDepth 1000000 in
set_option maxHeartbeats 1000000 in
theorem SchD.may (A : Option Addr) (n c : Nat) (l : List Reg) (w : World) (h : RdG w w.heap.size A n l) (hn : n ≤ 9223372036854775807) :
    Calls Try.prog 11 #[.slice A n c] w fun e w' => e = .returned (.bool (mayW l)) ∧ Below w.heap.size w w' := by
  have R := Lib.hid h
  have HN := Lib.hid hn
  clear h hn
  go_enter Try.func11, Try.ntmps11
  go_wp2
  go_loopw [3, 4] (fun s3 s4 wr => DMayR l n w s3 s4 wr) (fun _ s4 _ => n - (intOf s4).toNat)
  case atStart => exact ⟨0, Nat.zero_le _, Nat.zero_le _, rfl, rfl, fun x hx => (by cases hx), rfl⟩
  case round =>
    obtain ⟨k, hk, hk12, rfl, rfl, hok, rfl⟩ := hrel
    have HOK := Lib.hid hok
    clear hok
    by_cases hlt : k < n
    · obtain ⟨b, o, rfl, hbo, hc⟩ := R.out.2 (by omega)
      have c0 := (hc k hlt).1
      have c1 := (hc k hlt).2
      have hltI : (k : Int) < (n : Int) := by omega
      have HK : Hid (k < n) := hlt
      have HKL : Hid (k < l.length) := by (show _ < _); rw [R.out.1]; exact hlt
      clear hc hk hlt hbo
      by_cases h12 : (k : Int) ≥ 12
      · have HF : Hid (mayW l = false) := by
          show _ = _
          rw [Bool.eq_false_iff]; intro hm
          have := (mayW_iff.1 hm).2.1
          have := HKL.out
          omega
        clear hk12
        go_wp2
        go_ret
        exact ⟨by rw [HF.out]; rfl, Below.refl _ _⟩
      have hno : okW (rat l k) = false → Hid (mayW l = false) := fun h => by
        show _ = _
        rw [Bool.eq_false_iff]; intro hm
        rw [may_ok hm _ (rat_mem HKL.out)] at h
        cases h
      have hbad : ¬ (1 ≤ (rat l k).1 ∧ (rat l k).1 ≤ 64 ∧ 0 ≤ (rat l k).2 ∧ (rat l k).2 ≤ 6) → Hid (mayW l = false) := fun h => hno (by rw [Bool.eq_false_iff]; exact fun h' => h (okW_iff.1 h'))
      have HBAD := Lib.hid hbad
      clear hno hbad
      by_cases h1 : (rat l k).1 < 1
      · have HF := HBAD.out (by omega)
        clear hk12
        go_wp2
        go_ret
        exact ⟨by rw [HF.out]; rfl, Below.refl _ _⟩
      by_cases h2 : (rat l k).1 > 64
      · have HF := HBAD.out (by omega)
        clear hk12
        go_wp2
        go_ret
        exact ⟨by rw [HF.out]; rfl, Below.refl _ _⟩
      by_cases h3 : (rat l k).2 < 0
      · have HF := HBAD.out (by omega)
        clear hk12
        go_wp2
        go_ret
        exact ⟨by rw [HF.out]; rfl, Below.refl _ _⟩
      by_cases h4 : (rat l k).2 > 6
      · have HF := HBAD.out (by omega)
        clear hk12
        go_wp2
        go_ret
        exact ⟨by rw [HF.out]; rfl, Below.refl _ _⟩
      have HOK2 : Hid (∀ x ∈ l.take (k + 1), okW x = true) := by
        intro x hx
        rw [take_rat HKL.out, List.mem_append, List.mem_singleton] at hx
        rcases hx with hx | rfl
        · exact HOK.out x hx
        · exact okW_iff.2 ⟨by omega, by omega, by omega, by omega⟩
      have hsb := sumW_ge HOK.out
      have hkl : (l.take k).length ≤ k := by rw [List.length_take]; omega
      have hw : IntKind.i64.wrap (sumW (l.take k) + (rat l k).1) = sumW (l.take k) + (rat l k).1 := by rw [IntKind.wrap_i64]; omega
      have hwk : IntKind.i64.wrap ((k : Int) + 1) = (k : Int) + 1 := by rw [IntKind.wrap_i64]; omega
      have HSS := Lib.hid (sumW_succ HKL.out)
      have HK12 : Hid (k + 1 ≤ 12) := by (show _ ≤ _); omega
      clear hk12 hsb hkl
      go_wp2
      go_roundw
      case rel => exact ⟨k + 1, HK.out, HK12.out, by go_num, by rw [HSS.out], HOK2.out, rfl⟩
      case measure => have := HK.out; simp [intOf]; omega
    · obtain rfl : k = n := by omega
      have hltI : ¬ (k : Int) < (k : Int) := by omega
      rw [List.take_of_length_le (by rw [R.out.1]; exact Nat.le_refl _)] at HOK ⊢
      have HL : Hid (l.length ≤ 12) := by (show _ ≤ _); rw [R.out.1]; exact hk12
      have hge := (sumW_ge HOK.out).1
      by_cases h0 : sumW l > 0
      · have HNE : Hid (l.length ≠ 0) := by
          show _ ≠ _
          intro e
          rw [List.length_eq_zero_iff.1 e] at h0
          simp [sumW_nil] at h0
        clear hk hlt hk12 hge
        go_wp2
        all_goals (go_ret; refine ⟨ret_bool ?_, Below.refl _ _⟩; rw [Bool.eq_iff_iff, mayW_iff]; simp only [decide_eq_true_eq, Bool.and_eq_true, Bool.false_eq_true, false_iff, true_iff])
        all_goals first | exact ⟨fun h => ⟨HNE.out, HL.out, HOK.out, by omega⟩, fun h => ⟨by omega, h.2.2.2⟩⟩ | exact ⟨fun h => ⟨HNE.out, HL.out, HOK.out, by omega⟩, fun h => h.2.2.2⟩ | exact ⟨HNE.out, HL.out, HOK.out, by omega⟩ | exact fun h => by have := h.2.2.2; omega
      · have HF : Hid (mayW l = false) := by
          show _ = _
          rw [Bool.eq_false_iff]; intro hm
          have := may_pos hm
          omega
        clear hk hlt hk12 hge
        go_wp2
        go_ret
        exact ⟨by rw [HF.out]; rfl, Below.refl _ _⟩

def DWhR (l : List Reg) (n : Nat) (w : World) (s3 s4 : Value) (wr : World) : Prop :=
  ∃ k m : Nat, k ≤ n ∧ (0 < k → mayW l = true) ∧ s4 = .int .i64 (k : Int) ∧ wr.ownsRow w.heap.size 3 1 s3 m ((partsW (l.take k)).map iv) ∧ Below w.heap.size w wr
def DWhI (l : List Reg) (k : Nat) (w : World) (s3 s5 : Value) (wr : World) : Prop :=
  ∃ j m : Nat, (j : Int) ≤ (rat l k).1 ∧ s5 = .int .i64 (j : Int) ∧ wr.ownsRow w.heap.size 3 1 s3 m ((partsW (l.take k) ++ List.replicate j (rat l k).2).map iv) ∧ Below w.heap.size w wr
theorem parts_short' {l : List Reg} (hm : mayW l = true) {k j : Nat} (hk : k < l.length) (hj : (j : Int) ≤ (rat l k).1) : (partsW (l.take k) ++ List.replicate j (rat l k).2).length ≤ 64 := by
  have h1 := partsW_len (l := l.take k) fun x hx => may_ok hm x (List.mem_of_mem_take hx)
  have h2 := sumW_succ hk
  have h3 := (sumW_take_le (may_ok hm) (k + 1)).2
  have h4 := may_pos hm
  rw [List.length_append, List.length_replicate]
  omega
set_option maxRecDepth 1000000 in
set_option maxHeartbeats 1000000 in
theorem SchD.whole (A : Option Addr) (n c : Nat) (l : List Reg) (w : World) (h : RdG w w.heap.size A n l) (hn : n ≤ 9223372036854775807) :
    Calls Try.prog 13 #[.slice A n c] w fun e w' => RetZ 3 w (wholeW l) e w' := by
  have R := Lib.hid h
  have HN := Lib.hid hn
  clear h hn
  go_enter Try.func13, Try.ntmps13
  go_wp2_with fail
  go_loopw [3, 4, 5] (fun s3 s4 _ wr => DWhR l n w s3 s4 wr) (fun _ s4 _ _ => n - (intOf s4).toNat)
  case atStart => exact ⟨0, 0, Nat.zero_le _, fun h => absurd h (Nat.lt_irrefl 0), rfl, ⟨rfl, .inl ⟨rfl, rfl⟩⟩, Below.refl _ _⟩
  case round =>
    obtain ⟨k, m, hk, hkm, rfl, hown, hb⟩ := hrel
    have B := Lib.hid hb
    have OWN := Lib.hid hown
    have HKM := Lib.hid hkm
    clear hb hown hkm
    by_cases hlt : k < n
    · have hltI : (k : Int) < (n : Int) := by omega
      have HK : Hid (k < n) := hlt
      have HKL : Hid (k < l.length) := by (show _ < _); rw [R.out.1]; exact hlt
      clear hk hlt
      go_wp2_with fail
      refine (SchD.may A n c l wr ((R.out.below B.out).more B.out.size) HN.out).mono ?_
      rintro e w1 ⟨rfl, hb⟩
      replace OWN := Lib.hid (own_below OWN.out hb)
      replace B := Lib.hid (B.out.trans (hb.mono B.out.size))
      clear hb
      cases hm : mayW l
      · have HF := Lib.hid (wholeW_not hm)
        have hk0 : k = 0 := by
          rcases Nat.eq_zero_or_pos k with g | g
          · exact g
          · rw [HKM.out g] at hm; cases hm
        subst hk0
        clear hm
        go_wp2_with fail
        go_ret
        refine RetZ.mk (n := m) ?_ B.out
        rw [HF.out]
        exact OWN.out
      have HM := Lib.hid hm
      have H12 : Hid (n ≤ 12) := by (show _ ≤ _); rw [← R.out.1]; exact (mayW_iff.1 hm).2.1
      have HP := Lib.hid (okW_at (may_ok hm) HKL.out)
      have hwk : IntKind.i64.wrap ((k : Int) + 1) = (k : Int) + 1 := by have := H12.out; have := HK.out; rw [IntKind.wrap_i64]; omega
      clear hm
      go_wp2_with fail
      go_loopw [3, 5] (fun s3 s5 wr => DWhI l k w s3 s5 wr) (fun _ s5 _ => (rat l k).1.toNat - (intOf s5).toNat)
      case atStart => exact ⟨0, m, by have := HP.out; omega, rfl, by rw [List.replicate_zero, List.append_nil]; exact OWN.out, B.out⟩
      case round =>
        obtain ⟨j, q, hj, rfl, hown, hb⟩ := hrel
        replace B := Lib.hid hb
        replace OWN := Lib.hid hown
        clear hb hown
        obtain ⟨b, o, rfl, hbo, hc⟩ := ((R.out.below B.out).more B.out.size).2 (by have := HK.out; omega)
        have c0 := (hc k HK.out).1
        have c1 := (hc k HK.out).2
        clear hc hbo
        by_cases hjl : (j : Int) < (rat l k).1
        · have HJ : Hid ((j : Int) < (rat l k).1) := hjl
          have HS := Lib.hid (parts_short' HM.out HKL.out hj)
          have hwj : IntKind.i64.wrap ((j : Int) + 1) = (j : Int) + 1 := by have := HP.out; rw [IntKind.wrap_i64]; omega
          have HQ : Hid (q + 1 ≤ 17592186044416) := by
            show _ ≤ _
            have h1 := HS.out
            have h2 := OWN.out.1
            rw [List.length_map] at h2
            omega
          clear hj
          go_wp2_with (at_builtin; refine wpList_pushZ intsY rfl (.tmp 25) (.tmp 31) rfl rfl rfl OWN.out B.out B.out.size HQ.out ?_; intro v' w2 hown2 hb2 hs2; clear c0 c1)
          go_roundw
          case rel =>
            refine ⟨j + 1, q + 1, by have := HJ.out; push_cast; omega, by go_num, ?_, hb2⟩
            rw [List.replicate_succ', ← List.append_assoc]; exact hown2
          case measure => have := HJ.out; simp [intOf]; omega
        · have HE : Hid ((j : Int) = (rat l k).1) := by (show _ = _); omega
          clear hj
          go_wp2
          go_roundw
          case rel =>
            refine ⟨k + 1, q, HK.out, fun _ => HM.out, by go_num, ?_, B.out⟩
            rw [partsW_succ HKL.out, show (rat l k).1.toNat = j from by have := HE.out; omega]; exact OWN.out
          case measure => have := HK.out; simp [intOf]; omega
    · obtain rfl : k = n := by omega
      have hltI : ¬ (k : Int) < (k : Int) := by omega
      have HE : Hid (wholeW l = partsW l) := by
        show _ = _
        rcases Nat.eq_zero_or_pos k with g | g
        · have := R.out.1
          rw [List.length_eq_zero_iff.1 (this.trans g)]; rfl
        · exact wholeW_may (HKM.out g)
      clear hk hlt
      rw [List.take_of_length_le (by rw [R.out.1]; exact Nat.le_refl _)] at OWN
      go_wp2
      go_ret
      refine RetZ.mk (n := m) ?_ B.out
      rw [HE.out]
      exact OWN.out

/-- What the document's At hands back: five numbers. -/
def RetA (w : World) (a : (Int × Int × Int × Int) × Int) (e : Ending) (w' : World) : Prop :=
  e = .returned (.tuple #[.int .i64 a.1.1, .int .i64 a.1.2.1, .int .i64 a.1.2.2.1, .int .i64 a.1.2.2.2, .int .i64 a.2]) ∧ Below w.heap.size w w'
theorem res_five {P : Program} {fn : Func} {p q r s u : Tmp} (h : fn.results = #[.tmp p, .tmp q, .tmp r, .tmp s, .tmp u]) (tmps : Array Value) (w : World) (a b c d e : Int) (hp : tmps.getD p undef = .int .i64 a) (hq : tmps.getD q undef = .int .i64 b) (hr : tmps.getD r undef = .int .i64 c) (hs : tmps.getD s undef = .int .i64 d) (hu : tmps.getD u undef = .int .i64 e) :
    (results fn tmps).run P w = .ok (.tuple #[.int .i64 a, .int .i64 b, .int .i64 c, .int .i64 d, .int .i64 e]) w := by
  have hp' : tmps[p]?.getD undef = .int .i64 a := by simpa using hp
  have hq' : tmps[q]?.getD undef = .int .i64 b := by simpa using hq
  have hr' : tmps[r]?.getD undef = .int .i64 c := by simpa using hr
  have hs' : tmps[s]?.getD undef = .int .i64 d := by simpa using hs
  have hu' : tmps[u]?.getD undef = .int .i64 e := by simpa using hu
  simp [results, h, hp', hq', hr', hs', hu']
def DAtR (l : List Reg) (n : Nat) (t : Int) (w1 : World) (s9 s10 : Value) (wr : World) : Prop :=
  ∃ k : Nat, k ≤ n ∧ s10 = .int .i64 (k : Int) ∧ s9 = .int .i64 (sumW (l.take k)) ∧ sumW (l.take k) ≤ t ∧ wr = w1
set_option maxRecDepth 1000000 in
set_option maxHeartbeats 1000000 in
theorem SchD.stand (A : Option Addr) (n c : Nat) (l : List Reg) (t : Int) (w : World) (h : RdG w w.heap.size A n l) (hn : n ≤ 9223372036854775807) :
    Calls Try.prog 9 #[.slice A n c, .int .i64 t] w fun e w' => RetA w (atW l t) e w' := by
  have R := Lib.hid h
  have HN := Lib.hid hn
  clear h hn
  by_cases h0 : t < 0
  · have HO := Lib.hid (atW_out (l := l) (.inl h0))
    go_enter Try.func9, Try.ntmps9
    go_wp2_with fail
    exact bodyPost_ret (res_five rfl _ _ 0 0 0 0 90 rfl rfl rfl rfl rfl) rfl ⟨by rw [HO.out], Below.refl _ _⟩
  have H0 : Hid (0 ≤ t) := by (show _ ≤ _); omega
  go_enter Try.func9, Try.ntmps9
  go_wp2_with fail
  refine (SchD.whole A n c l w R.out HN.out).mono ?_
  rintro e w1 ⟨A1, n1, c1, rfl, hown, hb⟩
  have B := Lib.hid hb
  have hn1 : (n1 : Int) = frameW l := by
    have := hown.1
    rw [List.length_map] at this
    have := wholeW_len l
    omega
  replace R := Lib.hid (R.out.to hb)
  clear hb hown
  rcases at_cases l t with ho | ⟨_, hlt, hm, i, hi, ha⟩
  · have HO := Lib.hid (atW_out ho)
    have hge : t ≥ (n1 : Int) := by omega
    clear ho hn1
    go_wp2_with fail
    exact bodyPost_ret (res_five rfl _ _ 0 0 0 0 90 rfl rfl rfl rfl rfl) rfl ⟨by rw [HO.out], B.out⟩
  · have HA := Lib.hid ha
    have HM := Lib.hid hm
    have HI := Lib.hid hi
    have HT : Hid (t ≤ 64) := by (show _ ≤ _); have := frameW_range l; omega
    have hge : ¬ t ≥ (n1 : Int) := by omega
    clear hlt hm hi ha hn1
    go_wp2_with fail
    go_loopw [9, 10] (fun s9 s10 wr => DAtR l n t w1 s9 s10 wr) (fun _ s10 _ => n - (intOf s10).toNat)
    case atStart => exact ⟨0, Nat.zero_le _, rfl, rfl, H0.out, rfl⟩
    case round =>
      obtain ⟨k, hk, rfl, rfl, hs, rfl⟩ := hrel
      have hlt : k < n := by
        rcases Nat.lt_or_ge k n with g | g
        · exact g
        · obtain ⟨_, _, h2⟩ := HI.out
          have h3 := (sumW_take_le (may_ok HM.out) (i + 1)).2
          rw [List.take_of_length_le (by rw [R.out.1]; exact g)] at hs
          omega
      obtain ⟨b, o, rfl, hbo, hc⟩ := R.out.2 (by omega)
      have c0 := (hc k hlt).1
      have c1 := (hc k hlt).2
      have hltI : (k : Int) < (n : Int) := by omega
      have HK : Hid (k < n) := hlt
      have hkl : k < l.length := by rw [R.out.1]; exact hlt
      have HKL := Lib.hid hkl
      have HSS := Lib.hid (sumW_succ hkl)
      have hsb := sumW_take_le (may_ok HM.out) k
      have hsf := may_pos HM.out
      have hp := okW_at (may_ok HM.out) hkl
      have ht := HT.out
      have ht0 := H0.out
      have hw1 : IntKind.i64.wrap (t - sumW (l.take k)) = t - sumW (l.take k) := by rw [IntKind.wrap_i64]; omega
      have HS := Lib.hid hs
      by_cases hin : t - sumW (l.take k) < (rat l k).1
      · have hik : i = k := stands_unique (may_ok HM.out) HI.out ⟨hkl, hs, by rw [HSS.out]; omega⟩
        have hw2 : IntKind.i64.wrap ((rat l k).1 - (t - sumW (l.take k))) = (rat l k).1 - (t - sumW (l.take k)) := by rw [IntKind.wrap_i64]; omega
        have HSL : Hid (slotW l t i = ((k : Int), (rat l k).2, sumW (l.take k), (rat l k).1 - (t - sumW (l.take k)))) := by
          show _ = _
          subst hik
          unfold slotW
          rw [HSS.out]
          congr 3
          omega
        clear hc hk hlt hbo hkl hs hsb hsf hp ht ht0 hik
        go_wp2_with fail
        go_quiet (fail)
        go_wp2_with fail
        refine bodyPost_ret (res_five rfl _ _ _ _ _ _ 0 rfl rfl rfl rfl rfl) rfl ⟨by rw [HA.out, HSL.out], ?_⟩
        first | exact B.out | exact B.out.drew | exact below_drewN B.out _
      · have HLE : Hid (sumW (l.take (k + 1)) ≤ t) := by (show _ ≤ _); rw [HSS.out]; omega
        have hw3 : IntKind.i64.wrap (sumW (l.take k) + (rat l k).1) = sumW (l.take k) + (rat l k).1 := by rw [IntKind.wrap_i64]; omega
        have hwk : IntKind.i64.wrap ((k : Int) + 1) = (k : Int) + 1 := by have := (mayW_iff.1 HM.out).2.1; rw [IntKind.wrap_i64]; omega
        clear hc hk hlt hbo hkl hs hsb hsf hp ht ht0
        go_wp2_with fail
        go_roundw
        case rel => exact ⟨k + 1, HK.out, by go_num, by rw [HSS.out], HLE.out, rfl⟩
        case measure => have := HK.out; simp [intOf]; omega

def DTiR (xs : List Int) (p : Int) (w1 : World) (s5 s7 : Value) (wr : World) : Prop :=
  ∃ k : Nat, k ≤ xs.length ∧ s7 = .int .i64 (k : Int) ∧ s5 = .int .i64 ((xs.take k).count p : Int) ∧ wr = w1
set_option maxRecDepth 1000000 in
set_option maxHeartbeats 1000000 in
theorem SchD.ticks (A : Option Addr) (n c : Nat) (l : List Reg) (p : Int) (w : World) (h : RdG w w.heap.size A n l) (hn : n ≤ 9223372036854775807) :
    Calls Try.prog 17 #[.slice A n c, .int .i64 p] w fun e w' => e = .returned (.int .i64 (ticksW l p : Int)) ∧ Below w.heap.size w w' := by
  have R := Lib.hid h
  have HN := Lib.hid hn
  clear h hn
  go_enter Try.func17, Try.ntmps17
  go_wp2_with fail
  refine (SchD.whole A n c l w R.out HN.out).mono ?_
  rintro e w1 ⟨A1, n1, c1, rfl, hown, hb⟩
  have B := Lib.hid hb
  have RZ := Lib.hid (RdZ.of_own hown)
  have HSM := Lib.hid (wholeW_small l)
  have HE : Hid ((wholeW l).count p = ticksW l p) := rfl
  generalize wholeW l = xs at *
  have HC : Hid (∀ k, (xs.take k).count p ≤ 64) := fun k => Nat.le_trans List.count_le_length (Nat.le_trans (by rw [List.length_take]; omega) HSM.out)
  clear hb hown
  go_wp2_with fail
  go_loopw [5, 7] (fun s5 s7 wr => DTiR xs p w1 s5 s7 wr) (fun _ s7 _ => n1 - (intOf s7).toNat)
  case atStart => exact ⟨0, Nat.zero_le _, rfl, rfl, rfl⟩
  case round =>
    obtain ⟨k, hk, rfl, rfl, rfl⟩ := hrel
    have hl := RZ.out.1
    by_cases hlt : k < n1
    · obtain ⟨b, o, rfl, hbo, hc⟩ := RZ.out.2 (by omega)
      have c0 := hc k hlt
      have hltI : (k : Int) < (n1 : Int) := by omega
      have HK : Hid (k < n1) := hlt
      have HL := Lib.hid hl
      have hs := count_succ (xs := xs) (k := k) (by omega) p
      have hb64 := HSM.out
      have hwk : IntKind.i64.wrap ((k : Int) + 1) = (k : Int) + 1 := by rw [IntKind.wrap_i64]; omega
      have hwc : IntKind.i64.wrap (((xs.take k).count p : Int) + 1) = ((xs.take k).count p : Int) + 1 := by have := HC.out k; rw [IntKind.wrap_i64]; omega
      rw [show xs.getD k 0 = zat xs k from rfl] at hs
      by_cases he : zat xs k = p
      · have hd : (zat xs k == p) = true := by simpa using he
        rw [if_pos he] at hs
        have HS := Lib.hid hs
        clear hc hk hlt hbo hl hs hb64 he
        go_wp2_with fail
        go_roundw
        case rel => exact ⟨k + 1, by have := HK.out; have := HL.out; omega, by go_num, by rw [HS.out]; push_cast; rfl, rfl⟩
        case measure => have := HK.out; simp [intOf]; omega
      · have hd : (zat xs k == p) = false := by simpa using he
        rw [if_neg he] at hs
        have HS := Lib.hid hs
        clear hc hk hlt hbo hl hs hb64 he
        go_wp2_with fail
        go_roundw
        case rel => exact ⟨k + 1, by have := HK.out; have := HL.out; omega, by go_num, by rw [HS.out]; rfl, rfl⟩
        case measure => have := HK.out; simp [intOf]; omega
    · obtain rfl : k = n1 := by omega
      have hltI : ¬ (k : Int) < (k : Int) := by omega
      rw [List.take_of_length_le (by omega)]
      clear hk hlt hl
      go_wp2_with fail
      go_ret
      exact ⟨by rw [← HE.out]; rfl, B.out⟩
end Go.Proofs.Ytdlhbggnhamenaa
