/- The program's reader (wire), part four: Bytes, Text, Count. -/
import Derived.Test.YtmhknpkiddgcpaaWireN
namespace Go.Proofs.Ytmhknpkiddgcpaa
open Go.RowKit
set_option linter.unusedVariables false
set_option linter.unusedSimpArgs false

/-- Bytes behind their length, of a reader that is whole. -/
theorem bytes_yes {s : RS} (he : s.e = 0) (h4 : 4 ≤ s.rest.length) (hl : loadOf s.rest 0 4 ≤ 65536) (hz : 4 + loadOf s.rest 0 4 ≤ s.rest.length) :
    bytesV s = (s.rest.take (4 + loadOf s.rest 0 4)).drop 4 ∧ bytesS s = ⟨s.rest.drop (4 + loadOf s.rest 0 4), 0⟩ := by
  have e1 : s.numb 4 = loadOf s.rest 0 4 := by rw [numb_yes he h4, (loadOf_zero (bs := s.rest) (k := 4) h4 (by decide) (by decide)).1]
  have e2 := next_yes he h4
  unfold bytesV bytesS
  rw [e1, if_neg (by omega), if_neg (by omega), e2]
  generalize loadOf s.rest 0 4 = x at *
  have hx : x ≤ (s.rest.drop 4).length := by simp; omega
  constructor
  · show (RS.got ⟨s.rest.drop 4, 0⟩ x) = _
    unfold RS.got RS.ok
    rw [decide_eq_true rfl, decide_eq_true hx]
    show (s.rest.drop 4).take x = _
    rw [List.drop_take]
    congr 1
    omega
  · rw [next_yes (s := ⟨s.rest.drop 4, 0⟩) rfl hx]
    show (⟨(s.rest.drop 4).drop x, 0⟩ : RS) = _
    rw [List.drop_drop]
/-- .. of one that fails there, or has failed. -/
theorem bytes_no {s : RS} (he : s.e = 0) (h : ¬ (4 ≤ s.rest.length ∧ loadOf s.rest 0 4 ≤ 65536) ∨ s.rest.length < 4 + loadOf s.rest 0 4) : bytesV s = [] ∧ (bytesS s).e = 50 := by
  by_cases h4 : 4 ≤ s.rest.length
  · have e1 : s.numb 4 = loadOf s.rest 0 4 := by rw [numb_yes he h4, (loadOf_zero (bs := s.rest) (k := 4) h4 (by decide) (by decide)).1]
    have e2 := next_yes he h4
    unfold bytesV bytesS
    rw [e1, e2]
    generalize loadOf s.rest 0 4 = x at *
    by_cases hx : 65536 < x
    · rw [if_pos hx, if_pos hx]; exact ⟨rfl, rfl⟩
    · rw [if_neg hx, if_neg hx]
      have hl : (s.rest.drop 4).length < x := by
        rcases h with h | h
        · exact absurd ⟨h4, by omega⟩ h
        · simp; omega
      rw [next_no (s := ⟨s.rest.drop 4, 0⟩) rfl hl]
      refine ⟨?_, rfl⟩
      unfold RS.got RS.ok
      rw [decide_eq_false (show ¬ x ≤ (s.rest.drop 4).length by omega), Bool.and_false]; rfl
  · have e1 : s.numb 4 = 0 := numb_no (.inr (by omega))
    unfold bytesV bytesS
    rw [e1, if_neg (by decide), if_neg (by decide), next_no he (by omega)]
    refine ⟨?_, ?_⟩
    · unfold RS.got RS.ok
      rw [decide_eq_false (by simp)]; rfl
    · rw [next_bad (by simp)]
theorem bytes_bad {s : RS} (he : s.e ≠ 0) : bytesV s = [] ∧ bytesS s = s := by
  have e1 : s.numb 4 = 0 := numb_no (.inl he)
  unfold bytesV bytesS
  rw [e1, if_neg (by decide), if_neg (by decide), next_bad he, next_bad he]
  refine ⟨?_, rfl⟩
  unfold RS.got RS.ok
  rw [decide_eq_false he]; rfl

/-- The size that counted says: two shapes. -/
theorem counted_size (s : RS) : ∃ (z : Nat) (ok : Bool), z ≤ 65540 ∧ (∀ (w : World) A n c, Rd w w.heap.size A n s.rest → n ≤ c → c ≤ 9223372036854775807 → Calls Try.prog 68 (#[.slice A n c] ++ #[]) w fun e w' => e = .returned (.tuple #[.int .i64 (z : Int), .bool ok]) ∧ Below w.heap.size w w') ∧
    ((ok = true ∧ 4 ≤ s.rest.length ∧ loadOf s.rest 0 4 ≤ 65536 ∧ z = 4 + loadOf s.rest 0 4) ∨ (ok = false ∧ ¬ (4 ≤ s.rest.length ∧ loadOf s.rest 0 4 ≤ 65536))) := by
  by_cases h : 4 ≤ s.rest.length ∧ loadOf s.rest 0 4 ≤ 65536
  · refine ⟨4 + loadOf s.rest 0 4, true, by omega, fun w A n c hr hn hc => ?_, .inl ⟨rfl, h.1, h.2, rfl⟩⟩
    refine (wCounted A n c s.rest w hr hn hc).mono ?_
    rintro e w' ⟨rfl, ⟨_, _, rfl⟩ | ⟨hh, rfl⟩⟩
    · exact ⟨rfl, Below.refl _ _⟩
    · exact absurd h hh
  · refine ⟨0, false, by omega, fun w A n c hr hn hc => ?_, .inr ⟨rfl, h⟩⟩
    refine (wCounted A n c s.rest w hr hn hc).mono ?_
    rintro e w' ⟨rfl, ⟨h1, h2, rfl⟩ | ⟨hh, rfl⟩⟩
    · exact absurd ⟨h1, h2⟩ h
    · exact ⟨rfl, Below.refl _ _⟩

theorem tkText (g : Nat) (F : Nat → Prop) (s : RS) (w : World) (hp : PrAt w g F s) :
    Calls Try.prog 70 #[.pointer (some ⟨g, 0, none⟩), .func (.func 68) #[] #[], .func (.func 71) #[] #[]] w fun e w' => e = .returned (.string (strB (bytesV s))) ∧ PrTo w g F (bytesS s) w' := by
  by_cases he : s.e = 0
  · obtain ⟨z, ok, hz, hsize, hcase⟩ := counted_size s
    have T : TakeOf s w 68 71 #[] z ok (fun w1 e w' => e = .returned (.string (strB ((s.rest.take z).drop 4))) ∧ Below w1.heap.size w1 w') := by
      refine ⟨call_enter Try.func68 (by kernel_rfl) rfl, call_enter Try.func71 (by kernel_rfl) rfl, fun A n c hr hn hc => hsize w A n c hr hn hc, fun hok hzl w1 A hsz hr => ?_⟩
      have h4 : 4 ≤ z := by
        rcases hcase with ⟨_, _, _, rfl⟩ | ⟨h, _⟩
        · omega
        · rw [hok] at h; cases h
      refine (vText A z z _ w1 hr h4 (Nat.le_refl _) (by omega)).mono ?_
      rintro e w' ⟨rfl, rfl⟩
      exact ⟨⟨_, rfl⟩, rfl, Below.refl _ _⟩
    refine (takeText_ok g F s w _ _ _ z ok _ hp he (by omega) T).mono ?_
    intro e w' hh
    rcases hh.pure with ⟨hok, hzl, rfl, hto⟩ | ⟨hzl, rfl, hto⟩
    · rcases hcase with ⟨_, h4, hl, rfl⟩ | ⟨h, _⟩
      · obtain ⟨e1, e2⟩ := bytes_yes he h4 hl hzl
        rw [e1, e2]; exact ⟨rfl, hto⟩
      · rw [hok] at h; cases h
    · obtain ⟨e1, e2⟩ := bytes_no he (by
        rcases hcase with ⟨hok, h4, hl, rfl⟩ | ⟨_, h⟩
        · rcases hzl with h | h
          · rw [hok] at h; cases h
          · exact .inr h
        · exact .inl h)
      rw [e1]
      obtain ⟨F', h1, h2, h3⟩ := hto
      exact ⟨rfl, F', h1.as e2.symm (fun h => by cases h), h2, h3⟩
  · obtain ⟨e1, e2⟩ := bytes_bad he
    refine (takeText_bad _ _ _ s.e w hp.err he).mono ?_
    rintro e w' ⟨rfl, rfl⟩
    rw [e1, e2]
    exact ⟨rfl, PrTo.of_below hp (Below.refl _ _) rfl (fun _ => rfl)⟩
/-- What Bytes comes to. -/
def PrBytes (w : World) (g : Nat) (F : Nat → Prop) (s : RS) (e : Ending) (w' : World) : Prop :=
  ∃ A n c F', e = .returned (.slice A n c) ∧ OwR w' w.heap.size A n (bytesV s) ∧ n ≤ c ∧ c ≤ 9223372036854775807 ∧ PrAt w' g F' (bytesS s) ∧ Off A n F' ∧ (∀ k, F' k → F k ∨ w.heap.size ≤ k) ∧ Keep F w w'
theorem PrBytes.empty {w w' : World} {g : Nat} {F : Nat → Prop} {s : RS} (hp : PrTo w g F (bytesS s) w') (hv : bytesV s = []) : PrBytes w g F s (.returned (.slice none 0 0)) w' := by
  obtain ⟨F', h1, h2, h3⟩ := hp
  exact ⟨none, 0, 0, F', rfl, by rw [hv]; exact ⟨Rd.nil _ _ _, fun h => absurd h (Nat.lt_irrefl 0)⟩, Nat.le_refl _, by decide, h1, fun h => absurd h (Nat.lt_irrefl 0), h2, h3⟩
theorem tkBytes (g : Nat) (F : Nat → Prop) (s : RS) (w : World) (hp : PrAt w g F s) :
    Calls Try.prog 67 #[.pointer (some ⟨g, 0, none⟩), .func (.func 68) #[] #[], .func (.func 69) #[] #[]] w (PrBytes w g F s) := by
  by_cases he : s.e = 0
  · obtain ⟨z, ok, hz, hsize, hcase⟩ := counted_size s
    have T : TakeOf s w 68 69 #[] z ok (fun w1 e w' => RetB 5 w1 ((s.rest.take z).drop 4) e w') := by
      refine ⟨call_enter Try.func68 (by kernel_rfl) rfl, call_enter Try.func69 (by kernel_rfl) rfl, fun A n c hr hn hc => hsize w A n c hr hn hc, fun hok hzl w1 A hsz hr => ?_⟩
      have h4 : 4 ≤ z := by
        rcases hcase with ⟨_, _, _, rfl⟩ | ⟨h, _⟩
        · omega
        · rw [hok] at h; cases h
      refine (vBytes A z z _ w1 hr h4 (Nat.le_refl _) (by omega)).mono ?_
      intro e w' h
      refine ⟨?_, h⟩
      obtain ⟨A1, n1, c1, rfl, _⟩ := h
      exact ⟨_, rfl⟩
    refine (takeBytes_ok g F s w _ _ _ z ok _ hp he (by omega) T).mono ?_
    intro e w' hh
    rcases hh with ⟨hok, hzl, w1, hp1, hk1, hV⟩ | ⟨hzl, rfl, hp1, hk1⟩
    · rcases hcase with ⟨_, h4, hl, rfl⟩ | ⟨h, _⟩
      · obtain ⟨e1, e2⟩ := bytes_yes he h4 hl hzl
        obtain ⟨A1, n1, c1, rfl, hown, hb⟩ := hV
        obtain ⟨hc1, hc2⟩ := own_cap hown
        have ho : OwR w' w1.heap.size A1 n1 (bytesV s) := by rw [e1]; exact OwR.of_own hown
        refine ⟨A1, n1, c1, F, rfl, ho.mono hk1.size, hc1, hc2, by rw [e2]; exact hp1.to hb, ho.off (fun k hk => hp1.lt k hk), fun k h => .inl h, hk1.trans (Keep.of_below hb)⟩
      · rw [hok] at h; cases h
    · obtain ⟨e1, e2⟩ := bytes_no he (by
        rcases hcase with ⟨hok, h4, hl, rfl⟩ | ⟨_, h⟩
        · rcases hzl with h | h
          · rw [hok] at h; cases h
          · exact .inr h
        · exact .inl h)
      exact PrBytes.empty ⟨F, hp1.as e2.symm (fun h => by cases h), fun k h => .inl h, hk1⟩ e1
  · obtain ⟨e1, e2⟩ := bytes_bad he
    refine (takeBytes_bad _ _ _ s.e w hp.err he).mono ?_
    rintro e w' ⟨rfl, rfl⟩
    exact PrBytes.empty (by rw [e2]; exact PrTo.of_below hp (Below.refl _ _) rfl (fun _ => rfl)) e1
set_option maxRecDepth 100000 in
set_option maxHeartbeats 1000000 in
theorem pText (g : Nat) (F : Nat → Prop) (s : RS) (w : World) (h : PrAt w g F s) : Calls Try.prog 30 #[.pointer (some ⟨g, 0, none⟩)] w fun e w' => e = .returned (.string (strB (bytesV s))) ∧ PrTo w g F (bytesS s) w' := by
  have H := Lib.hid h
  obtain ⟨x, hx⟩ : ∃ x, strB (bytesV s) = x := ⟨_, rfl⟩
  rw [hx]
  have HX := Lib.hid hx
  clear h hx
  go_enter Try.func30, Try.ntmps30
  go_wp2_with fail
  refine (tkText g F s w H.out).mono ?_
  rw [HX.out]
  rintro e w2 ⟨rfl, hto⟩
  have T := Lib.hid hto
  clear hto
  go_wp2_with fail
  go_ret
  exact ⟨rfl, T.out⟩
set_option maxRecDepth 100000 in
set_option maxHeartbeats 1000000 in
theorem pBytes' (g : Nat) (F : Nat → Prop) (s : RS) (w : World) (h : PrAt w g F s) : Calls Try.prog 29 #[.pointer (some ⟨g, 0, none⟩)] w (PrBytes w g F s) := by
  have H := Lib.hid h
  clear h
  go_enter Try.func29, Try.ntmps29
  go_wp2_with fail
  refine (tkBytes g F s w H.out).mono ?_
  intro e w2 hto
  have T := Lib.hid hto
  obtain ⟨A1, n1, c1, F', rfl, _⟩ := hto
  go_wp2_with fail
  go_ret
  exact T.out
theorem pBytes (g : Nat) (F : Nat → Prop) (s : RS) (w : World) (h : PrAt w g F s) : Calls Try.prog 29 #[.pointer (some ⟨g, 0, none⟩)] w fun e w' => ∃ A n c F', e = .returned (.slice A n c) ∧ OwR w' w.heap.size A n (bytesV s) ∧ n ≤ c ∧ c ≤ 9223372036854775807 ∧ PrAt w' g F' (bytesS s) ∧ Off A n F' ∧ (∀ k, F' k → F k ∨ w.heap.size ≤ k) ∧ Keep F w w' := pBytes' g F s w h

/-! A count. -/
/-- What may be taken as a count. -/
def countOk (s : RS) (most : Int) : Bool := decide (8 ≤ s.rest.length ∧ 0 ≤ intV s ∧ intV s ≤ most ∧ intV s ≤ (s.rest.length : Int) - 8)
set_option maxRecDepth 100000 in
set_option maxHeartbeats 1000000 in
theorem wCount1 (A : Option Addr) (n c h : Nat) (most : Int) (bs : List UInt8) (w : World) (ha : Rd w w.heap.size A n bs) (hn : n ≤ c) (hc : c ≤ 9223372036854775807) (hm : w.cell? ⟨h, 0, none⟩ = some (.int .i64 most)) (h8 : 8 ≤ bs.length) :
    Calls Try.prog 74 #[.slice A n c, .pointer (some ⟨h, 0, none⟩)] w fun e w' => e = .returned (.tuple #[.int .i64 8, .bool (decide (0 ≤ wrap64 (loadOf bs 0 8 : Int) ∧ wrap64 (loadOf bs 0 8 : Int) ≤ most ∧ wrap64 (loadOf bs 0 8 : Int) ≤ (bs.length : Int) - 8))]) ∧ w = w' := by
  have HA := Lib.hid ha
  have hln := ha.1
  rw [hln] at h8 ⊢
  have hn8 : ¬ (n : Int) < 8 := by omega
  obtain ⟨x, hx⟩ : ∃ x, wrap64 (loadOf bs 0 8 : Int) = x := ⟨_, rfl⟩
  rw [hx]
  have HX := Lib.hid hx
  obtain ⟨d, hd⟩ : ∃ d, decide (0 ≤ x ∧ x ≤ most ∧ x ≤ (n : Int) - 8) = d := ⟨_, rfl⟩
  rw [hd]
  have HD := Lib.hid hd
  have hnc : (n : Int) ≤ 9223372036854775807 := by omega
  have hw8 : wrap64 ((n : Int) - 8) = (n : Int) - 8 := by unfold wrap64; omega
  clear ha hx hln hd
  go_enter Try.func74, Try.ntmps74
  go_wp2_with fail
  refine (wNumbr A n c bs w HA.out hn hc).mono ?_
  rw [HX.out]
  rintro e w1 ⟨rfl, rfl⟩
  by_cases h0 : 0 ≤ x
  · by_cases h1 : x ≤ most
    · by_cases h2 : x ≤ (n : Int) - 8
      · have HE : Hid (d = true) := HD.out.symm.trans (decide_eq_true ⟨h0, h1, h2⟩)
        have e2 : decide (x ≤ (n : Int) - 8) = true := decide_eq_true h2
        go_wp2_with fail
        go_ret2
        rw [HE.out]
        first | exact ⟨rfl, rfl⟩ | (simp only [e2]; exact ⟨rfl, rfl⟩)
      · have HE : Hid (d = false) := HD.out.symm.trans (decide_eq_false (fun h => h2 h.2.2))
        have e2 := Lib.hid (decide_eq_false h2)
        go_wp2_with fail
        go_ret2
        rw [HE.out]
        first | exact ⟨rfl, rfl⟩ | (simp only [e2.out]; exact ⟨rfl, rfl⟩) | (simp only [e2.out]; exact ⟨trivial, rfl⟩) | (simp only [e2.out]; exact ⟨rfl, trivial⟩)
    · have HE : Hid (d = false) := HD.out.symm.trans (decide_eq_false (fun h => h1 h.2.1))
      go_wp2_with fail
      go_ret2
      rw [HE.out]
      exact ⟨rfl, rfl⟩
  · have HE : Hid (d = false) := HD.out.symm.trans (decide_eq_false (fun h => h0 h.1))
    go_wp2_with fail
    go_ret2
    rw [HE.out]
    exact ⟨rfl, rfl⟩
set_option maxRecDepth 100000 in
set_option maxHeartbeats 1000000 in
theorem wCount1_short (A : Option Addr) (n c : Nat) (p : Value) (w : World) (h8 : n < 8) :
    Calls Try.prog 74 #[.slice A n c, p] w fun e w' => e = .returned (.tuple #[.int .i64 0, .bool false]) ∧ w = w' := by
  have hn8 : (n : Int) < 8 := by omega
  go_enter Try.func74, Try.ntmps74
  go_wp2_with fail
  go_ret2
  exact ⟨rfl, rfl⟩
theorem loadOf_take8 {l : List UInt8} (h : 8 ≤ l.length) : loadOf (l.take 8) 0 8 = loadOf l 0 8 := by
  rw [(loadOf_zero (bs := l.take 8) (k := 8) (by simp; omega) (by decide) (by decide)).1, (loadOf_zero (bs := l) (k := 8) h (by decide) (by decide)).1, List.take_take]; rfl
theorem count_yes {s : RS} {most : Int} (he : s.e = 0) (h8 : 8 ≤ s.rest.length) (h : 0 ≤ intV s ∧ intV s ≤ most ∧ intV s ≤ (s.rest.length : Int) - 8) : countV s most = intV s ∧ countS s most = ⟨s.rest.drop 8, 0⟩ := by
  have e1 : countS s most = ⟨s.rest.drop 8, 0⟩ := by
    unfold countS
    rw [next_yes he h8, if_neg]
    rintro ⟨_, hh⟩
    simp only [List.length_drop] at hh
    omega
  refine ⟨?_, e1⟩
  unfold countV
  rw [e1, if_pos rfl]
theorem count_no {s : RS} {most : Int} (he : s.e = 0) (h : s.rest.length < 8 ∨ ¬ (0 ≤ intV s ∧ intV s ≤ most ∧ intV s ≤ (s.rest.length : Int) - 8)) : countV s most = 0 ∧ (countS s most).e = 50 := by
  have e1 : (countS s most).e = 50 := by
    by_cases h8 : 8 ≤ s.rest.length
    · unfold countS
      rw [next_yes he h8, if_pos]
      refine ⟨rfl, ?_⟩
      simp only [List.length_drop]
      rcases h with h | h <;> omega
    · unfold countS
      rw [next_no he (by omega), if_neg]
      rintro ⟨hh, _⟩
      cases hh
  refine ⟨?_, e1⟩
  unfold countV
  rw [e1, if_neg (by decide)]
theorem count_bad {s : RS} {most : Int} (he : s.e ≠ 0) : countV s most = 0 ∧ countS s most = s := by
  have e1 : countS s most = s := by
    unfold countS
    rw [next_bad he, if_neg (fun hh => he hh.1)]
  refine ⟨?_, e1⟩
  unfold countV
  rw [e1, if_neg he]
theorem tkCount (g : Nat) (F : Nat → Prop) (s : RS) (most : Int) (h : Nat) (w : World) (hp : PrAt w g F s) (hc : w.cell? ⟨h, 0, none⟩ = some (.int .i64 most)) :
    Calls Try.prog 62 #[.pointer (some ⟨g, 0, none⟩), .func (.func 74) #[] #[.pointer (some ⟨h, 0, none⟩)], .func (.func 63) #[] #[]] w fun e w' => e = .returned (.int .i64 (countV s most)) ∧ PrTo w g F (countS s most) w' := by
  by_cases he : s.e = 0
  · have hval : ∀ (w1 : World) (A : Option Addr), 8 ≤ s.rest.length → Rd w1 w1.heap.size A 8 (s.rest.take 8) → Calls Try.prog 63 #[.slice A 8 8] w1 fun e w' => (∃ v, e = .returned v) ∧ (e = .returned (.int .i64 (intV s)) ∧ Below w1.heap.size w1 w') := fun w1 A h8 hr => by
      refine (wNumbr A 8 8 _ w1 hr (by decide) (by decide)).mono ?_
      rintro e w' ⟨rfl, rfl⟩
      exact ⟨⟨_, rfl⟩, by rw [intV_yes he h8], Below.refl _ _⟩
    by_cases h8 : 8 ≤ s.rest.length
    · have T : TakeOf s w 74 63 #[.pointer (some ⟨h, 0, none⟩)] 8 (decide (0 ≤ intV s ∧ intV s ≤ most ∧ intV s ≤ (s.rest.length : Int) - 8)) (fun w1 e w' => e = .returned (.int .i64 (intV s)) ∧ Below w1.heap.size w1 w') := by
        refine ⟨call_enter Try.func74 (by kernel_rfl) rfl, call_enter Try.func63 (by kernel_rfl) rfl, fun A n c hr hn hc' => ?_, fun _ hz w1 A hsz hr => hval w1 A hz hr⟩
        have hx := wCount1 A n c h most s.rest w hr hn hc' hc h8
        rw [← loadOf_take8 h8, ← intV_yes he h8] at hx
        refine hx.mono ?_
        rintro e w' ⟨rfl, rfl⟩
        exact ⟨rfl, Below.refl _ _⟩
      refine (takeInt_ok g F s w _ _ _ 8 _ _ hp he (by decide) T).mono ?_
      intro e w' hh
      rcases hh.pure with ⟨hd, hz, rfl, hto⟩ | ⟨hz, rfl, hto⟩
      · obtain ⟨e1, e2⟩ := count_yes he h8 (of_decide_eq_true hd)
        rw [e1, e2]; exact ⟨rfl, hto⟩
      · obtain ⟨e1, e2⟩ := count_no (most := most) he (by
          rcases hz with h | h
          · exact .inr (of_decide_eq_false h)
          · exact .inl h)
        rw [e1]
        obtain ⟨F', h1, h2, h3⟩ := hto
        exact ⟨rfl, F', h1.as e2.symm (fun h => by cases h), h2, h3⟩
    · have T : TakeOf s w 74 63 #[.pointer (some ⟨h, 0, none⟩)] 0 false (fun w1 e w' => e = .returned (.int .i64 (intV s)) ∧ Below w1.heap.size w1 w') := by
        refine ⟨call_enter Try.func74 (by kernel_rfl) rfl, call_enter Try.func63 (by kernel_rfl) rfl, fun A n c hr hn hc' => ?_, fun hf => by cases hf⟩
        refine (wCount1_short A n c (.pointer (some ⟨h, 0, none⟩)) w (by rw [← hr.1]; omega)).mono ?_
        rintro e w' ⟨rfl, rfl⟩
        exact ⟨rfl, Below.refl _ _⟩
      refine (takeInt_ok g F s w _ _ _ 0 _ _ hp he (by decide) T).mono ?_
      intro e w' hh
      rcases hh.pure with ⟨hd, hz, rfl, hto⟩ | ⟨hz, rfl, hto⟩
      · cases hd
      · obtain ⟨e1, e2⟩ := count_no (most := most) he (.inl (by omega))
        rw [e1]
        obtain ⟨F', h1, h2, h3⟩ := hto
        exact ⟨rfl, F', h1.as e2.symm (fun h => by cases h), h2, h3⟩
  · obtain ⟨e1, e2⟩ := count_bad (most := most) he
    refine (takeInt_bad _ _ _ s.e w hp.err he).mono ?_
    rintro e w' ⟨rfl, rfl⟩
    rw [e1, e2]
    exact ⟨rfl, PrTo.of_below hp (Below.refl _ _) rfl (fun _ => rfl)⟩
set_option maxRecDepth 100000 in
set_option maxHeartbeats 1000000 in
theorem pCount (g : Nat) (F : Nat → Prop) (s : RS) (most : Int) (w : World) (h : PrAt w g F s) (hm : -9223372036854775808 ≤ most ∧ most ≤ 9223372036854775807) : Calls Try.prog 32 #[.pointer (some ⟨g, 0, none⟩), .int .i64 most] w fun e w' => e = .returned (.int .i64 (countV s most)) ∧ PrTo w g F (countS s most) w' := by
  have hmf : ∀ (fn : Fn) (first cap : Array Value) (w : World), (Instr.makeFunc fn first cap).run Try.prog w = .ok (.func fn first cap) w := fun _ _ _ _ => rfl
  have hb : Below w.heap.size w (w.alloc (.cells #[.int .i64 most] 3)) := (Below.refl _ _).alloc (Nat.le_refl _) _
  have B := Lib.hid hb
  have H := Lib.hid (h.to hb)
  have C : Hid ((w.alloc (.cells #[.int .i64 most] 3)).cell? ⟨w.heap.size, 0, none⟩ = some (.int .i64 most)) := by (show _ = _); rw [World.cell?_alloc_at _ _ _ _ (by rfl)]; rfl
  obtain ⟨x, hx⟩ : ∃ x, countV s most = x := ⟨_, rfl⟩
  rw [hx]
  have HX := Lib.hid hx
  clear h hx hb hm
  go_enter Try.func32, Try.ntmps32
  go_wp2_with fail
  refine (tkCount g F s most _ _ H.out C.out).mono ?_
  rw [HX.out]
  rintro e w2 ⟨rfl, hto⟩
  have T := Lib.hid (hto.after B.out)
  clear hto
  go_wp2_with fail
  go_ret
  exact ⟨rfl, T.out⟩
end Go.Proofs.Ytmhknpkiddgcpaa
