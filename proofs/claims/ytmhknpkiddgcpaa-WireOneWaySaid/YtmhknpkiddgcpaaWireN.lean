/- The program's reader (wire), part three: Byte, Int, Flag, Bytes, Text, Count. -/
import Derived.Test.YtmhknpkiddgcpaaWireM
namespace Go.Proofs.Ytmhknpkiddgcpaa
open Go.RowKit
set_option linter.unusedVariables false
set_option linter.unusedSimpArgs false

theorem alwaysSize (s : RS) (w : World) (h z : Nat) (hc : w.cell? ⟨h, 0, none⟩ = some (.int .i64 (z : Int))) (A : Option Addr) (n c : Nat) :
    Calls Try.prog 83 (#[.slice A n c] ++ #[.pointer (some ⟨h, 0, none⟩)]) w fun e w' => e = .returned (.tuple #[.int .i64 (z : Int), .bool true]) ∧ Below w.heap.size w w' := by
  refine (wAlways1 (.slice A n c) h (z : Int) w hc).mono ?_
  rintro e w' ⟨rfl, rfl⟩
  exact ⟨rfl, Below.refl _ _⟩
theorem not_le {s : RS} {z : Nat} {b : Bool} (h : b = false ∨ s.rest.length < z) (hb : b = true) : s.rest.length < z := by
  rcases h with h | h
  · rw [hb] at h; cases h
  · exact h
theorem byteV_yes {s : RS} (he : s.e = 0) (h : 1 ≤ s.rest.length) : (byteV s).toNat = nth (s.rest.take 1) 0 := by
  unfold byteV
  rw [numb_one he h, take_one h]
  have e : (UInt8.ofNat (nth s.rest 0)).toNat = nth s.rest 0 % 256 := UInt8.toNat_ofNat'
  have := nth_lt s.rest 0
  rw [e]
  show nth s.rest 0 % 256 = nth s.rest 0
  omega
theorem byteV_no {s : RS} (h : s.e ≠ 0 ∨ s.rest.length < 1) : (byteV s).toNat = 0 := by
  unfold byteV
  rw [numb_no h]; rfl
theorem intV_yes {s : RS} (he : s.e = 0) (h : 8 ≤ s.rest.length) : intV s = wrap64 (loadOf (s.rest.take 8) 0 8 : Int) := by
  unfold intV
  rw [numb_yes he h, (loadOf_zero (bs := s.rest.take 8) (k := 8) (by simp; omega) (by decide) (by decide)).1, List.take_take]; rfl
theorem intV_no {s : RS} (h : s.e ≠ 0 ∨ s.rest.length < 8) : intV s = 0 := by
  unfold intV
  rw [numb_no h]; simp [wrap64]

theorem tkByte (g : Nat) (F : Nat → Prop) (s : RS) (h : Nat) (w : World) (hp : PrAt w g F s) (hc : w.cell? ⟨h, 0, none⟩ = some (.int .i64 ((1 : Nat) : Int))) :
    Calls Try.prog 59 #[.pointer (some ⟨g, 0, none⟩), .func (.func 83) #[] #[.pointer (some ⟨h, 0, none⟩)], .func (.func 61) #[] #[]] w fun e w' => e = .returned (.int .u8 ((byteV s).toNat : Int)) ∧ PrTo w g F (s.next 1) w' := by
  by_cases he : s.e = 0
  · have T : TakeOf s w 83 61 #[.pointer (some ⟨h, 0, none⟩)] 1 true (fun w1 e w' => e = .returned (.int .u8 (nth (s.rest.take 1) 0 : Int)) ∧ Below w1.heap.size w1 w') := by
      refine ⟨call_enter Try.func83 (by kernel_rfl) rfl, call_enter Try.func61 (by kernel_rfl) rfl, fun A n c _ _ _ => alwaysSize s w h 1 hc A n c, fun _ hz w1 A hsz hr => ?_⟩
      refine (vByte A 1 1 _ w1 hr (by decide)).mono ?_
      rintro e w' ⟨rfl, rfl⟩
      exact ⟨⟨_, rfl⟩, rfl, Below.refl _ _⟩
    refine (takeByte_ok g F s w _ _ _ 1 true _ hp he (by decide) T).mono ?_
    intro e w' hh
    rcases hh.pure with ⟨_, hz, rfl, hto⟩ | ⟨hz, rfl, hto⟩
    · rw [next_yes he hz, byteV_yes he hz]; exact ⟨rfl, hto⟩
    · have hz' := not_le hz rfl
      rw [next_no he hz', byteV_no (.inr hz')]; exact ⟨rfl, hto⟩
  · refine (takeByte_bad _ _ _ s.e w hp.err he).mono ?_
    rintro e w' ⟨rfl, rfl⟩
    rw [next_bad he, byteV_no (.inl he)]
    exact ⟨rfl, PrTo.of_below hp (Below.refl _ _) rfl (fun _ => rfl)⟩
theorem tkInt (g : Nat) (F : Nat → Prop) (s : RS) (h : Nat) (w : World) (hp : PrAt w g F s) (hc : w.cell? ⟨h, 0, none⟩ = some (.int .i64 ((8 : Nat) : Int))) :
    Calls Try.prog 62 #[.pointer (some ⟨g, 0, none⟩), .func (.func 83) #[] #[.pointer (some ⟨h, 0, none⟩)], .func (.func 63) #[] #[]] w fun e w' => e = .returned (.int .i64 (intV s)) ∧ PrTo w g F (s.next 8) w' := by
  by_cases he : s.e = 0
  · have T : TakeOf s w 83 63 #[.pointer (some ⟨h, 0, none⟩)] 8 true (fun w1 e w' => e = .returned (.int .i64 (wrap64 (loadOf (s.rest.take 8) 0 8 : Int))) ∧ Below w1.heap.size w1 w') := by
      refine ⟨call_enter Try.func83 (by kernel_rfl) rfl, call_enter Try.func63 (by kernel_rfl) rfl, fun A n c _ _ _ => alwaysSize s w h 8 hc A n c, fun _ hz w1 A hsz hr => ?_⟩
      refine (wNumbr A 8 8 _ w1 hr (by decide) (by decide)).mono ?_
      rintro e w' ⟨rfl, rfl⟩
      exact ⟨⟨_, rfl⟩, rfl, Below.refl _ _⟩
    refine (takeInt_ok g F s w _ _ _ 8 true _ hp he (by decide) T).mono ?_
    intro e w' hh
    rcases hh.pure with ⟨_, hz, rfl, hto⟩ | ⟨hz, rfl, hto⟩
    · rw [next_yes he hz, intV_yes he hz]; exact ⟨rfl, hto⟩
    · have hz' := not_le hz rfl
      rw [next_no he hz', intV_no (.inr hz')]; exact ⟨rfl, hto⟩
  · refine (takeInt_bad _ _ _ s.e w hp.err he).mono ?_
    rintro e w' ⟨rfl, rfl⟩
    rw [next_bad he, intV_no (.inl he)]
    exact ⟨rfl, PrTo.of_below hp (Below.refl _ _) rfl (fun _ => rfl)⟩

set_option maxRecDepth 100000 in
set_option maxHeartbeats 1000000 in
theorem pByte (g : Nat) (F : Nat → Prop) (s : RS) (w : World) (h : PrAt w g F s) : Calls Try.prog 26 #[.pointer (some ⟨g, 0, none⟩)] w fun e w' => e = .returned (.int .u8 ((byteV s).toNat : Int)) ∧ PrTo w g F (s.next 1) w' := by
  have H := Lib.hid h
  clear h
  go_enter Try.func26, Try.ntmps26
  go_wp2_with fail
  refine (wAlways 1 w).mono ?_
  rintro e w1 ⟨rfl, hc, _, hb⟩
  have B := Lib.hid hb
  have C := Lib.hid hc
  clear hb hc
  go_wp2_with fail
  refine (tkByte g F s _ w1 (H.out.to B.out) C.out).mono ?_
  rintro e w2 ⟨rfl, hto⟩
  have T := Lib.hid (hto.after B.out)
  clear hto
  go_wp2_with fail
  go_ret
  exact ⟨rfl, T.out⟩
set_option maxRecDepth 100000 in
set_option maxHeartbeats 1000000 in
theorem pInt (g : Nat) (F : Nat → Prop) (s : RS) (w : World) (h : PrAt w g F s) : Calls Try.prog 27 #[.pointer (some ⟨g, 0, none⟩)] w fun e w' => e = .returned (.int .i64 (intV s)) ∧ PrTo w g F (s.next 8) w' := by
  have H := Lib.hid h
  obtain ⟨x, hx⟩ : ∃ x, intV s = x := ⟨_, rfl⟩
  rw [hx]
  have HX := Lib.hid hx
  clear h hx
  go_enter Try.func27, Try.ntmps27
  go_wp2_with fail
  refine (wAlways 8 w).mono ?_
  rintro e w1 ⟨rfl, hc, _, hb⟩
  have B := Lib.hid hb
  have C := Lib.hid hc
  clear hb hc
  go_wp2_with fail
  refine (tkInt g F s _ w1 (H.out.to B.out) C.out).mono ?_
  rw [HX.out]
  rintro e w2 ⟨rfl, hto⟩
  have T := Lib.hid (hto.after B.out)
  clear hto
  go_wp2_with fail
  go_ret
  exact ⟨rfl, T.out⟩

/-! A flag. -/
set_option maxRecDepth 100000 in
set_option maxHeartbeats 1000000 in
theorem wFlag1 (A : Option Addr) (n c : Nat) (bs : List UInt8) (w : World) (ha : Rd w w.heap.size A n bs) :
    Calls Try.prog 64 #[.slice A n c] w fun e w' => e = .returned (.tuple #[.int .i64 1, .bool (decide (0 < bs.length ∧ nth bs 0 ≤ 1))]) ∧ Below w.heap.size w w' := by
  have HL := Lib.hid ha.1
  by_cases h0 : (0 : Int) < (n : Int)
  · obtain ⟨b, o, rfl, hb, hc⟩ := ha.2 (by omega)
    have hcell := hc 0 (by omega)
    rw [Nat.add_zero] at hcell
    have HLB := Lib.hid (nth_lt bs 0)
    have d0 : decide (0 < n) = true := decide_eq_true (by omega)
    obtain ⟨x, hx⟩ : ∃ x, nth bs 0 = x := ⟨_, rfl⟩
    rw [hx] at hcell HLB ⊢
    clear ha hc hx
    by_cases h1 : (x : Int) ≤ 1
    · have d1 : decide (x ≤ 1) = true := decide_eq_true (by omega)
      have HD : Hid (decide (0 < bs.length ∧ x ≤ 1) = true) := decide_eq_true ⟨by rw [HL.out]; omega, by omega⟩
      go_enter Try.func64, Try.ntmps64
      go_wp2
      go_region_held (fun w' => w'.cell? ⟨b, o, none⟩ = some (.int .u8 (x : Int))) (go_keep) (fail)
      go_wp2
      go_ret2
      rw [HD.out]
      exact ⟨rfl, below_drewN (Below.refl _ _) _⟩
    · have d1 : decide (x ≤ 1) = false := decide_eq_false (by omega)
      have HD : Hid (decide (0 < bs.length ∧ x ≤ 1) = false) := decide_eq_false (fun h => h1 (by omega))
      go_enter Try.func64, Try.ntmps64
      go_wp2
      go_region_held (fun w' => w'.cell? ⟨b, o, none⟩ = some (.int .u8 (x : Int))) (go_keep) (fail)
      go_wp2
      go_ret2
      rw [HD.out]
      have e1 : decide ((x : Int) ≤ 1) = false := decide_eq_false (by omega)
      simp only [e1]
      exact ⟨rfl, below_drewN (Below.refl _ _) _⟩
  · have HD : Hid (decide (0 < bs.length ∧ nth bs 0 ≤ 1) = false) := decide_eq_false (fun h => by have := h.1; rw [HL.out] at this; omega)
    obtain rfl : n = 0 := by omega
    clear ha h0
    go_enter Try.func64, Try.ntmps64
    go_wp2
    refine wp_region_held_drew (S := (fun _ => True)) (by kernel_rfl) (trivial) (fun hHeld => ?_)
    refine wpAnyH_take (i := 0) (v := ?_) rfl (by kernel_rfl) (by kernel_rfl) (by kernel_rfl) (fun _ _ _ h => h) (Or.inl ⟨by rfl, ?_⟩) (by assumption) ?_
    rotate_left 1
    · intro w hSw; (try dsimp only at hSw); go_simp; (try with_reducible rfl)
    simp only [Act.put, List.getElem_toArray, List.getElem_cons_zero, List.getElem_cons_succ, List.setIfInBounds_toArray, List.set_cons_zero, List.set_cons_succ]
    refine wpAnyH_take (i := 1) (v := ?_) rfl (by kernel_rfl) (by kernel_rfl) (by kernel_rfl) (fun _ _ _ h => h) (Or.inl ⟨by rfl, ?_⟩) (by assumption) ?_
    rotate_left 1
    · intro w hSw; (try dsimp only at hSw); go_simp; (try with_reducible rfl)
    simp only [Act.put, List.getElem_toArray, List.getElem_cons_zero, List.getElem_cons_succ, List.setIfInBounds_toArray, List.set_cons_zero, List.set_cons_succ]
    refine wpAnyH_take (i := 2) (v := ?_) rfl (by kernel_rfl) (by kernel_rfl) (by kernel_rfl) (fun _ _ _ h => h) (Or.inl ⟨by rfl, ?_⟩) (by assumption) ?_
    rotate_left 1
    · intro w hSw; (try dsimp only at hSw); go_simp; (try with_reducible rfl)
    simp only [Act.put, List.getElem_toArray, List.getElem_cons_zero, List.getElem_cons_succ, List.setIfInBounds_toArray, List.set_cons_zero, List.set_cons_succ]
    refine wpAnyH_take (i := 3) (v := ?_) rfl (by kernel_rfl) (by kernel_rfl) (by kernel_rfl) (fun _ _ _ h => h) (Or.inl ⟨by rfl, ?_⟩) (by assumption) ?_
    rotate_left 1
    · intro w hSw; (try dsimp only at hSw); go_simp; (try with_reducible rfl)
    simp only [Act.put, List.getElem_toArray, List.getElem_cons_zero, List.getElem_cons_succ, List.setIfInBounds_toArray, List.set_cons_zero, List.set_cons_succ]
    refine wpAnyH_take (i := 4) (v := undef) rfl (by kernel_rfl) (by kernel_rfl) (by kernel_rfl) (fun _ _ _ h => h) (Or.inr ⟨by rfl, rfl⟩) (by assumption) ?_
    simp only [Act.put, List.getElem_toArray, List.getElem_cons_zero, List.getElem_cons_succ, List.setIfInBounds_toArray, List.set_cons_zero, List.set_cons_succ]
    refine wpAnyH_take (i := 5) (v := undef) rfl (by kernel_rfl) (by kernel_rfl) (by kernel_rfl) (fun _ _ _ h => h) (Or.inr ⟨by rfl, rfl⟩) (by assumption) ?_
    simp only [Act.put, List.getElem_toArray, List.getElem_cons_zero, List.getElem_cons_succ, List.setIfInBounds_toArray, List.set_cons_zero, List.set_cons_succ]
    refine wpAnyH_take (i := 6) (v := undef) rfl (by kernel_rfl) (by kernel_rfl) (by kernel_rfl) (fun _ _ _ h => h) (Or.inr ⟨by rfl, rfl⟩) (by assumption) ?_
    simp only [Act.put, List.getElem_toArray, List.getElem_cons_zero, List.getElem_cons_succ, List.setIfInBounds_toArray, List.set_cons_zero, List.set_cons_succ]
    refine wpAnyH_take (i := 7) (v := undef) rfl (by kernel_rfl) (by kernel_rfl) (by kernel_rfl) (fun _ _ _ h => h) (Or.inr ⟨by rfl, rfl⟩) (by assumption) ?_
    simp only [Act.put, List.getElem_toArray, List.getElem_cons_zero, List.getElem_cons_succ, List.setIfInBounds_toArray, List.set_cons_zero, List.set_cons_succ]
    refine wpAnyH_take (i := 8) (v := ?_) rfl (by kernel_rfl) (by kernel_rfl) (by kernel_rfl) (fun _ _ _ h => h) (Or.inl ⟨by rfl, ?_⟩) (by assumption) ?_
    rotate_left 1
    · intro w hSw; (try dsimp only at hSw); go_simp; (try with_reducible rfl)
    simp only [Act.put, List.getElem_toArray, List.getElem_cons_zero, List.getElem_cons_succ, List.setIfInBounds_toArray, List.set_cons_zero, List.set_cons_succ]
    refine wpAnyH_take (i := 9) (v := ?_) rfl (by kernel_rfl) (by kernel_rfl) (by kernel_rfl) (fun _ _ _ h => h) (Or.inl ⟨by rfl, ?_⟩) (by assumption) ?_
    rotate_left 1
    · intro w hSw; (try dsimp only at hSw); go_simp; (try with_reducible rfl)
    simp only [Act.put, List.getElem_toArray, List.getElem_cons_zero, List.getElem_cons_succ, List.setIfInBounds_toArray, List.set_cons_zero, List.set_cons_succ]
    refine wpAnyH_take (i := 10) (v := ?_) rfl (by kernel_rfl) (by kernel_rfl) (by kernel_rfl) (fun _ _ _ h => h) (Or.inl ⟨by rfl, ?_⟩) (by assumption) ?_
    rotate_left 1
    · intro w hSw; (try dsimp only at hSw); go_simp; (try with_reducible rfl)
    simp only [Act.put, List.getElem_toArray, List.getElem_cons_zero, List.getElem_cons_succ, List.setIfInBounds_toArray, List.set_cons_zero, List.set_cons_succ]
    refine wpAnyH_done (by kernel_rfl) ?_ _
    go_wp2
    go_ret2
    rw [HD.out]
    exact ⟨rfl, below_drewN (Below.refl _ _) _⟩
theorem flagS_no {s : RS} (h : s.e ≠ 0 ∨ s.rest.length < 1) : flagS s = s.next 1 ∧ decide (s.numb 1 = 1) = false := by
  unfold flagS
  rw [numb_no h]
  exact ⟨rfl, rfl⟩
theorem tkFlag (g : Nat) (F : Nat → Prop) (s : RS) (w : World) (hp : PrAt w g F s) :
    Calls Try.prog 65 #[.pointer (some ⟨g, 0, none⟩), .func (.func 64) #[] #[], .func (.func 66) #[] #[]] w fun e w' => e = .returned (.bool (decide (s.numb 1 = 1))) ∧ PrTo w g F (flagS s) w' := by
  by_cases he : s.e = 0
  · have T : TakeOf s w 64 66 #[] 1 (decide (0 < s.rest.length ∧ nth s.rest 0 ≤ 1)) (fun w1 e w' => e = .returned (.bool (decide (nth (s.rest.take 1) 0 = 1))) ∧ Below w1.heap.size w1 w') := by
      refine ⟨call_enter Try.func64 (by kernel_rfl) rfl, call_enter Try.func66 (by kernel_rfl) rfl, fun A n c hr _ _ => wFlag1 A n c s.rest w hr, fun _ hz w1 A hsz hr => ?_⟩
      refine (vFlag A 1 1 _ w1 hr (by decide)).mono ?_
      rintro e w' ⟨rfl, rfl⟩
      exact ⟨⟨_, rfl⟩, rfl, Below.refl _ _⟩
    refine (takeBool_ok g F s w _ _ _ 1 _ _ hp he (by decide) T).mono ?_
    intro e w' hh
    rcases hh.pure with ⟨hd, hz, rfl, hto⟩ | ⟨hz, rfl, hto⟩
    · have h2 := (of_decide_eq_true hd).2
      have e1 : nth (s.rest.take 1) 0 = nth s.rest 0 := by rw [take_one hz]; rfl
      have e2 := numb_one he hz
      unfold flagS
      rw [e2, if_neg (by omega), next_yes he hz]
      rw [e1] 
      exact ⟨rfl, hto⟩
    · by_cases hlen : s.rest.length < 1
      · obtain ⟨h1, h2⟩ := flagS_no (.inr hlen)
        rw [h1, h2, next_no he hlen]; exact ⟨rfl, hto⟩
      · have hz1 : 1 ≤ s.rest.length := by omega
        have hd : ¬ (0 < s.rest.length ∧ nth s.rest 0 ≤ 1) := by
          rcases hz with h | h
          · exact of_decide_eq_false h
          · omega
        have hn : ¬ nth s.rest 0 ≤ 1 := fun h => hd ⟨by omega, h⟩
        have e2 := numb_one he hz1
        unfold flagS
        rw [e2, if_pos (by omega), decide_eq_false (by omega)]
        obtain ⟨F', h1, h2, h3⟩ := hto
        exact ⟨rfl, F', h1.as rfl (fun h => by cases h), h2, h3⟩
  · obtain ⟨h1, h2⟩ := flagS_no (.inl he)
    refine (takeBool_bad _ _ _ s.e w hp.err he).mono ?_
    rintro e w' ⟨rfl, rfl⟩
    rw [h1, h2, next_bad he]
    exact ⟨rfl, PrTo.of_below hp (Below.refl _ _) rfl (fun _ => rfl)⟩
set_option maxRecDepth 100000 in
set_option maxHeartbeats 1000000 in
theorem pFlag (g : Nat) (F : Nat → Prop) (s : RS) (w : World) (h : PrAt w g F s) : Calls Try.prog 28 #[.pointer (some ⟨g, 0, none⟩)] w fun e w' => e = .returned (.bool (decide (s.numb 1 = 1))) ∧ PrTo w g F (flagS s) w' := by
  have H := Lib.hid h
  obtain ⟨x, hx⟩ : ∃ x, decide (s.numb 1 = 1) = x := ⟨_, rfl⟩
  rw [hx]
  have HX := Lib.hid hx
  clear h hx
  go_enter Try.func28, Try.ntmps28
  go_wp2_with fail
  refine (tkFlag g F s w H.out).mono ?_
  rw [HX.out]
  rintro e w2 ⟨rfl, hto⟩
  have T := Lib.hid hto
  clear hto
  go_wp2_with fail
  go_ret
  exact ⟨rfl, T.out⟩
end Go.Proofs.Ytmhknpkiddgcpaa
