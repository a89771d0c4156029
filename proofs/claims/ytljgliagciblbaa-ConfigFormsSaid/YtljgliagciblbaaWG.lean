/- Several texts in one (a claim has 60 files at most): WireM, WireN, WireG, WireO. -/
import Derived.Test.YtljgliagciblbaaWireT
import Derived.Laws.Cover3
namespace Go.Proofs.Ytljgliagciblbaa

/- The program's reader (wire), part two: what the closures hand back, and each of its functions. -/
section
open Go.RowKit
set_option linter.unusedVariables false
set_option linter.unusedSimpArgs false

theorem call_enter {P : Program} {f : FuncId} {fn : Func} {c : Code} (hf : P.funcs[f]? = some fn) (hname : (fn.name == "runtime.NumGoroutine") = false) (hb : fn.body = some c) (args : Array Value) (w : World) :
    (callFunc f args).run P w = .ok (.enter f args) w := by
  have h1 : fn.name ≠ "runtime.NumGoroutine" := by simpa using hname
  simp [callFunc, hf, h1, hb]
theorem PrTo.after {w0 w w' : World} {g : Nat} {F : Nat → Prop} {s : RS} (hb : Below w0.heap.size w0 w) (h : PrTo w g F s w') : PrTo w0 g F s w' := by
  obtain ⟨F', h1, h2, h3⟩ := h
  exact ⟨F', h1, fun k hf => (h2 k hf).imp id (Nat.le_trans hb.size), (Keep.of_below hb).trans h3⟩
theorem PrTo.cell {w w' : World} {g : Nat} {F : Nat → Prop} {s : RS} (h : PrTo w g F s w') {a : Addr} (hl : a.block < w.heap.size) (hn : ¬ F a.block) : w'.cell? a = w.cell? a := by
  obtain ⟨F', h1, h2, h3⟩ := h
  exact h3.cell hl hn
theorem PrTo.upto {w w1 w' : World} {g : Nat} {F : Nat → Prop} {s : RS} (h : PrTo w g F s w1) (hb : Below w1.heap.size w1 w') : PrTo w g F s w' := by
  obtain ⟨F', h1, h2, h3⟩ := h
  exact ⟨F', h1.to hb, h2, h3.trans (Keep.of_below hb)⟩
/-- A take whose value only reads. -/
theorem TookR.pure {w w' : World} {g : Nat} {F : Nat → Prop} {s : RS} {z : Nat} {ok : Bool} {zero x : Value} {e : Ending} (h : TookR w g F s z ok zero (fun w1 e w' => e = .returned x ∧ Below w1.heap.size w1 w') e w') :
    (ok = true ∧ z ≤ s.rest.length ∧ e = .returned x ∧ PrTo w g F ⟨s.rest.drop z, 0⟩ w') ∨ ((ok = false ∨ s.rest.length < z) ∧ e = .returned zero ∧ PrTo w g F ⟨s.rest, 50⟩ w') := by
  rcases h with ⟨h1, h2, w1, h3, h4, h5, h6⟩ | ⟨h1, h2, h3, h4⟩
  · exact .inl ⟨h1, h2, h5, PrTo.upto ⟨F, h3, fun k h => .inl h, h4⟩ h6⟩
  · exact .inr ⟨h1, h2, F, h3, fun k h => .inl h, h4⟩
theorem numOf_single (x : UInt8) : numOf [x] = x.toNat := by
  unfold numOf
  rw [if_neg (by simp)]
  simp [num]
theorem take_one {l : List UInt8} (h : 1 ≤ l.length) : l.take 1 = [l.getD 0 0] := by
  match l, h with
  | x :: xs, _ => simp
theorem numb_one {s : RS} (he : s.e = 0) (h : 1 ≤ s.rest.length) : s.numb 1 = nth s.rest 0 := by
  unfold RS.numb RS.ok
  rw [decide_eq_true he, decide_eq_true h]
  show numOf (s.rest.take 1) = _
  rw [take_one h, numOf_single]; rfl
theorem next_yes {s : RS} {z : Nat} (he : s.e = 0) (h : z ≤ s.rest.length) : s.next z = ⟨s.rest.drop z, 0⟩ := by
  unfold RS.next RS.ok
  rw [decide_eq_true he, decide_eq_true h]; rfl
theorem next_no {s : RS} {z : Nat} (he : s.e = 0) (h : s.rest.length < z) : s.next z = ⟨s.rest, 50⟩ := by
  unfold RS.next RS.ok
  rw [decide_eq_false (show ¬ z ≤ s.rest.length by omega), Bool.and_false, if_neg (by simp), if_pos he]
theorem next_bad {s : RS} {z : Nat} (he : s.e ≠ 0) : s.next z = s := by
  unfold RS.next RS.ok
  rw [decide_eq_false he, Bool.false_and, if_neg (by simp), if_neg he]
theorem numb_no {s : RS} {z : Nat} (h : s.e ≠ 0 ∨ s.rest.length < z) : s.numb z = 0 := by
  unfold RS.numb RS.ok
  rw [if_neg]
  rcases h with h | h
  · simp [h]
  · simp; omega
theorem numb_yes {s : RS} {z : Nat} (he : s.e = 0) (h : z ≤ s.rest.length) : s.numb z = numOf (s.rest.take z) := by
  unfold RS.numb RS.ok
  rw [decide_eq_true he, decide_eq_true h]; rfl

/-! The values. -/
set_option maxRecDepth 100000 in
set_option maxHeartbeats 1000000 in
theorem vFlag (A : Option Addr) (n c : Nat) (bs : List UInt8) (w : World) (ha : Rd w w.heap.size A n bs) (hn : 0 < n) : Calls Try.prog 87 #[.slice A n c] w fun e w' => e = .returned (.bool (decide (nth bs 0 = 1))) ∧ w = w' := by
  obtain ⟨b, o, rfl, hb, hc⟩ := ha.2 hn
  have hcell := hc 0 hn
  rw [Nat.add_zero] at hcell
  obtain ⟨x, hx⟩ : ∃ x, nth bs 0 = x := ⟨_, rfl⟩
  rw [hx] at hcell ⊢
  have he1 : ((x : Int) == 1) = decide (x = 1) := by rw [Bool.eq_iff_iff]; simp; omega
  clear ha hc hx
  go_enter Try.func87, Try.ntmps87
  go_wp2_with fail
  go_ret
  exact ⟨by first | rfl | (rw [← he1]; rfl), rfl⟩
set_option maxRecDepth 100000 in
set_option maxHeartbeats 1000000 in
theorem vBytes (A : Option Addr) (n c : Nat) (bs : List UInt8) (w : World) (ha : Rd w w.heap.size A n bs) (h4 : 4 ≤ n) (hn : n ≤ c) (hc : c ≤ 1000000) : Calls Try.prog 90 #[.slice A n c] w fun e w' => RetB 5 w (bs.drop 4) e w' := by
  obtain ⟨A2, c2, hsl2, hrd2, hc2, hc2'⟩ := slice_l isU8 A (l := 4) h4 hn
  have hr2 := hrd2 _ _ _ ha
  have hm : n - 4 ≤ 1000000 := by omega
  obtain ⟨n2, hn2⟩ : ∃ n2, n - 4 = n2 := ⟨_, rfl⟩
  rw [hn2] at hsl2 hr2 hc2 hm
  have hsl3 : ∀ (w : World), (Instr.slice 29 (.slice A n c) (some (.int .i64 4)) none none).run Try.prog w = .ok (.slice A2 n2 c2) w := fun w => hsl2 .i64 w
  have HR2 := Lib.hid hr2
  clear hrd2 ha hn2 hr2 hsl2
  go_enter Try.func90, Try.ntmps90
  go_wp2_with fail
  refine (wCat1 A2 n2 c2 (bs.drop 4) w HR2.out (by omega)).mono ?_
  rintro e w1 h
  have H := Lib.hid h
  obtain ⟨A1, n1, c1, rfl, _, _⟩ := h
  go_wp2_with fail
  go_ret
  exact H.out
end

/- The program's reader (wire), part three: Byte, Int, Flag, Bytes, Text, Count. -/
section
open Go.RowKit
set_option linter.unusedVariables false
set_option linter.unusedSimpArgs false

theorem alwaysSize (s : RS) (w : World) (h z : Nat) (hc : w.cell? ⟨h, 0, none⟩ = some (.int .i64 (z : Int))) (A : Option Addr) (n c : Nat) :
    Calls Try.prog 100 (#[.slice A n c] ++ #[.pointer (some ⟨h, 0, none⟩)]) w fun e w' => e = .returned (.tuple #[.int .i64 (z : Int), .bool true]) ∧ Below w.heap.size w w' := by
  refine (wAlways1 (.slice A n c) h (z : Int) w hc).mono ?_
  rintro e w' ⟨rfl, rfl⟩
  exact ⟨rfl, Below.refl _ _⟩
theorem not_le {s : RS} {z : Nat} {b : Bool} (h : b = false ∨ s.rest.length < z) (hb : b = true) : s.rest.length < z := by
  rcases h with h | h
  · rw [hb] at h; cases h
  · exact h
theorem byteV_yes {s : RS} (he : s.e = 0) (h : 1 ≤ s.rest.length) : (byteV s).toNat = nth (s.rest.take 1) 0 := by
  unfold byteV
  rw [numb_one he h, take_one h]
  have e : (UInt8.ofNat (nth s.rest 0)).toNat = nth s.rest 0 % 256 := UInt8.toNat_ofNat'
  have := nth_lt s.rest 0
  rw [e]
  show nth s.rest 0 % 256 = nth s.rest 0
  omega
theorem byteV_no {s : RS} (h : s.e ≠ 0 ∨ s.rest.length < 1) : (byteV s).toNat = 0 := by
  unfold byteV
  rw [numb_no h]; rfl
theorem intV_yes {s : RS} (he : s.e = 0) (h : 8 ≤ s.rest.length) : intV s = wrap64 (loadOf (s.rest.take 8) 0 8 : Int) := by
  unfold intV
  rw [numb_yes he h, (loadOf_zero (bs := s.rest.take 8) (k := 8) (by simp; omega) (by decide) (by decide)).1, List.take_take]; rfl
theorem intV_no {s : RS} (h : s.e ≠ 0 ∨ s.rest.length < 8) : intV s = 0 := by
  unfold intV
  rw [numb_no h]; simp [wrap64]

theorem tkInt (g : Nat) (F : Nat → Prop) (s : RS) (h : Nat) (w : World) (hp : PrAt w g F s) (hc : w.cell? ⟨h, 0, none⟩ = some (.int .i64 ((8 : Nat) : Int))) :
    Calls Try.prog 82 #[.pointer (some ⟨g, 0, none⟩), .func (.func 100) #[] #[.pointer (some ⟨h, 0, none⟩)], .func (.func 84) #[] #[]] w fun e w' => e = .returned (.int .i64 (intV s)) ∧ PrTo w g F (s.next 8) w' := by
  by_cases he : s.e = 0
  · have T : TakeOf s w 100 84 #[.pointer (some ⟨h, 0, none⟩)] 8 true (fun w1 e w' => e = .returned (.int .i64 (wrap64 (loadOf (s.rest.take 8) 0 8 : Int))) ∧ Below w1.heap.size w1 w') := by
      refine ⟨call_enter Try.func100 (by kernel_rfl) rfl, call_enter Try.func84 (by kernel_rfl) rfl, fun A n c _ _ _ => alwaysSize s w h 8 hc A n c, fun _ hz w1 A hsz hr => ?_⟩
      refine (wNumbr A 8 8 _ w1 hr (by decide) (by decide)).mono ?_
      rintro e w' ⟨rfl, rfl⟩
      exact ⟨⟨_, rfl⟩, rfl, Below.refl _ _⟩
    refine (takeInt_ok g F s w _ _ _ 8 true _ hp he (by decide) T).mono ?_
    intro e w' hh
    rcases hh.pure with ⟨_, hz, rfl, hto⟩ | ⟨hz, rfl, hto⟩
    · rw [next_yes he hz, intV_yes he hz]; exact ⟨rfl, hto⟩
    · have hz' := not_le hz rfl
      rw [next_no he hz', intV_no (.inr hz')]; exact ⟨rfl, hto⟩
  · refine (takeInt_bad _ _ _ s.e w hp.err he).mono ?_
    rintro e w' ⟨rfl, rfl⟩
    rw [next_bad he, intV_no (.inl he)]
    exact ⟨rfl, PrTo.of_below hp (Below.refl _ _) rfl (fun _ => rfl)⟩

set_option maxRecDepth 100000 in
set_option maxHeartbeats 1000000 in
theorem pInt (g : Nat) (F : Nat → Prop) (s : RS) (w : World) (h : PrAt w g F s) : Calls Try.prog 47 #[.pointer (some ⟨g, 0, none⟩)] w fun e w' => e = .returned (.int .i64 (intV s)) ∧ PrTo w g F (s.next 8) w' := by
  have H := Lib.hid h
  obtain ⟨x, hx⟩ : ∃ x, intV s = x := ⟨_, rfl⟩
  rw [hx]
  have HX := Lib.hid hx
  clear h hx
  go_enter Try.func47, Try.ntmps47
  go_wp2_with fail
  refine (wAlways 8 w).mono ?_
  rintro e w1 ⟨rfl, hc, _, hb⟩
  have B := Lib.hid hb
  have C := Lib.hid hc
  clear hb hc
  go_wp2_with fail
  refine (tkInt g F s _ w1 (H.out.to B.out) C.out).mono ?_
  rw [HX.out]
  rintro e w2 ⟨rfl, hto⟩
  have T := Lib.hid (hto.after B.out)
  clear hto
  go_wp2_with fail
  go_ret
  exact ⟨rfl, T.out⟩

/-! A flag. -/
set_option maxRecDepth 100000 in
set_option maxHeartbeats 1000000 in
theorem wFlag1 (A : Option Addr) (n c : Nat) (bs : List UInt8) (w : World) (ha : Rd w w.heap.size A n bs) :
    Calls Try.prog 85 #[.slice A n c] w fun e w' => e = .returned (.tuple #[.int .i64 1, .bool (decide (0 < bs.length ∧ nth bs 0 ≤ 1))]) ∧ Below w.heap.size w w' := by
  have HL := Lib.hid ha.1
  by_cases h0 : (0 : Int) < (n : Int)
  · obtain ⟨b, o, rfl, hb, hc⟩ := ha.2 (by omega)
    have hcell := hc 0 (by omega)
    rw [Nat.add_zero] at hcell
    have HLB := Lib.hid (nth_lt bs 0)
    have d0 : decide (0 < n) = true := decide_eq_true (by omega)
    obtain ⟨x, hx⟩ : ∃ x, nth bs 0 = x := ⟨_, rfl⟩
    rw [hx] at hcell HLB ⊢
    clear ha hc hx
    by_cases h1 : (x : Int) ≤ 1
    · have d1 : decide (x ≤ 1) = true := decide_eq_true (by omega)
      have HD : Hid (decide (0 < bs.length ∧ x ≤ 1) = true) := decide_eq_true ⟨by rw [HL.out]; omega, by omega⟩
      go_enter Try.func85, Try.ntmps85
      go_wp2
      go_region_held (fun w' => w'.cell? ⟨b, o, none⟩ = some (.int .u8 (x : Int))) (go_keep) (fail)
      go_wp2
      go_ret2
      rw [HD.out]
      exact ⟨rfl, below_drewN (Below.refl _ _) _⟩
    · have d1 : decide (x ≤ 1) = false := decide_eq_false (by omega)
      have HD : Hid (decide (0 < bs.length ∧ x ≤ 1) = false) := decide_eq_false (fun h => h1 (by omega))
      go_enter Try.func85, Try.ntmps85
      go_wp2
      go_region_held (fun w' => w'.cell? ⟨b, o, none⟩ = some (.int .u8 (x : Int))) (go_keep) (fail)
      go_wp2
      go_ret2
      rw [HD.out]
      have e1 : decide ((x : Int) ≤ 1) = false := decide_eq_false (by omega)
      simp only [e1]
      exact ⟨rfl, below_drewN (Below.refl _ _) _⟩
  · have HD : Hid (decide (0 < bs.length ∧ nth bs 0 ≤ 1) = false) := decide_eq_false (fun h => by have := h.1; rw [HL.out] at this; omega)
    obtain rfl : n = 0 := by omega
    clear ha h0
    go_enter Try.func85, Try.ntmps85
    go_wp2
    refine wp_region_held_drew (S := (fun _ => True)) (by kernel_rfl) (trivial) (fun hHeld => ?_)
    refine wpAnyH_take (i := 0) (v := ?_) rfl (by kernel_rfl) (by kernel_rfl) (by kernel_rfl) (fun _ _ _ h => h) (Or.inl ⟨by rfl, ?_⟩) (by assumption) ?_
    rotate_left 1
    · intro w hSw; (try dsimp only at hSw); go_simp; (try with_reducible rfl)
    simp only [Act.put, List.getElem_toArray, List.getElem_cons_zero, List.getElem_cons_succ, List.setIfInBounds_toArray, List.set_cons_zero, List.set_cons_succ]
    refine wpAnyH_take (i := 1) (v := ?_) rfl (by kernel_rfl) (by kernel_rfl) (by kernel_rfl) (fun _ _ _ h => h) (Or.inl ⟨by rfl, ?_⟩) (by assumption) ?_
    rotate_left 1
    · intro w hSw; (try dsimp only at hSw); go_simp; (try with_reducible rfl)
    simp only [Act.put, List.getElem_toArray, List.getElem_cons_zero, List.getElem_cons_succ, List.setIfInBounds_toArray, List.set_cons_zero, List.set_cons_succ]
    refine wpAnyH_take (i := 2) (v := ?_) rfl (by kernel_rfl) (by kernel_rfl) (by kernel_rfl) (fun _ _ _ h => h) (Or.inl ⟨by rfl, ?_⟩) (by assumption) ?_
    rotate_left 1
    · intro w hSw; (try dsimp only at hSw); go_simp; (try with_reducible rfl)
    simp only [Act.put, List.getElem_toArray, List.getElem_cons_zero, List.getElem_cons_succ, List.setIfInBounds_toArray, List.set_cons_zero, List.set_cons_succ]
    refine wpAnyH_take (i := 3) (v := ?_) rfl (by kernel_rfl) (by kernel_rfl) (by kernel_rfl) (fun _ _ _ h => h) (Or.inl ⟨by rfl, ?_⟩) (by assumption) ?_
    rotate_left 1
    · intro w hSw; (try dsimp only at hSw); go_simp; (try with_reducible rfl)
    simp only [Act.put, List.getElem_toArray, List.getElem_cons_zero, List.getElem_cons_succ, List.setIfInBounds_toArray, List.set_cons_zero, List.set_cons_succ]
    refine wpAnyH_take (i := 4) (v := undef) rfl (by kernel_rfl) (by kernel_rfl) (by kernel_rfl) (fun _ _ _ h => h) (Or.inr ⟨by rfl, rfl⟩) (by assumption) ?_
    simp only [Act.put, List.getElem_toArray, List.getElem_cons_zero, List.getElem_cons_succ, List.setIfInBounds_toArray, List.set_cons_zero, List.set_cons_succ]
    refine wpAnyH_take (i := 5) (v := undef) rfl (by kernel_rfl) (by kernel_rfl) (by kernel_rfl) (fun _ _ _ h => h) (Or.inr ⟨by rfl, rfl⟩) (by assumption) ?_
    simp only [Act.put, List.getElem_toArray, List.getElem_cons_zero, List.getElem_cons_succ, List.setIfInBounds_toArray, List.set_cons_zero, List.set_cons_succ]
    refine wpAnyH_take (i := 6) (v := undef) rfl (by kernel_rfl) (by kernel_rfl) (by kernel_rfl) (fun _ _ _ h => h) (Or.inr ⟨by rfl, rfl⟩) (by assumption) ?_
    simp only [Act.put, List.getElem_toArray, List.getElem_cons_zero, List.getElem_cons_succ, List.setIfInBounds_toArray, List.set_cons_zero, List.set_cons_succ]
    refine wpAnyH_take (i := 7) (v := undef) rfl (by kernel_rfl) (by kernel_rfl) (by kernel_rfl) (fun _ _ _ h => h) (Or.inr ⟨by rfl, rfl⟩) (by assumption) ?_
    simp only [Act.put, List.getElem_toArray, List.getElem_cons_zero, List.getElem_cons_succ, List.setIfInBounds_toArray, List.set_cons_zero, List.set_cons_succ]
    refine wpAnyH_take (i := 8) (v := ?_) rfl (by kernel_rfl) (by kernel_rfl) (by kernel_rfl) (fun _ _ _ h => h) (Or.inl ⟨by rfl, ?_⟩) (by assumption) ?_
    rotate_left 1
    · intro w hSw; (try dsimp only at hSw); go_simp; (try with_reducible rfl)
    simp only [Act.put, List.getElem_toArray, List.getElem_cons_zero, List.getElem_cons_succ, List.setIfInBounds_toArray, List.set_cons_zero, List.set_cons_succ]
    refine wpAnyH_take (i := 9) (v := ?_) rfl (by kernel_rfl) (by kernel_rfl) (by kernel_rfl) (fun _ _ _ h => h) (Or.inl ⟨by rfl, ?_⟩) (by assumption) ?_
    rotate_left 1
    · intro w hSw; (try dsimp only at hSw); go_simp; (try with_reducible rfl)
    simp only [Act.put, List.getElem_toArray, List.getElem_cons_zero, List.getElem_cons_succ, List.setIfInBounds_toArray, List.set_cons_zero, List.set_cons_succ]
    refine wpAnyH_take (i := 10) (v := ?_) rfl (by kernel_rfl) (by kernel_rfl) (by kernel_rfl) (fun _ _ _ h => h) (Or.inl ⟨by rfl, ?_⟩) (by assumption) ?_
    rotate_left 1
    · intro w hSw; (try dsimp only at hSw); go_simp; (try with_reducible rfl)
    simp only [Act.put, List.getElem_toArray, List.getElem_cons_zero, List.getElem_cons_succ, List.setIfInBounds_toArray, List.set_cons_zero, List.set_cons_succ]
    refine wpAnyH_done (by kernel_rfl) ?_ _
    go_wp2
    go_ret2
    rw [HD.out]
    exact ⟨rfl, below_drewN (Below.refl _ _) _⟩
theorem flagS_no {s : RS} (h : s.e ≠ 0 ∨ s.rest.length < 1) : flagS s = s.next 1 ∧ decide (s.numb 1 = 1) = false := by
  unfold flagS
  rw [numb_no h]
  exact ⟨rfl, rfl⟩
theorem tkFlag (g : Nat) (F : Nat → Prop) (s : RS) (w : World) (hp : PrAt w g F s) :
    Calls Try.prog 86 #[.pointer (some ⟨g, 0, none⟩), .func (.func 85) #[] #[], .func (.func 87) #[] #[]] w fun e w' => e = .returned (.bool (decide (s.numb 1 = 1))) ∧ PrTo w g F (flagS s) w' := by
  by_cases he : s.e = 0
  · have T : TakeOf s w 85 87 #[] 1 (decide (0 < s.rest.length ∧ nth s.rest 0 ≤ 1)) (fun w1 e w' => e = .returned (.bool (decide (nth (s.rest.take 1) 0 = 1))) ∧ Below w1.heap.size w1 w') := by
      refine ⟨call_enter Try.func85 (by kernel_rfl) rfl, call_enter Try.func87 (by kernel_rfl) rfl, fun A n c hr _ _ => wFlag1 A n c s.rest w hr, fun _ hz w1 A hsz hr => ?_⟩
      refine (vFlag A 1 1 _ w1 hr (by decide)).mono ?_
      rintro e w' ⟨rfl, rfl⟩
      exact ⟨⟨_, rfl⟩, rfl, Below.refl _ _⟩
    refine (takeBool_ok g F s w _ _ _ 1 _ _ hp he (by decide) T).mono ?_
    intro e w' hh
    rcases hh.pure with ⟨hd, hz, rfl, hto⟩ | ⟨hz, rfl, hto⟩
    · have h2 := (of_decide_eq_true hd).2
      have e1 : nth (s.rest.take 1) 0 = nth s.rest 0 := by rw [take_one hz]; rfl
      have e2 := numb_one he hz
      unfold flagS
      rw [e2, if_neg (by omega), next_yes he hz]
      rw [e1] 
      exact ⟨rfl, hto⟩
    · by_cases hlen : s.rest.length < 1
      · obtain ⟨h1, h2⟩ := flagS_no (.inr hlen)
        rw [h1, h2, next_no he hlen]; exact ⟨rfl, hto⟩
      · have hz1 : 1 ≤ s.rest.length := by omega
        have hd : ¬ (0 < s.rest.length ∧ nth s.rest 0 ≤ 1) := by
          rcases hz with h | h
          · exact of_decide_eq_false h
          · omega
        have hn : ¬ nth s.rest 0 ≤ 1 := fun h => hd ⟨by omega, h⟩
        have e2 := numb_one he hz1
        unfold flagS
        rw [e2, if_pos (by omega), decide_eq_false (by omega)]
        obtain ⟨F', h1, h2, h3⟩ := hto
        exact ⟨rfl, F', h1.as rfl (fun h => by cases h), h2, h3⟩
  · obtain ⟨h1, h2⟩ := flagS_no (.inl he)
    refine (takeBool_bad _ _ _ s.e w hp.err he).mono ?_
    rintro e w' ⟨rfl, rfl⟩
    rw [h1, h2, next_bad he]
    exact ⟨rfl, PrTo.of_below hp (Below.refl _ _) rfl (fun _ => rfl)⟩
set_option maxRecDepth 100000 in
set_option maxHeartbeats 1000000 in
theorem pFlag (g : Nat) (F : Nat → Prop) (s : RS) (w : World) (h : PrAt w g F s) : Calls Try.prog 50 #[.pointer (some ⟨g, 0, none⟩)] w fun e w' => e = .returned (.bool (decide (s.numb 1 = 1))) ∧ PrTo w g F (flagS s) w' := by
  have H := Lib.hid h
  obtain ⟨x, hx⟩ : ∃ x, decide (s.numb 1 = 1) = x := ⟨_, rfl⟩
  rw [hx]
  have HX := Lib.hid hx
  clear h hx
  go_enter Try.func50, Try.ntmps50
  go_wp2_with fail
  refine (tkFlag g F s w H.out).mono ?_
  rw [HX.out]
  rintro e w2 ⟨rfl, hto⟩
  have T := Lib.hid hto
  clear hto
  go_wp2_with fail
  go_ret
  exact ⟨rfl, T.out⟩
end

/- The program's reader (wire), part five: Tag. -/
section
open Go.RowKit
set_option linter.unusedVariables false
set_option linter.unusedSimpArgs false

theorem Rd.range {w : World} {B n b o : Nat} {bs : List UInt8} (h : Rd w B (some ⟨b, o, none⟩) n bs) : w.rangeAt b o (bs.map bval) := fun j v hv => by
  have hj : j < bs.length := by
    rcases Nat.lt_or_ge j bs.length with g | g
    · exact g
    · rw [List.getElem?_eq_none (by simpa using g)] at hv; cases hv
  rw [h.at (by rw [← h.1]; exact hj)]
  rw [List.getElem?_map, List.getElem?_eq_getElem hj] at hv
  rw [nth_of_lt hj, ← hv]; rfl

theorem tagV_no {s : RS} (h : s.e ≠ 0 ∨ s.rest.length < 32) : tagV s = zeros32 := by
  unfold tagV RS.ok
  rw [if_neg]
  rcases h with h | h
  · simp [h]
  · simp; omega
theorem tagV_yes {s : RS} (he : s.e = 0) (h : 32 ≤ s.rest.length) : tagV s = s.rest.take 32 := by
  unfold tagV RS.ok
  rw [decide_eq_true he, decide_eq_true h]; rfl
/-- The result's block written at the end. -/
theorem PrAt.setRow {w : World} {g gt : Nat} {F : Nat → Prop} {s : RS} (h : PrAt w g F s) (hn : ¬ F gt) (cs : Array Value) : PrAt (w.setRow gt cs) g F s :=
  h.kept (R := (· = gt)) ⟨rfl, rfl, rfl, by rw [setRow_size]; exact Nat.le_refl _, fun k hk hr => setRow_other w _ k _ (fun h => hr h)⟩ (fun k hk e => hn (e ▸ hk))
theorem keep_setRow {R : Nat → Prop} {a w : World} {gt : Nat} (h : Keep R a w) (hg : a.heap.size ≤ gt) (cs : Array Value) : Keep R a (w.setRow gt cs) :=
  h.new ⟨rfl, rfl, rfl, by rw [setRow_size]; exact Nat.le_refl _, fun k hk hr => setRow_other w _ k _ (fun h => hr (.inr (by omega)))⟩

end

/- The program's reader (wire), part four: Bytes, Text, Count. -/
section
open Go.RowKit
set_option linter.unusedVariables false
set_option linter.unusedSimpArgs false

/-- Bytes behind their length, of a reader that is whole. -/
theorem bytes_yes {s : RS} (he : s.e = 0) (h4 : 4 ≤ s.rest.length) (hl : loadOf s.rest 0 4 ≤ 65536) (hz : 4 + loadOf s.rest 0 4 ≤ s.rest.length) :
    bytesV s = (s.rest.take (4 + loadOf s.rest 0 4)).drop 4 ∧ bytesS s = ⟨s.rest.drop (4 + loadOf s.rest 0 4), 0⟩ := by
  have e1 : s.numb 4 = loadOf s.rest 0 4 := by rw [numb_yes he h4, (loadOf_zero (bs := s.rest) (k := 4) h4 (by decide) (by decide)).1]
  have e2 := next_yes he h4
  unfold bytesV bytesS
  rw [e1, if_neg (by omega), if_neg (by omega), e2]
  generalize loadOf s.rest 0 4 = x at *
  have hx : x ≤ (s.rest.drop 4).length := by simp; omega
  constructor
  · show (RS.got ⟨s.rest.drop 4, 0⟩ x) = _
    unfold RS.got RS.ok
    rw [decide_eq_true rfl, decide_eq_true hx]
    show (s.rest.drop 4).take x = _
    rw [List.drop_take]
    congr 1
    omega
  · rw [next_yes (s := ⟨s.rest.drop 4, 0⟩) rfl hx]
    show (⟨(s.rest.drop 4).drop x, 0⟩ : RS) = _
    rw [List.drop_drop]
/-- .. of one that fails there, or has failed. -/
theorem bytes_no {s : RS} (he : s.e = 0) (h : ¬ (4 ≤ s.rest.length ∧ loadOf s.rest 0 4 ≤ 65536) ∨ s.rest.length < 4 + loadOf s.rest 0 4) : bytesV s = [] ∧ (bytesS s).e = 50 := by
  by_cases h4 : 4 ≤ s.rest.length
  · have e1 : s.numb 4 = loadOf s.rest 0 4 := by rw [numb_yes he h4, (loadOf_zero (bs := s.rest) (k := 4) h4 (by decide) (by decide)).1]
    have e2 := next_yes he h4
    unfold bytesV bytesS
    rw [e1, e2]
    generalize loadOf s.rest 0 4 = x at *
    by_cases hx : 65536 < x
    · rw [if_pos hx, if_pos hx]; exact ⟨rfl, rfl⟩
    · rw [if_neg hx, if_neg hx]
      have hl : (s.rest.drop 4).length < x := by
        rcases h with h | h
        · exact absurd ⟨h4, by omega⟩ h
        · simp; omega
      rw [next_no (s := ⟨s.rest.drop 4, 0⟩) rfl hl]
      refine ⟨?_, rfl⟩
      unfold RS.got RS.ok
      rw [decide_eq_false (show ¬ x ≤ (s.rest.drop 4).length by omega), Bool.and_false]; rfl
  · have e1 : s.numb 4 = 0 := numb_no (.inr (by omega))
    unfold bytesV bytesS
    rw [e1, if_neg (by decide), if_neg (by decide), next_no he (by omega)]
    refine ⟨?_, ?_⟩
    · unfold RS.got RS.ok
      rw [decide_eq_false (by simp)]; rfl
    · rw [next_bad (by simp)]
theorem bytes_bad {s : RS} (he : s.e ≠ 0) : bytesV s = [] ∧ bytesS s = s := by
  have e1 : s.numb 4 = 0 := numb_no (.inl he)
  unfold bytesV bytesS
  rw [e1, if_neg (by decide), if_neg (by decide), next_bad he, next_bad he]
  refine ⟨?_, rfl⟩
  unfold RS.got RS.ok
  rw [decide_eq_false he]; rfl

/-- The size that counted says: two shapes. -/
theorem counted_size (s : RS) : ∃ (z : Nat) (ok : Bool), z ≤ 65540 ∧ (∀ (w : World) A n c, Rd w w.heap.size A n s.rest → n ≤ c → c ≤ 9223372036854775807 → Calls Try.prog 89 (#[.slice A n c] ++ #[]) w fun e w' => e = .returned (.tuple #[.int .i64 (z : Int), .bool ok]) ∧ Below w.heap.size w w') ∧
    ((ok = true ∧ 4 ≤ s.rest.length ∧ loadOf s.rest 0 4 ≤ 65536 ∧ z = 4 + loadOf s.rest 0 4) ∨ (ok = false ∧ ¬ (4 ≤ s.rest.length ∧ loadOf s.rest 0 4 ≤ 65536))) := by
  by_cases h : 4 ≤ s.rest.length ∧ loadOf s.rest 0 4 ≤ 65536
  · refine ⟨4 + loadOf s.rest 0 4, true, by omega, fun w A n c hr hn hc => ?_, .inl ⟨rfl, h.1, h.2, rfl⟩⟩
    refine (wCounted A n c s.rest w hr hn hc).mono ?_
    rintro e w' ⟨rfl, ⟨_, _, rfl⟩ | ⟨hh, rfl⟩⟩
    · exact ⟨rfl, Below.refl _ _⟩
    · exact absurd h hh
  · refine ⟨0, false, by omega, fun w A n c hr hn hc => ?_, .inr ⟨rfl, h⟩⟩
    refine (wCounted A n c s.rest w hr hn hc).mono ?_
    rintro e w' ⟨rfl, ⟨h1, h2, rfl⟩ | ⟨hh, rfl⟩⟩
    · exact absurd ⟨h1, h2⟩ h
    · exact ⟨rfl, Below.refl _ _⟩

/-- What Bytes comes to. -/
def PrBytes (w : World) (g : Nat) (F : Nat → Prop) (s : RS) (e : Ending) (w' : World) : Prop :=
  ∃ A n c F', e = .returned (.slice A n c) ∧ OwR w' w.heap.size A n (bytesV s) ∧ n ≤ c ∧ c ≤ 9223372036854775807 ∧ PrAt w' g F' (bytesS s) ∧ Off A n F' ∧ (∀ k, F' k → F k ∨ w.heap.size ≤ k) ∧ Keep F w w'
theorem PrBytes.empty {w w' : World} {g : Nat} {F : Nat → Prop} {s : RS} (hp : PrTo w g F (bytesS s) w') (hv : bytesV s = []) : PrBytes w g F s (.returned (.slice none 0 0)) w' := by
  obtain ⟨F', h1, h2, h3⟩ := hp
  exact ⟨none, 0, 0, F', rfl, by rw [hv]; exact ⟨Rd.nil _ _ _, fun h => absurd h (Nat.lt_irrefl 0)⟩, Nat.le_refl _, by decide, h1, fun h => absurd h (Nat.lt_irrefl 0), h2, h3⟩
theorem tkBytes (g : Nat) (F : Nat → Prop) (s : RS) (w : World) (hp : PrAt w g F s) :
    Calls Try.prog 88 #[.pointer (some ⟨g, 0, none⟩), .func (.func 89) #[] #[], .func (.func 90) #[] #[]] w (PrBytes w g F s) := by
  by_cases he : s.e = 0
  · obtain ⟨z, ok, hz, hsize, hcase⟩ := counted_size s
    have T : TakeOf s w 89 90 #[] z ok (fun w1 e w' => RetB 5 w1 ((s.rest.take z).drop 4) e w') := by
      refine ⟨call_enter Try.func89 (by kernel_rfl) rfl, call_enter Try.func90 (by kernel_rfl) rfl, fun A n c hr hn hc => hsize w A n c hr hn hc, fun hok hzl w1 A hsz hr => ?_⟩
      have h4 : 4 ≤ z := by
        rcases hcase with ⟨_, _, _, rfl⟩ | ⟨h, _⟩
        · omega
        · rw [hok] at h; cases h
      refine (vBytes A z z _ w1 hr h4 (Nat.le_refl _) (by omega)).mono ?_
      intro e w' h
      refine ⟨?_, h⟩
      obtain ⟨A1, n1, c1, rfl, _⟩ := h
      exact ⟨_, rfl⟩
    refine (takeBytes_ok g F s w _ _ _ z ok _ hp he (by omega) T).mono ?_
    intro e w' hh
    rcases hh with ⟨hok, hzl, w1, hp1, hk1, hV⟩ | ⟨hzl, rfl, hp1, hk1⟩
    · rcases hcase with ⟨_, h4, hl, rfl⟩ | ⟨h, _⟩
      · obtain ⟨e1, e2⟩ := bytes_yes he h4 hl hzl
        obtain ⟨A1, n1, c1, rfl, hown, hb⟩ := hV
        obtain ⟨hc1, hc2⟩ := own_cap hown
        have ho : OwR w' w1.heap.size A1 n1 (bytesV s) := by rw [e1]; exact OwR.of_own hown
        refine ⟨A1, n1, c1, F, rfl, ho.mono hk1.size, hc1, hc2, by rw [e2]; exact hp1.to hb, ho.off (fun k hk => hp1.lt k hk), fun k h => .inl h, hk1.trans (Keep.of_below hb)⟩
      · rw [hok] at h; cases h
    · obtain ⟨e1, e2⟩ := bytes_no he (by
        rcases hcase with ⟨hok, h4, hl, rfl⟩ | ⟨_, h⟩
        · rcases hzl with h | h
          · rw [hok] at h; cases h
          · exact .inr h
        · exact .inl h)
      exact PrBytes.empty ⟨F, hp1.as e2.symm (fun h => by cases h), fun k h => .inl h, hk1⟩ e1
  · obtain ⟨e1, e2⟩ := bytes_bad he
    refine (takeBytes_bad _ _ _ s.e w hp.err he).mono ?_
    rintro e w' ⟨rfl, rfl⟩
    exact PrBytes.empty (by rw [e2]; exact PrTo.of_below hp (Below.refl _ _) rfl (fun _ => rfl)) e1
set_option maxRecDepth 100000 in
set_option maxHeartbeats 1000000 in
theorem pBytes' (g : Nat) (F : Nat → Prop) (s : RS) (w : World) (h : PrAt w g F s) : Calls Try.prog 51 #[.pointer (some ⟨g, 0, none⟩)] w (PrBytes w g F s) := by
  have H := Lib.hid h
  clear h
  go_enter Try.func51, Try.ntmps51
  go_wp2_with fail
  refine (tkBytes g F s w H.out).mono ?_
  intro e w2 hto
  have T := Lib.hid hto
  obtain ⟨A1, n1, c1, F', rfl, _⟩ := hto
  go_wp2_with fail
  go_ret
  exact T.out
theorem pBytes (g : Nat) (F : Nat → Prop) (s : RS) (w : World) (h : PrAt w g F s) : Calls Try.prog 51 #[.pointer (some ⟨g, 0, none⟩)] w fun e w' => ∃ A n c F', e = .returned (.slice A n c) ∧ OwR w' w.heap.size A n (bytesV s) ∧ n ≤ c ∧ c ≤ 9223372036854775807 ∧ PrAt w' g F' (bytesS s) ∧ Off A n F' ∧ (∀ k, F' k → F k ∨ w.heap.size ≤ k) ∧ Keep F w w' := pBytes' g F s w h

/-! A count. -/
/-- What may be taken as a count. -/
def countOk (s : RS) (most : Int) : Bool := decide (8 ≤ s.rest.length ∧ 0 ≤ intV s ∧ intV s ≤ most ∧ intV s ≤ (s.rest.length : Int) - 8)
set_option maxRecDepth 100000 in
set_option maxHeartbeats 1000000 in
theorem wCount1 (A : Option Addr) (n c h : Nat) (most : Int) (bs : List UInt8) (w : World) (ha : Rd w w.heap.size A n bs) (hn : n ≤ c) (hc : c ≤ 9223372036854775807) (hm : w.cell? ⟨h, 0, none⟩ = some (.int .i64 most)) (h8 : 8 ≤ bs.length) :
    Calls Try.prog 99 #[.slice A n c, .pointer (some ⟨h, 0, none⟩)] w fun e w' => e = .returned (.tuple #[.int .i64 8, .bool (decide (0 ≤ wrap64 (loadOf bs 0 8 : Int) ∧ wrap64 (loadOf bs 0 8 : Int) ≤ most ∧ wrap64 (loadOf bs 0 8 : Int) ≤ (bs.length : Int) - 8))]) ∧ w = w' := by
  have HA := Lib.hid ha
  have hln := ha.1
  rw [hln] at h8 ⊢
  have hn8 : ¬ (n : Int) < 8 := by omega
  obtain ⟨x, hx⟩ : ∃ x, wrap64 (loadOf bs 0 8 : Int) = x := ⟨_, rfl⟩
  rw [hx]
  have HX := Lib.hid hx
  obtain ⟨d, hd⟩ : ∃ d, decide (0 ≤ x ∧ x ≤ most ∧ x ≤ (n : Int) - 8) = d := ⟨_, rfl⟩
  rw [hd]
  have HD := Lib.hid hd
  have hnc : (n : Int) ≤ 9223372036854775807 := by omega
  have hw8 : wrap64 ((n : Int) - 8) = (n : Int) - 8 := by unfold wrap64; omega
  clear ha hx hln hd
  go_enter Try.func99, Try.ntmps99
  go_wp2_with fail
  refine (wNumbr A n c bs w HA.out hn hc).mono ?_
  rw [HX.out]
  rintro e w1 ⟨rfl, rfl⟩
  by_cases h0 : 0 ≤ x
  · by_cases h1 : x ≤ most
    · by_cases h2 : x ≤ (n : Int) - 8
      · have HE : Hid (d = true) := HD.out.symm.trans (decide_eq_true ⟨h0, h1, h2⟩)
        have e2 : decide (x ≤ (n : Int) - 8) = true := decide_eq_true h2
        go_wp2_with fail
        go_ret2
        rw [HE.out]
        first | exact ⟨rfl, rfl⟩ | (simp only [e2]; exact ⟨rfl, rfl⟩)
      · have HE : Hid (d = false) := HD.out.symm.trans (decide_eq_false (fun h => h2 h.2.2))
        have e2 := Lib.hid (decide_eq_false h2)
        go_wp2_with fail
        go_ret2
        rw [HE.out]
        first | exact ⟨rfl, rfl⟩ | (simp only [e2.out]; exact ⟨rfl, rfl⟩) | (simp only [e2.out]; exact ⟨trivial, rfl⟩) | (simp only [e2.out]; exact ⟨rfl, trivial⟩)
    · have HE : Hid (d = false) := HD.out.symm.trans (decide_eq_false (fun h => h1 h.2.1))
      go_wp2_with fail
      go_ret2
      rw [HE.out]
      exact ⟨rfl, rfl⟩
  · have HE : Hid (d = false) := HD.out.symm.trans (decide_eq_false (fun h => h0 h.1))
    go_wp2_with fail
    go_ret2
    rw [HE.out]
    exact ⟨rfl, rfl⟩
set_option maxRecDepth 100000 in
set_option maxHeartbeats 1000000 in
theorem wCount1_short (A : Option Addr) (n c : Nat) (p : Value) (w : World) (h8 : n < 8) :
    Calls Try.prog 99 #[.slice A n c, p] w fun e w' => e = .returned (.tuple #[.int .i64 0, .bool false]) ∧ w = w' := by
  have hn8 : (n : Int) < 8 := by omega
  go_enter Try.func99, Try.ntmps99
  go_wp2_with fail
  go_ret2
  exact ⟨rfl, rfl⟩
theorem loadOf_take8 {l : List UInt8} (h : 8 ≤ l.length) : loadOf (l.take 8) 0 8 = loadOf l 0 8 := by
  rw [(loadOf_zero (bs := l.take 8) (k := 8) (by simp; omega) (by decide) (by decide)).1, (loadOf_zero (bs := l) (k := 8) h (by decide) (by decide)).1, List.take_take]; rfl
theorem count_yes {s : RS} {most : Int} (he : s.e = 0) (h8 : 8 ≤ s.rest.length) (h : 0 ≤ intV s ∧ intV s ≤ most ∧ intV s ≤ (s.rest.length : Int) - 8) : countV s most = intV s ∧ countS s most = ⟨s.rest.drop 8, 0⟩ := by
  have e1 : countS s most = ⟨s.rest.drop 8, 0⟩ := by
    unfold countS
    rw [next_yes he h8, if_neg]
    rintro ⟨_, hh⟩
    simp only [List.length_drop] at hh
    omega
  refine ⟨?_, e1⟩
  unfold countV
  rw [e1, if_pos rfl]
theorem count_no {s : RS} {most : Int} (he : s.e = 0) (h : s.rest.length < 8 ∨ ¬ (0 ≤ intV s ∧ intV s ≤ most ∧ intV s ≤ (s.rest.length : Int) - 8)) : countV s most = 0 ∧ (countS s most).e = 50 := by
  have e1 : (countS s most).e = 50 := by
    by_cases h8 : 8 ≤ s.rest.length
    · unfold countS
      rw [next_yes he h8, if_pos]
      refine ⟨rfl, ?_⟩
      simp only [List.length_drop]
      rcases h with h | h <;> omega
    · unfold countS
      rw [next_no he (by omega), if_neg]
      rintro ⟨hh, _⟩
      cases hh
  refine ⟨?_, e1⟩
  unfold countV
  rw [e1, if_neg (by decide)]
theorem count_bad {s : RS} {most : Int} (he : s.e ≠ 0) : countV s most = 0 ∧ countS s most = s := by
  have e1 : countS s most = s := by
    unfold countS
    rw [next_bad he, if_neg (fun hh => he hh.1)]
  refine ⟨?_, e1⟩
  unfold countV
  rw [e1, if_neg he]
theorem tkCount (g : Nat) (F : Nat → Prop) (s : RS) (most : Int) (h : Nat) (w : World) (hp : PrAt w g F s) (hc : w.cell? ⟨h, 0, none⟩ = some (.int .i64 most)) :
    Calls Try.prog 82 #[.pointer (some ⟨g, 0, none⟩), .func (.func 99) #[] #[.pointer (some ⟨h, 0, none⟩)], .func (.func 84) #[] #[]] w fun e w' => e = .returned (.int .i64 (countV s most)) ∧ PrTo w g F (countS s most) w' := by
  by_cases he : s.e = 0
  · have hval : ∀ (w1 : World) (A : Option Addr), 8 ≤ s.rest.length → Rd w1 w1.heap.size A 8 (s.rest.take 8) → Calls Try.prog 84 #[.slice A 8 8] w1 fun e w' => (∃ v, e = .returned v) ∧ (e = .returned (.int .i64 (intV s)) ∧ Below w1.heap.size w1 w') := fun w1 A h8 hr => by
      refine (wNumbr A 8 8 _ w1 hr (by decide) (by decide)).mono ?_
      rintro e w' ⟨rfl, rfl⟩
      exact ⟨⟨_, rfl⟩, by rw [intV_yes he h8], Below.refl _ _⟩
    by_cases h8 : 8 ≤ s.rest.length
    · have T : TakeOf s w 99 84 #[.pointer (some ⟨h, 0, none⟩)] 8 (decide (0 ≤ intV s ∧ intV s ≤ most ∧ intV s ≤ (s.rest.length : Int) - 8)) (fun w1 e w' => e = .returned (.int .i64 (intV s)) ∧ Below w1.heap.size w1 w') := by
        refine ⟨call_enter Try.func99 (by kernel_rfl) rfl, call_enter Try.func84 (by kernel_rfl) rfl, fun A n c hr hn hc' => ?_, fun _ hz w1 A hsz hr => hval w1 A hz hr⟩
        have hx := wCount1 A n c h most s.rest w hr hn hc' hc h8
        rw [← loadOf_take8 h8, ← intV_yes he h8] at hx
        refine hx.mono ?_
        rintro e w' ⟨rfl, rfl⟩
        exact ⟨rfl, Below.refl _ _⟩
      refine (takeInt_ok g F s w _ _ _ 8 _ _ hp he (by decide) T).mono ?_
      intro e w' hh
      rcases hh.pure with ⟨hd, hz, rfl, hto⟩ | ⟨hz, rfl, hto⟩
      · obtain ⟨e1, e2⟩ := count_yes he h8 (of_decide_eq_true hd)
        rw [e1, e2]; exact ⟨rfl, hto⟩
      · obtain ⟨e1, e2⟩ := count_no (most := most) he (by
          rcases hz with h | h
          · exact .inr (of_decide_eq_false h)
          · exact .inl h)
        rw [e1]
        obtain ⟨F', h1, h2, h3⟩ := hto
        exact ⟨rfl, F', h1.as e2.symm (fun h => by cases h), h2, h3⟩
    · have T : TakeOf s w 99 84 #[.pointer (some ⟨h, 0, none⟩)] 0 false (fun w1 e w' => e = .returned (.int .i64 (intV s)) ∧ Below w1.heap.size w1 w') := by
        refine ⟨call_enter Try.func99 (by kernel_rfl) rfl, call_enter Try.func84 (by kernel_rfl) rfl, fun A n c hr hn hc' => ?_, fun hf => by cases hf⟩
        refine (wCount1_short A n c (.pointer (some ⟨h, 0, none⟩)) w (by rw [← hr.1]; omega)).mono ?_
        rintro e w' ⟨rfl, rfl⟩
        exact ⟨rfl, Below.refl _ _⟩
      refine (takeInt_ok g F s w _ _ _ 0 _ _ hp he (by decide) T).mono ?_
      intro e w' hh
      rcases hh.pure with ⟨hd, hz, rfl, hto⟩ | ⟨hz, rfl, hto⟩
      · cases hd
      · obtain ⟨e1, e2⟩ := count_no (most := most) he (.inl (by omega))
        rw [e1]
        obtain ⟨F', h1, h2, h3⟩ := hto
        exact ⟨rfl, F', h1.as e2.symm (fun h => by cases h), h2, h3⟩
  · obtain ⟨e1, e2⟩ := count_bad (most := most) he
    refine (takeInt_bad _ _ _ s.e w hp.err he).mono ?_
    rintro e w' ⟨rfl, rfl⟩
    rw [e1, e2]
    exact ⟨rfl, PrTo.of_below hp (Below.refl _ _) rfl (fun _ => rfl)⟩
set_option maxRecDepth 100000 in
set_option maxHeartbeats 1000000 in
theorem pCount (g : Nat) (F : Nat → Prop) (s : RS) (most : Int) (w : World) (h : PrAt w g F s) (hm : -9223372036854775808 ≤ most ∧ most ≤ 9223372036854775807) : Calls Try.prog 81 #[.pointer (some ⟨g, 0, none⟩), .int .i64 most] w fun e w' => e = .returned (.int .i64 (countV s most)) ∧ PrTo w g F (countS s most) w' := by
  have hmf : ∀ (fn : Fn) (first cap : Array Value) (w : World), (Instr.makeFunc fn first cap).run Try.prog w = .ok (.func fn first cap) w := fun _ _ _ _ => rfl
  have hb : Below w.heap.size w (w.alloc (.cells #[.int .i64 most] 3)) := (Below.refl _ _).alloc (Nat.le_refl _) _
  have B := Lib.hid hb
  have H := Lib.hid (h.to hb)
  have C : Hid ((w.alloc (.cells #[.int .i64 most] 3)).cell? ⟨w.heap.size, 0, none⟩ = some (.int .i64 most)) := by (show _ = _); rw [World.cell?_alloc_at _ _ _ _ (by rfl)]; rfl
  obtain ⟨x, hx⟩ : ∃ x, countV s most = x := ⟨_, rfl⟩
  rw [hx]
  have HX := Lib.hid hx
  clear h hx hb hm
  go_enter Try.func81, Try.ntmps81
  go_wp2_with fail
  refine (tkCount g F s most _ _ H.out C.out).mono ?_
  rw [HX.out]
  rintro e w2 ⟨rfl, hto⟩
  have T := Lib.hid (hto.after B.out)
  clear hto
  go_wp2_with fail
  go_ret
  exact ⟨rfl, T.out⟩
end
end Go.Proofs.Ytljgliagciblbaa
