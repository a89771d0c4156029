/- Several texts in one (a claim has 60 files at most): WireM, WireN, WireG. -/
import Derived.Test.YtffdjnhhmfpkgaaGreatTz
import Derived.Test.YtffdjnhhmfpkgaaGreatWireT
import Derived.Laws.Cover3
namespace Go.Proofs.YtffdjnhhmfpkgaaGreat
set_option maxRecDepth 1000000
set_option maxHeartbeats 8000000
set_option linter.unusedVariables false
set_option linter.unusedSimpArgs false
section
open Go.RowKit
theorem call_enter {P : Program} {f : FuncId} {fn : Func} {c : Code} (hf : P.funcs[f]? = some fn) (hname : (fn.name == "runtime.NumGoroutine") = false) (hb : fn.body = some c) (args : Array Value) (w : World) :
  (callFunc f args).run P w = .ok (.enter f args) w := by
 have h1 : fn.name ≠ "runtime.NumGoroutine" := by simpa using hname
 simp [callFunc, hf, h1, hb]
theorem PrTo.after {w0 w w' : World} {g : Nat} {F : Nat → Prop} {s : RS} (hb : Below w0.heap.size w0 w) (h : PrTo w g F s w') : PrTo w0 g F s w' := by
 obtain ⟨F', h1, h2, h3⟩ := h
 exact ⟨F', h1, fun k hf => (h2 k hf).imp id (Nat.le_trans hb.size), (Keep.of_below hb).trans h3⟩
theorem PrTo.cell {w w' : World} {g : Nat} {F : Nat → Prop} {s : RS} (h : PrTo w g F s w') {a : Addr} (hl : a.block < w.heap.size) (hn : ¬ F a.block) : w'.cell? a = w.cell? a := by
 obtain ⟨F', h1, h2, h3⟩ := h
 exact h3.cell hl hn
theorem PrTo.upto {w w1 w' : World} {g : Nat} {F : Nat → Prop} {s : RS} (h : PrTo w g F s w1) (hb : Below w1.heap.size w1 w') : PrTo w g F s w' := by
 obtain ⟨F', h1, h2, h3⟩ := h
 exact ⟨F', h1.to hb, h2, h3.trans (Keep.of_below hb)⟩
theorem TookR.pure {w w' : World} {g : Nat} {F : Nat → Prop} {s : RS} {z : Nat} {ok : Bool} {zero x : Value} {e : Ending} (h : TookR w g F s z ok zero (fun w1 e w' => e = .returned x ∧ Below w1.heap.size w1 w') e w') :
  (ok = true ∧ z ≤ s.rest.length ∧ e = .returned x ∧ PrTo w g F ⟨s.rest.drop z, 0⟩ w') ∨ ((ok = false ∨ s.rest.length < z) ∧ e = .returned zero ∧ PrTo w g F ⟨s.rest, 50⟩ w') := by
 rcases h with ⟨h1, h2, w1, h3, h4, h5, h6⟩ | ⟨h1, h2, h3, h4⟩
 ·exact .inl ⟨h1, h2, h5, PrTo.upto ⟨F, h3, fun k h => .inl h, h4⟩ h6⟩
 ·exact .inr ⟨h1, h2, F, h3, fun k h => .inl h, h4⟩
theorem numOf_single (x : UInt8) : numOf [x] = x.toNat := by
 unfold numOf
 rw [if_neg (by simp)]
 simp [num]
theorem take_one {l : List UInt8} (h : 1 ≤ l.length) : l.take 1 = [l.getD 0 0] := by
 match l, h with
 | x :: xs, _ => simp
theorem numb_one {s : RS} (he : s.e = 0) (h : 1 ≤ s.rest.length) : s.numb 1 = nth s.rest 0 := by
 unfold RS.numb RS.ok
 rw [decide_eq_true he, decide_eq_true h]
 show numOf (s.rest.take 1) = _
 rw [take_one h, numOf_single]; rfl
theorem next_yes {s : RS} {z : Nat} (he : s.e = 0) (h : z ≤ s.rest.length) : s.next z = ⟨s.rest.drop z, 0⟩ := by
 unfold RS.next RS.ok
 rw [decide_eq_true he, decide_eq_true h]; rfl
theorem next_no {s : RS} {z : Nat} (he : s.e = 0) (h : s.rest.length < z) : s.next z = ⟨s.rest, 50⟩ := by
 unfold RS.next RS.ok
 rw [decide_eq_false (show ¬ z ≤ s.rest.length by omega), Bool.and_false, if_neg (by simp), if_pos he]
theorem next_bad {s : RS} {z : Nat} (he : s.e ≠ 0) : s.next z = s := by
 unfold RS.next RS.ok
 rw [decide_eq_false he, Bool.false_and, if_neg (by simp), if_neg he]
theorem numb_no {s : RS} {z : Nat} (h : s.e ≠ 0 ∨ s.rest.length < z) : s.numb z = 0 := by
 unfold RS.numb RS.ok
 rw [if_neg]
 rcases h with h | h
 ·simp [h]
 ·simp; omega
theorem numb_yes {s : RS} {z : Nat} (he : s.e = 0) (h : z ≤ s.rest.length) : s.numb z = numOf (s.rest.take z) := by
 unfold RS.numb RS.ok
 rw [decide_eq_true he, decide_eq_true h]; rfl
theorem vByte (A : Option Addr) (n c : Nat) (bs : List UInt8) (w : World) (ha : Rd w w.heap.size A n bs) (hn : 0 < n) : Calls Tryz.prog 106 #[.slice A n c] w fun e w' => e = .returned (.int .u8 (nth bs 0 : Int)) ∧ w = w' := by
 obtain ⟨b, o, rfl, hb, hc⟩ := ha.2 hn
 have hcell := hc 0 hn
 rw [Nat.add_zero] at hcell
 clear ha hc
 go_enter Tryz.func106, Tryz.ntmps106
 go_wp2_with fail
 go_ret
 exact ⟨rfl, rfl⟩
theorem vFlag (A : Option Addr) (n c : Nat) (bs : List UInt8) (w : World) (ha : Rd w w.heap.size A n bs) (hn : 0 < n) : Calls Tryz.prog 109 #[.slice A n c] w fun e w' => e = .returned (.bool (decide (nth bs 0 = 1))) ∧ w = w' := by
 obtain ⟨b, o, rfl, hb, hc⟩ := ha.2 hn
 have hcell := hc 0 hn
 rw [Nat.add_zero] at hcell
 obtain ⟨x, hx⟩ : ∃ x, nth bs 0 = x := ⟨_, rfl⟩
 rw [hx] at hcell ⊢
 have he1 : ((x : Int) == 1) = decide (x = 1) := by rw [Bool.eq_iff_iff]; simp; omega
 clear ha hc hx
 go_enter Tryz.func109, Tryz.ntmps109
 go_wp2_with fail
 go_ret
 exact ⟨by first | rfl | (rw [← he1]; rfl), rfl⟩
end
section
open Go.RowKit
theorem alwaysSize (s : RS) (w : World) (h z : Nat) (hc : w.cell? ⟨h, 0, none⟩ = some (.int .i64 (z : Int))) (A : Option Addr) (n c : Nat) :
  Calls Tryz.prog 123 (#[.slice A n c] ++ #[.pointer (some ⟨h, 0, none⟩)]) w fun e w' => e = .returned (.tuple #[.int .i64 (z : Int), .bool true]) ∧ Below w.heap.size w w' := by
 refine (wAlways1 (.slice A n c) h (z : Int) w hc).mono ?_
 rintro e w' ⟨rfl, rfl⟩
 exact ⟨rfl, Below.refl _ _⟩
theorem not_le {s : RS} {z : Nat} {b : Bool} (h : b = false ∨ s.rest.length < z) (hb : b = true) : s.rest.length < z := by
 rcases h with h | h
 ·rw [hb] at h; cases h
 ·exact h
theorem byteV_yes {s : RS} (he : s.e = 0) (h : 1 ≤ s.rest.length) : (byteV s).toNat = nth (s.rest.take 1) 0 := by
 unfold byteV
 rw [numb_one he h, take_one h]
 have e : (UInt8.ofNat (nth s.rest 0)).toNat = nth s.rest 0 % 256 := UInt8.toNat_ofNat'
 have := nth_lt s.rest 0
 rw [e]
 show nth s.rest 0 % 256 = nth s.rest 0
 omega
theorem byteV_no {s : RS} (h : s.e ≠ 0 ∨ s.rest.length < 1) : (byteV s).toNat = 0 := by
 unfold byteV
 rw [numb_no h]; rfl
theorem intV_yes {s : RS} (he : s.e = 0) (h : 8 ≤ s.rest.length) : intV s = wrap64 (loadOf (s.rest.take 8) 0 8 : Int) := by
 unfold intV
 rw [numb_yes he h, (loadOf_zero (bs := s.rest.take 8) (k := 8) (by simp; omega) (by decide) (by decide)).1, List.take_take]; rfl
theorem intV_no {s : RS} (h : s.e ≠ 0 ∨ s.rest.length < 8) : intV s = 0 := by
 unfold intV
 rw [numb_no h]; simp [wrap64]
theorem tkByte (g : Nat) (F : Nat → Prop) (s : RS) (h : Nat) (w : World) (hp : PrAt w g F s) (hc : w.cell? ⟨h, 0, none⟩ = some (.int .i64 ((1 : Nat) : Int))) :
  Calls Tryz.prog 105 #[.pointer (some ⟨g, 0, none⟩), .func (.func 123) #[] #[.pointer (some ⟨h, 0, none⟩)], .func (.func 106) #[] #[]] w fun e w' => e = .returned (.int .u8 ((byteV s).toNat : Int)) ∧ PrTo w g F (s.next 1) w' := by
 by_cases he : s.e = 0
 ·have T : TakeOf s w 123 106 #[.pointer (some ⟨h, 0, none⟩)] 1 true (fun w1 e w' => e = .returned (.int .u8 (nth (s.rest.take 1) 0 : Int)) ∧ Below w1.heap.size w1 w') := by
   refine ⟨call_enter Tryz.func123 (by kernel_rfl) rfl, call_enter Tryz.func106 (by kernel_rfl) rfl, fun A n c _ _ _ => alwaysSize s w h 1 hc A n c, fun _ hz w1 A hsz hr => ?_⟩
   refine (vByte A 1 1 _ w1 hr (by decide)).mono ?_
   rintro e w' ⟨rfl, rfl⟩
   exact ⟨⟨_, rfl⟩, rfl, Below.refl _ _⟩
  refine (takeByte_ok g F s w _ _ _ 1 true _ hp he (by decide) T).mono ?_
  intro e w' hh
  rcases hh.pure with ⟨_, hz, rfl, hto⟩ | ⟨hz, rfl, hto⟩
  ·rw [next_yes he hz, byteV_yes he hz]; exact ⟨rfl, hto⟩
  ·have hz' := not_le hz rfl
   rw [next_no he hz', byteV_no (.inr hz')]; exact ⟨rfl, hto⟩
 ·refine (takeByte_bad _ _ _ s.e w hp.err he).mono ?_
  rintro e w' ⟨rfl, rfl⟩
  rw [next_bad he, byteV_no (.inl he)]
  exact ⟨rfl, PrTo.of_below hp (Below.refl _ _) rfl (fun _ => rfl)⟩
theorem tkInt (g : Nat) (F : Nat → Prop) (s : RS) (h : Nat) (w : World) (hp : PrAt w g F s) (hc : w.cell? ⟨h, 0, none⟩ = some (.int .i64 ((8 : Nat) : Int))) :
  Calls Tryz.prog 102 #[.pointer (some ⟨g, 0, none⟩), .func (.func 123) #[] #[.pointer (some ⟨h, 0, none⟩)], .func (.func 104) #[] #[]] w fun e w' => e = .returned (.int .i64 (intV s)) ∧ PrTo w g F (s.next 8) w' := by
 by_cases he : s.e = 0
 ·have T : TakeOf s w 123 104 #[.pointer (some ⟨h, 0, none⟩)] 8 true (fun w1 e w' => e = .returned (.int .i64 (wrap64 (loadOf (s.rest.take 8) 0 8 : Int))) ∧ Below w1.heap.size w1 w') := by
   refine ⟨call_enter Tryz.func123 (by kernel_rfl) rfl, call_enter Tryz.func104 (by kernel_rfl) rfl, fun A n c _ _ _ => alwaysSize s w h 8 hc A n c, fun _ hz w1 A hsz hr => ?_⟩
   refine (wNumbr A 8 8 _ w1 hr (by decide) (by decide)).mono ?_
   rintro e w' ⟨rfl, rfl⟩
   exact ⟨⟨_, rfl⟩, rfl, Below.refl _ _⟩
  refine (takeInt_ok g F s w _ _ _ 8 true _ hp he (by decide) T).mono ?_
  intro e w' hh
  rcases hh.pure with ⟨_, hz, rfl, hto⟩ | ⟨hz, rfl, hto⟩
  ·rw [next_yes he hz, intV_yes he hz]; exact ⟨rfl, hto⟩
  ·have hz' := not_le hz rfl
   rw [next_no he hz', intV_no (.inr hz')]; exact ⟨rfl, hto⟩
 ·refine (takeInt_bad _ _ _ s.e w hp.err he).mono ?_
  rintro e w' ⟨rfl, rfl⟩
  rw [next_bad he, intV_no (.inl he)]
  exact ⟨rfl, PrTo.of_below hp (Below.refl _ _) rfl (fun _ => rfl)⟩
theorem pByte (g : Nat) (F : Nat → Prop) (s : RS) (w : World) (h : PrAt w g F s) : Calls Tryz.prog 85 #[.pointer (some ⟨g, 0, none⟩)] w fun e w' => e = .returned (.int .u8 ((byteV s).toNat : Int)) ∧ PrTo w g F (s.next 1) w' := by
 have H := qH h
 clear h
 go_enter Tryz.func85, Tryz.ntmps85
 go_wp2_with fail
 refine (wAlways 1 w).mono ?_
 rintro e w1 ⟨rfl, hc, _, hb⟩
 have B := qH hb
 have C := qH hc
 clear hb hc
 go_wp2_with fail
 refine (tkByte g F s _ w1 (H.out.to B.out) C.out).mono ?_
 rintro e w2 ⟨rfl, hto⟩
 have T := qH (hto.after B.out)
 clear hto
 go_wp2_with fail
 go_ret
 exact ⟨rfl, T.out⟩
theorem pInt (g : Nat) (F : Nat → Prop) (s : RS) (w : World) (h : PrAt w g F s) : Calls Tryz.prog 84 #[.pointer (some ⟨g, 0, none⟩)] w fun e w' => e = .returned (.int .i64 (intV s)) ∧ PrTo w g F (s.next 8) w' := by
 have H := qH h
 obtain ⟨x, hx⟩ : ∃ x, intV s = x := ⟨_, rfl⟩
 rw [hx]
 have HX := qH hx
 clear h hx
 go_enter Tryz.func84, Tryz.ntmps84
 go_wp2_with fail
 refine (wAlways 8 w).mono ?_
 rintro e w1 ⟨rfl, hc, _, hb⟩
 have B := qH hb
 have C := qH hc
 clear hb hc
 go_wp2_with fail
 refine (tkInt g F s _ w1 (H.out.to B.out) C.out).mono ?_
 rw [HX.out]
 rintro e w2 ⟨rfl, hto⟩
 have T := qH (hto.after B.out)
 clear hto
 go_wp2_with fail
 go_ret
 exact ⟨rfl, T.out⟩
theorem wFlag1 (A : Option Addr) (n c : Nat) (bs : List UInt8) (w : World) (ha : Rd w w.heap.size A n bs) :
  Calls Tryz.prog 107 #[.slice A n c] w fun e w' => e = .returned (.tuple #[.int .i64 1, .bool (decide (0 < bs.length ∧ nth bs 0 ≤ 1))]) ∧ Below w.heap.size w w' := by
 have HL := qH ha.1
 by_cases h0 : (0 : Int) < (n : Int)
 ·obtain ⟨b, o, rfl, hb, hc⟩ := ha.2 (by omega)
  have hcell := hc 0 (by omega)
  rw [Nat.add_zero] at hcell
  have HLB := qH (nth_lt bs 0)
  have d0 : decide (0 < n) = true := decide_eq_true (by omega)
  obtain ⟨x, hx⟩ : ∃ x, nth bs 0 = x := ⟨_, rfl⟩
  rw [hx] at hcell HLB ⊢
  clear ha hc hx
  by_cases h1 : (x : Int) ≤ 1
  ·have d1 : decide (x ≤ 1) = true := decide_eq_true (by omega)
   have HD : Hid (decide (0 < bs.length ∧ x ≤ 1) = true) := decide_eq_true ⟨by rw [HL.out]; omega, by omega⟩
   go_enter Tryz.func107, Tryz.ntmps107
   go_wp2
   go_region_held (fun w' => w'.cell? ⟨b, o, none⟩ = some (.int .u8 (x : Int))) (go_keep) (fail)
   go_wp2
   go_ret2
   rw [HD.out]
   exact ⟨rfl, below_drewN (Below.refl _ _) _⟩
  ·have d1 : decide (x ≤ 1) = false := decide_eq_false (by omega)
   have HD : Hid (decide (0 < bs.length ∧ x ≤ 1) = false) := decide_eq_false (fun h => h1 (by omega))
   go_enter Tryz.func107, Tryz.ntmps107
   go_wp2
   go_region_held (fun w' => w'.cell? ⟨b, o, none⟩ = some (.int .u8 (x : Int))) (go_keep) (fail)
   go_wp2
   go_ret2
   rw [HD.out]
   have e1 : decide ((x : Int) ≤ 1) = false := decide_eq_false (by omega)
   simp only [e1]
   exact ⟨rfl, below_drewN (Below.refl _ _) _⟩
 ·have HD : Hid (decide (0 < bs.length ∧ nth bs 0 ≤ 1) = false) := decide_eq_false (fun h => by have := h.1; rw [HL.out] at this; omega)
  obtain rfl : n = 0 := by omega
  clear ha h0
  go_enter Tryz.func107, Tryz.ntmps107
  go_wp2
  refine wp_region_held_drew (S := (fun _ => True)) (by kernel_rfl) (trivial) (fun hHeld => ?_)
  refine tk 0 ?_
  simp only [pR]
  refine tk 1 ?_
  simp only [pR]
  refine tk 2 ?_
  simp only [pR]
  refine tk 3 ?_
  simp only [pR]
  refine sk 4 ?_
  simp only [pR]
  refine sk 5 ?_
  simp only [pR]
  refine sk 6 ?_
  simp only [pR]
  refine sk 7 ?_
  simp only [pR]
  refine tk 8 ?_
  simp only [pR]
  refine tk 9 ?_
  simp only [pR]
  refine tk 10 ?_
  simp only [pR]
  refine wpAnyH_done (by kernel_rfl) ?_ _
  go_wp2
  go_ret2
  rw [HD.out]
  exact ⟨rfl, below_drewN (Below.refl _ _) _⟩
theorem flagS_no {s : RS} (h : s.e ≠ 0 ∨ s.rest.length < 1) : flagS s = s.next 1 ∧ decide (s.numb 1 = 1) = false := by
 unfold flagS
 rw [numb_no h]
 exact ⟨rfl, rfl⟩
theorem tkFlag (g : Nat) (F : Nat → Prop) (s : RS) (w : World) (hp : PrAt w g F s) :
  Calls Tryz.prog 108 #[.pointer (some ⟨g, 0, none⟩), .func (.func 107) #[] #[], .func (.func 109) #[] #[]] w fun e w' => e = .returned (.bool (decide (s.numb 1 = 1))) ∧ PrTo w g F (flagS s) w' := by
 by_cases he : s.e = 0
 ·have T : TakeOf s w 107 109 #[] 1 (decide (0 < s.rest.length ∧ nth s.rest 0 ≤ 1)) (fun w1 e w' => e = .returned (.bool (decide (nth (s.rest.take 1) 0 = 1))) ∧ Below w1.heap.size w1 w') := by
   refine ⟨call_enter Tryz.func107 (by kernel_rfl) rfl, call_enter Tryz.func109 (by kernel_rfl) rfl, fun A n c hr _ _ => wFlag1 A n c s.rest w hr, fun _ hz w1 A hsz hr => ?_⟩
   refine (vFlag A 1 1 _ w1 hr (by decide)).mono ?_
   rintro e w' ⟨rfl, rfl⟩
   exact ⟨⟨_, rfl⟩, rfl, Below.refl _ _⟩
  refine (takeBool_ok g F s w _ _ _ 1 _ _ hp he (by decide) T).mono ?_
  intro e w' hh
  rcases hh.pure with ⟨hd, hz, rfl, hto⟩ | ⟨hz, rfl, hto⟩
  ·have h2 := (of_decide_eq_true hd).2
   have e1 : nth (s.rest.take 1) 0 = nth s.rest 0 := by rw [take_one hz]; rfl
   have e2 := numb_one he hz
   unfold flagS
   rw [e2, if_neg (by omega), next_yes he hz]
   rw [e1] 
   exact ⟨rfl, hto⟩
  ·by_cases hlen : s.rest.length < 1
   ·obtain ⟨h1, h2⟩ := flagS_no (.inr hlen)
    rw [h1, h2, next_no he hlen]; exact ⟨rfl, hto⟩
   ·have hz1 : 1 ≤ s.rest.length := by omega
    have hd : ¬ (0 < s.rest.length ∧ nth s.rest 0 ≤ 1) := by
     rcases hz with h | h
     ·exact of_decide_eq_false h
     ·omega
    have hn : ¬ nth s.rest 0 ≤ 1 := fun h => hd ⟨by omega, h⟩
    have e2 := numb_one he hz1
    unfold flagS
    rw [e2, if_pos (by omega), decide_eq_false (by omega)]
    obtain ⟨F', h1, h2, h3⟩ := hto
    exact ⟨rfl, F', h1.as rfl (fun h => by cases h), h2, h3⟩
 ·obtain ⟨h1, h2⟩ := flagS_no (.inl he)
  refine (takeBool_bad _ _ _ s.e w hp.err he).mono ?_
  rintro e w' ⟨rfl, rfl⟩
  rw [h1, h2, next_bad he]
  exact ⟨rfl, PrTo.of_below hp (Below.refl _ _) rfl (fun _ => rfl)⟩
theorem pFlag (g : Nat) (F : Nat → Prop) (s : RS) (w : World) (h : PrAt w g F s) : Calls Tryz.prog 86 #[.pointer (some ⟨g, 0, none⟩)] w fun e w' => e = .returned (.bool (decide (s.numb 1 = 1))) ∧ PrTo w g F (flagS s) w' := by
 have H := qH h
 obtain ⟨x, hx⟩ : ∃ x, decide (s.numb 1 = 1) = x := ⟨_, rfl⟩
 rw [hx]
 have HX := qH hx
 clear h hx
 go_enter Tryz.func86, Tryz.ntmps86
 go_wp2_with fail
 refine (tkFlag g F s w H.out).mono ?_
 rw [HX.out]
 rintro e w2 ⟨rfl, hto⟩
 have T := qH hto
 clear hto
 go_wp2_with fail
 go_ret
 exact ⟨rfl, T.out⟩
end
section
open Go.RowKit
theorem Rd.range {w : World} {B n b o : Nat} {bs : List UInt8} (h : Rd w B (some ⟨b, o, none⟩) n bs) : w.rangeAt b o (bs.map bval) := fun j v hv => by
 have hj : j < bs.length := by
  rcases Nat.lt_or_ge j bs.length with g | g
  ·exact g
  ·rw [List.getElem?_eq_none (by simpa using g)] at hv; cases hv
 rw [h.at (by rw [← h.1]; exact hj)]
 rw [List.getElem?_map, List.getElem?_eq_getElem hj] at hv
 rw [nth_of_lt hj, ← hv]; rfl
theorem vTag (A : Option Addr) (c : Nat) (bs : List UInt8) (w : World) (ha : Rd w w.heap.size A 32 bs) : Calls Tryz.prog 111 #[.slice A 32 c] w fun e w' => e = .returned (.agg (arrB bs)) ∧ Below w.heap.size w w' := by
 have hz := tag_zero
 have hl := ha.1
 obtain ⟨b, o, rfl, hb, _⟩ := ha.2 (by decide)
 have hap : ∀ w : World, (Instr.arrayAt 32 (.slice (some ⟨b, o, none⟩) 32 c)).run Tryz.prog w = .ok (.pointer (some ⟨b, o, none⟩)) w := fun w => run_arrayAt w 32 5 32 _ 32 c Tryz.underlying32 (Nat.le_refl 32)
 have hrg : (w.alloc (.cells (arrB zeros32) 32)).rangeAt b o (bs.map bval) := rangeAt_below ha.range ((Below.refl _ _).alloc (Nat.le_refl _) _) hb
 have hu := Tryz.underlying32
 have S1 := qH (tag_size hl)
 have S5 := qH (show (Tryz.prog.info? 32).map (·.size) = some (bs.map bval).length by rw [List.length_map, hl]; exact (zero_of_info tag_info).2)
 have E1 : Hid ((arrB zeros32).size = (arrB bs).size) := by
  show _ = _
  rw [arrB_size, arrB_size, hl]; rfl
 have HRG := qH hrg
 clear ha hl hb hrg
 go_enter Tryz.func111, Tryz.ntmps111
 go_wp2_with (first | (refine wpList_load_mid rfl 32 _ rfl b o rfl (bs.map bval) _ HRG.out hu rfl S5.out ?_) | (refine wpList_store_row rfl 32 _ _ rfl w.heap.size (arrB bs) rfl rfl 32 (arrB zeros32) (heap_alloc_last w _) S1.out E1.out (arrB_one _) ?_; rw [World.setRow_alloc_new]))
 (try simp only [Exit.inBlock, Exit.then])
 refine bodyPost_ret (v := .agg (arrB bs)) ?_ rfl ⟨rfl, (Below.refl _ _).alloc (Nat.le_refl _) _⟩
 exact results_cell_row rfl _ _ w.heap.size 32 (arrB bs) (0, 0) _ rfl (heap_alloc_last w _) Tryz.underlying32 rfl S1.out
theorem tagV_no {s : RS} (h : s.e ≠ 0 ∨ s.rest.length < 32) : tagV s = zeros32 := by
 unfold tagV RS.ok
 rw [if_neg]
 rcases h with h | h
 ·simp [h]
 ·simp; omega
theorem tagV_yes {s : RS} (he : s.e = 0) (h : 32 ≤ s.rest.length) : tagV s = s.rest.take 32 := by
 unfold tagV RS.ok
 rw [decide_eq_true he, decide_eq_true h]; rfl
theorem PrAt.setRow {w : World} {g gt : Nat} {F : Nat → Prop} {s : RS} (h : PrAt w g F s) (hn : ¬ F gt) (cs : Array Value) : PrAt (w.setRow gt cs) g F s :=
 h.kept (R := (· = gt)) ⟨rfl, rfl, rfl, by rw [setRow_size]; exact Nat.le_refl _, fun k hk hr => setRow_other w _ k _ (fun h => hr h)⟩ (fun k hk e => hn (e ▸ hk))
theorem keep_setRowG {R : Nat → Prop} {a w : World} {gt : Nat} (h : Keep R a w) (hg : a.heap.size ≤ gt) (cs : Array Value) : Keep R a (w.setRow gt cs) :=
 h.new ⟨rfl, rfl, rfl, by rw [setRow_size]; exact Nat.le_refl _, fun k hk hr => setRow_other w _ k _ (fun h => hr (.inr (by omega)))⟩
theorem tkTag (g : Nat) (F : Nat → Prop) (s : RS) (h : Nat) (w : World) (hp : PrAt w g F s) (hc : w.cell? ⟨h, 0, none⟩ = some (.int .i64 32)) (hh : h < w.heap.size) :
  Calls Tryz.prog 110 #[.pointer (some ⟨g, 0, none⟩), .func (.func 123) #[] #[.pointer (some ⟨h, 0, none⟩)], .func (.func 111) #[] #[]] w fun e w' => e = .returned (.agg (arrB (tagV s))) ∧ PrTo w g F (s.next 32) w' := by
 have hz := tag_zero
 have h2 := two_tags w zeros32 rfl
 have T0 := qH h2.1
 have T1 := qH h2.2
 have hb2 : Below w.heap.size w ((w.alloc (.cells (arrB zeros32) 32)).alloc (.cells (arrB zeros32) 32)) := ((Below.refl _ _).alloc (Nat.le_refl _) _).alloc (by simp) _
 have HP := qH (hp.to hb2)
 have HC : Hid (((w.alloc (.cells (arrB zeros32) 32)).alloc (.cells (arrB zeros32) 32)).cell? ⟨h, 0, none⟩ = some (.int .i64 32)) := (hb2.cell hh).trans hc
 have B := qH hb2
 have HNF : Hid (¬ F w.heap.size) := fun hf => absurd (hp.lt _ hf) (Nat.lt_irrefl _)
 have HNF1 : Hid (¬ F (w.heap.size + 1)) := fun hf => by have := hp.lt _ hf; omega
 have HLT2 : Hid (h < ((w.alloc (.cells (arrB zeros32) 32)).alloc (.cells (arrB zeros32) 32)).heap.size) := by (show _ < _); simp; omega
 have SZ : Hid ((Tryz.prog.info? 32).map (·.size) = some (arrB zeros32).size) := tag_size rfl
 clear hp hc hh h2 hb2
 go_enter Tryz.func110, Tryz.ntmps110
 go_wp2_with fail
 clear hz
 generalize ((w.alloc (.cells (arrB zeros32) 32)).alloc (.cells (arrB zeros32) 32)) = w0 at *
 have hpe := HP.out.err
 have HE := qH hpe
 clear hpe
 refine (HE.out).mono ?_
 rintro e w1 ⟨rfl, rfl⟩
 by_cases he : s.e = 0
 ·obtain ⟨A, n, c, bs, h1, h2, h3, h4, h5, hnc, hcc, h8, h9, h10⟩ := HP.out
  obtain rfl := h9 he
  have HB := qH h1
  have HR := qH h2
  have HFG := qH h3
  have HBL := qH h4
  have HLT := qH h5
  have HLEN := qH h2.1
  have HGL := qH (heap_at_lt h1)
  have HE0 := qH he
  obtain ⟨x0, x1, x2, y0, y1, y2⟩ := cells3 h1
  have he' : ((s.e : Nat) : Int) = 0 := by omega
  rw [he] at HB x2
  have HOFF : Hid (Off A n (· = g)) := fun hn b o e h => by
   obtain ⟨b', o', e', _, hne⟩ := h4 hn
   rw [e] at e'
   injection e' with e'; injection e' with e1 _
   exact hne (e1.symm.trans h)
  have hci := fun args w => call_enter Tryz.func123 (by kernel_rfl) rfl args w
  have hcj := fun args w => call_enter Tryz.func111 (by kernel_rfl) rfl args w
  clear h1 h2 h3 h4 h5 h9 h10 he HE
  go_wp2_with fail
  refine (wAlways1 _ h 32 _ HC.out).mono ?_
  rintro e w1 ⟨rfl, rfl⟩
  by_cases hbig : (32 : Int) > (n : Int)
  ·have HL32 : Hid (s.rest.length < 32) := by (show _ < _); rw [HLEN.out]; omega
   have HV : Hid (tagV s = zeros32) := tagV_no (.inr HL32.out)
   have HN : Hid (s.next 32 = ⟨s.rest, 50⟩) := next_no HE0.out HL32.out
   have HB1 := qH (set3_1 (v := .slice none 0 0) HB.out)
   have HB2 := qH (set3_2 (v := .int .i64 50) HB1.out)
   have HK : Hid (Keep F w0 ((w0.setCell ⟨g, 1, none⟩ (.slice none 0 0)).setCell ⟨g, 2, none⟩ (.int .i64 50))) := ((Keep.refl F w0).setCell _ _ HFG.out).setCell _ _ HFG.out
   have HKg : Hid (Keep (· = g) w0 ((w0.setCell ⟨g, 1, none⟩ (.slice none 0 0)).setCell ⟨g, 2, none⟩ (.int .i64 50))) := ((Keep.refl (· = g) w0).setCell ⟨g, 1, none⟩ _ rfl).setCell ⟨g, 2, none⟩ _ rfl
   have TY := qH (tag_kept T0.out HKg.out (fun e => HNF.out (e ▸ HFG.out)))
   have TZ := qH (tag_kept T1.out HKg.out (fun e => HNF1.out (e ▸ HFG.out)))
   have HPR : Hid (PrAt ((w0.setCell ⟨g, 1, none⟩ (.slice none 0 0)).setCell ⟨g, 2, none⟩ (.int .i64 50)) g F ⟨s.rest, 50⟩) := ⟨none, 0, 0, [], HB2.out, Rd.nil _ _ _, HFG.out, fun h => absurd h (Nat.lt_irrefl 0), fun k hk => by simpa using HLT.out k hk, by decide, by decide, by decide, fun h => by simp at h, Nat.le_refl 50⟩
   go_wp2_with (first | (refine wpList_load_row rfl 32 _ rfl (w.heap.size + 1) rfl 32 (arrB zeros32) (0, 0) _ TZ.out.2 Tryz.underlying32 rfl SZ.out ?_) | (refine wpList_store_row rfl 32 _ _ rfl w.heap.size (arrB zeros32) rfl rfl 32 (arrB zeros32) TY.out.2 SZ.out rfl (arrB_one _) ?_))
   (try simp only [Exit.inBlock, Exit.then])
   refine bodyPost_ret (v := .agg (arrB zeros32)) ?_ rfl ⟨by rw [HV.out], ?_⟩
   ·exact results_cell_row rfl _ _ w.heap.size 32 (arrB zeros32) (0, 0) _ rfl (setRow_heap _ _ _ _ _ _ TY.out.2) Tryz.underlying32 rfl SZ.out
   ·rw [HN.out]
    exact ⟨F, HPR.out.setRow HNF.out _, fun k h => .inl h, keep_setRowG ((Keep.of_below B.out).trans HK.out) (Nat.le_refl _) _⟩
  ·have h32n : 32 ≤ n := by omega
   have HL32 : Hid (32 ≤ s.rest.length) := by (show _ ≤ _); rw [HLEN.out]; omega
   have HV : Hid (tagV s = s.rest.take 32) := tagV_yes HE0.out HL32.out
   have HN : Hid (s.next 32 = ⟨s.rest.drop 32, 0⟩) := next_yes HE0.out HL32.out
   have hsl0 := slice_hh isU8 A (h := 32) h32n hnc
   have hsl : ∀ (w : World), (Instr.slice 35 (.slice A n c) none (some (.int .i64 32)) (some (.int .i64 32))).run Tryz.prog w = .ok (.slice A 32 32) w := fun w => hsl0 .i64 .i64 w
   obtain ⟨A2, c2, hsl20, hrd2, hc2, hc2', hbk2⟩ := slice_lb isU8 A (l := 32) h32n hnc
   obtain ⟨n2, hn2⟩ : ∃ k, n - 32 = k := ⟨_, rfl⟩
   rw [hn2] at hsl20 hrd2 hc2
   have hsl2 : ∀ (w : World), (Instr.slice 35 (.slice A n c) (some (.int .i64 32)) none none).run Tryz.prog w = .ok (.slice A2 n2 c2) w := fun w => hsl20 .i64 w
   have HR2 := qH (hrd2 _ _ _ HR.out)
   have HRF := qH (HR.out.front h32n)
   have HSUB : Hid (0 < n2 → ∃ b o, A2 = some ⟨b, o, none⟩ ∧ F b ∧ b ≠ g) := fun h0 => by
    obtain ⟨b, o, e, hF, hne⟩ := HBL.out (by omega)
    obtain ⟨o', e'⟩ := hbk2 b o e
    exact ⟨b, o', e', hF, hne⟩
   have HC2 : Hid (n2 ≤ c2 ∧ c2 ≤ 9223372036854775807 ∧ n2 ≤ 65536) := ⟨hc2, by omega, by omega⟩
   clear hrd2 hbig hbk2 hc2 hc2' hsl0 hsl20
   go_wp2_with fail
   have K3 : Hid (Keep F w0 (w0.setCell ⟨g, 1, none⟩ (.slice A2 n2 c2))) := (Keep.refl F w0).setCell _ _ HFG.out
   have K3g : Hid (Keep (· = g) w0 (w0.setCell ⟨g, 1, none⟩ (.slice A2 n2 c2))) := (Keep.refl _ w0).setCell _ _ rfl
   have HB3 := qH (set3_1 (v := .slice A2 n2 c2) HB.out)
   have HSZ : Hid ((w0.setCell ⟨g, 1, none⟩ (.slice A2 n2 c2)).heap.size = w0.heap.size) := by (show _ = _); simp
   generalize w0.setCell ⟨g, 1, none⟩ (.slice A2 n2 c2) = w3 at *
   have HF3 : Hid (Rd w3 w3.heap.size A 32 (s.rest.take 32)) := HRF.out.kept K3g.out (fun h0 b o e h => HOFF.out (by omega) b o e h)
   have HR3 : Hid (Rd w3 w3.heap.size A2 n2 (s.rest.drop 32)) := HR2.out.kept K3g.out (fun h0 b o e h => by
    obtain ⟨b', o', e', _, hne⟩ := HSUB.out h0
    rw [e] at e'
    injection e' with e'; injection e' with e1 _
    exact hne (e1.symm.trans h))
   have HP3 : Hid (PrAt w3 g F ⟨s.rest.drop 32, 0⟩) := ⟨A2, n2, c2, s.rest.drop 32, HB3.out, HR3.out, HFG.out, HSUB.out, fun k hk => by rw [HSZ.out]; exact HLT.out k hk, HC2.out.1, HC2.out.2.1, HC2.out.2.2, fun _ => rfl, Nat.zero_le _⟩
   have TY := qH (tag_kept T0.out K3g.out (fun e => HNF.out (e ▸ HFG.out)))
   refine (vTag A 32 _ w3 HF3.out).mono ?_
   obtain ⟨tv, htv⟩ : ∃ l, s.rest.take 32 = l := ⟨_, rfl⟩
   have HTL : Hid (tv.length = 32) := by (show _ = _); rw [← htv]; exact HRF.out.1
   rw [htv] at HV ⊢
   clear htv
   rintro e w4 ⟨rfl, hb⟩
   replace TY := qH (TY.out.below hb)
   have HP4 := qH (HP3.out.to hb)
   have K4 := qH (K3.out.trans (Keep.of_below hb))
   have S1 := qH (tag_size HTL.out)
   have E1 : Hid ((arrB zeros32).size = (arrB tv).size) := by
    show _ = _
    rw [arrB_size, arrB_size, HTL.out]; rfl
   clear hb
   go_wp2_with (refine wpList_store_row rfl 32 _ _ rfl w.heap.size (arrB tv) rfl rfl 32 (arrB zeros32) TY.out.2 S1.out E1.out (arrB_one _) ?_)
   (try simp only [Exit.inBlock, Exit.then])
   refine bodyPost_ret (v := .agg (arrB tv)) ?_ rfl ⟨by rw [HV.out], ?_⟩
   ·exact results_cell_row rfl _ _ w.heap.size 32 (arrB tv) (0, 0) _ rfl (setRow_heap _ _ _ _ _ _ TY.out.2) Tryz.underlying32 rfl S1.out
   ·rw [HN.out]
    exact ⟨F, HP4.out.setRow HNF.out _, fun k h => .inl h, keep_setRowG ((Keep.of_below B.out).trans K4.out) (Nat.le_refl _) _⟩
 ·have hne : ((s.e : Int) != 0) = true := by simp; omega
  have hne' : ¬ (s.e : Int) = 0 := by omega
  have HV : Hid (tagV s = zeros32) := tagV_no (.inl he)
  have HN : Hid (s.next 32 = s) := next_bad he
  have TY := T0
  have TZ := T1
  clear he
  go_wp2_with (first | (refine wpList_load_row rfl 32 _ rfl (w.heap.size + 1) rfl 32 (arrB zeros32) (0, 0) _ TZ.out.2 Tryz.underlying32 rfl SZ.out ?_) | (refine wpList_store_row rfl 32 _ _ rfl w.heap.size (arrB zeros32) rfl rfl 32 (arrB zeros32) TY.out.2 SZ.out rfl (arrB_one _) ?_))
  (try simp only [Exit.inBlock, Exit.then])
  refine bodyPost_ret (v := .agg (arrB zeros32)) ?_ rfl ⟨by rw [HV.out], ?_⟩
  ·exact results_cell_row rfl _ _ w.heap.size 32 (arrB zeros32) (0, 0) _ rfl (setRow_heap _ _ _ _ _ _ TY.out.2) Tryz.underlying32 rfl SZ.out
  ·rw [HN.out]
   exact ⟨F, HP.out.setRow HNF.out _, fun k h => .inl h, keep_setRowG (Keep.of_below B.out) (Nat.le_refl _) _⟩
theorem pTag (g : Nat) (F : Nat → Prop) (s : RS) (w : World) (h : PrAt w g F s) : Calls Tryz.prog 87 #[.pointer (some ⟨g, 0, none⟩)] w fun e w' => e = .returned (.agg (arrB (tagV s))) ∧ PrTo w g F (s.next 32) w' := by
 have hz := tag_zero
 have hb0 : Below w.heap.size w (w.alloc (.cells (arrB zeros32) 32)) := (Below.refl _ _).alloc (Nat.le_refl _) _
 have H := qH (h.to hb0)
 have T0 : Hid (TagAt (w.alloc (.cells (arrB zeros32) 32)) w.heap.size zeros32) := ⟨rfl, heap_alloc_last w _⟩
 have B := qH hb0
 have HNF : Hid (¬ F w.heap.size) := fun hf => absurd (h.lt _ hf) (Nat.lt_irrefl _)
 have HTL := qH (tagV_len s)
 have HL0 : Hid (w.heap.size < (w.alloc (.cells (arrB zeros32) 32)).heap.size) := by (show _ < _); simp
 clear h hb0
 go_enter Tryz.func87, Tryz.ntmps87
 go_wp2_with fail
 clear hz
 generalize w.alloc (.cells (arrB zeros32) 32) = w0 at *
 refine (wAlways 32 w0).mono ?_
 rintro e w1 ⟨rfl, hc, hlt, hb⟩
 have C := qH hc
 have HLT := qH hlt
 replace H := qH (H.out.to hb)
 replace T0 := qH (T0.out.below hb)
 replace HL0 : Hid (w.heap.size < w1.heap.size) := Nat.lt_of_lt_of_le HL0.out hb.size
 replace B := qH (B.out.trans (hb.mono B.out.size))
 clear hb hc hlt
 go_wp2_with fail
 refine (tkTag g F s w0.heap.size w1 H.out C.out HLT.out).mono ?_
 obtain ⟨tv, htv⟩ : ∃ l, tagV s = l := ⟨_, rfl⟩
 rw [htv] at HTL
 rw [htv]
 have HTV := qH htv
 clear htv
 rintro e w2 ⟨rfl, F', hp', hs', hk'⟩
 have T2 := qH (tag_kept T0.out hk' HNF.out)
 have HP2 := qH hp'
 have HS2 : Hid (∀ k, F' k → F k ∨ w1.heap.size ≤ k) := hs'
 have K2 := qH ((Keep.of_below (R := F) B.out).trans hk')
 have S1 := qH (tag_size HTL.out)
 have E1 : Hid ((arrB zeros32).size = (arrB tv).size) := by
  show _ = _
  rw [arrB_size, arrB_size, HTL.out]; rfl
 clear hp' hs' hk'
 go_wp2_with (refine wpList_store_row rfl 32 _ _ rfl w.heap.size (arrB tv) rfl rfl 32 (arrB zeros32) T2.out.2 S1.out E1.out (arrB_one _) ?_)
 (try simp only [Exit.inBlock, Exit.then])
 refine bodyPost_ret (v := .agg (arrB tv)) ?_ rfl ⟨by rw [HTV.out], ?_⟩
 ·exact results_cell_row rfl _ _ w.heap.size 32 (arrB tv) (0, 0) _ rfl (setRow_heap _ _ _ _ _ _ T2.out.2) Tryz.underlying32 rfl S1.out
 ·refine ⟨F', HP2.out.setRow (fun hf => ?_) _, fun k h => (HS2.out k h).imp id (fun h => by have := HL0.out; omega), keep_setRowG K2.out (Nat.le_refl _) _⟩
  rcases HS2.out _ hf with h | h
  ·exact HNF.out h
  ·have := HL0.out; omega
end
end Go.Proofs.YtffdjnhhmfpkgaaGreat