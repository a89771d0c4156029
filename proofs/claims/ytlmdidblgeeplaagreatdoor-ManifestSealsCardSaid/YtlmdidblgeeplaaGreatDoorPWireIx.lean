/- Several texts in one (a claim has 60 files at most): WireO, WireW, WireV, WireI. -/
import Derived.Test.YtlmdidblgeeplaaGreatDoorTz
import Derived.Test.YtlmdidblgeeplaaGreatDoorPWireNx
import Derived.Test.YtlmdidblgeeplaaGreatDoorPWB
import Derived.Test.YtlmdidblgeeplaaGreatDoorPShaRefHx
import Derived.Test.YtlmdidblgeeplaaGreatDoorPWireGy
import Derived.Test.YtlmdidblgeeplaaGreatDoorPPadx
namespace Go.Proofs.YtlmdidblgeeplaaGreatDoor
set_option maxRecDepth 1000000
set_option maxHeartbeats 8000000
set_option linter.unusedVariables false
set_option linter.unusedSimpArgs false
section
open Go.RowKit
theorem bytes_yes {s : RS} (he : s.e = 0) (h4 : 4 ≤ s.rest.length) (hl : loadOf s.rest 0 4 ≤ 65536) (hz : 4 + loadOf s.rest 0 4 ≤ s.rest.length) :
  bytesV s = (s.rest.take (4 + loadOf s.rest 0 4)).drop 4 ∧ bytesS s = ⟨s.rest.drop (4 + loadOf s.rest 0 4), 0⟩ := by
 have e1 : s.numb 4 = loadOf s.rest 0 4 := by rw [numb_yes he h4, (loadOf_zero (bs := s.rest) (k := 4) h4 (by decide) (by decide)).1]
 have e2 := next_yes he h4
 unfold bytesV bytesS
 rw [e1, if_neg (by omega), if_neg (by omega), e2]
 generalize loadOf s.rest 0 4 = x at *
 have hx : x ≤ (s.rest.drop 4).length := by simp; omega
 constructor
 ·show (RS.got ⟨s.rest.drop 4, 0⟩ x) = _
  unfold RS.got RS.ok
  rw [decide_eq_true rfl, decide_eq_true hx]
  show (s.rest.drop 4).take x = _
  rw [List.drop_take]
  congr 1
  omega
 ·rw [next_yes (s := ⟨s.rest.drop 4, 0⟩) rfl hx]
  show (⟨(s.rest.drop 4).drop x, 0⟩ : RS) = _
  rw [List.drop_drop]
theorem bytes_no {s : RS} (he : s.e = 0) (h : ¬ (4 ≤ s.rest.length ∧ loadOf s.rest 0 4 ≤ 65536) ∨ s.rest.length < 4 + loadOf s.rest 0 4) : bytesV s = [] ∧ (bytesS s).e = 50 := by
 by_cases h4 : 4 ≤ s.rest.length
 ·have e1 : s.numb 4 = loadOf s.rest 0 4 := by rw [numb_yes he h4, (loadOf_zero (bs := s.rest) (k := 4) h4 (by decide) (by decide)).1]
  have e2 := next_yes he h4
  unfold bytesV bytesS
  rw [e1, e2]
  generalize loadOf s.rest 0 4 = x at *
  by_cases hx : 65536 < x
  ·rw [if_pos hx, if_pos hx]; exact ⟨rfl, rfl⟩
  ·rw [if_neg hx, if_neg hx]
   have hl : (s.rest.drop 4).length < x := by
    rcases h with h | h
    ·exact absurd ⟨h4, by omega⟩ h
    ·simp; omega
   rw [next_no (s := ⟨s.rest.drop 4, 0⟩) rfl hl]
   refine ⟨?_, rfl⟩
   unfold RS.got RS.ok
   rw [decide_eq_false (show ¬ x ≤ (s.rest.drop 4).length by omega), Bool.and_false]; rfl
 ·have e1 : s.numb 4 = 0 := numb_no (.inr (by omega))
  unfold bytesV bytesS
  rw [e1, if_neg (by decide), if_neg (by decide), next_no he (by omega)]
  refine ⟨?_, ?_⟩
  ·unfold RS.got RS.ok
   rw [decide_eq_false (by simp)]; rfl
  ·rw [next_bad (by simp)]
theorem bytes_bad {s : RS} (he : s.e ≠ 0) : bytesV s = [] ∧ bytesS s = s := by
 have e1 : s.numb 4 = 0 := numb_no (.inl he)
 unfold bytesV bytesS
 rw [e1, if_neg (by decide), if_neg (by decide), next_bad he, next_bad he]
 refine ⟨?_, rfl⟩
 unfold RS.got RS.ok
 rw [decide_eq_false he]; rfl
theorem counted_size (s : RS) : ∃ (z : Nat) (ok : Bool), z ≤ 65540 ∧ (∀ (w : World) A n c, Rd w w.heap.size A n s.rest → n ≤ c → c ≤ 9223372036854775807 → Calls Tryz.prog 103 (#[.slice A n c] ++ #[]) w fun e w' => e = .returned (.tuple #[.int .i64 (z : Int), .bool ok]) ∧ Below w.heap.size w w') ∧
  ((ok = true ∧ 4 ≤ s.rest.length ∧ loadOf s.rest 0 4 ≤ 65536 ∧ z = 4 + loadOf s.rest 0 4) ∨ (ok = false ∧ ¬ (4 ≤ s.rest.length ∧ loadOf s.rest 0 4 ≤ 65536))) := by
 by_cases h : 4 ≤ s.rest.length ∧ loadOf s.rest 0 4 ≤ 65536
 ·refine ⟨4 + loadOf s.rest 0 4, true, by omega, fun w A n c hr hn hc => ?_, .inl ⟨rfl, h.1, h.2, rfl⟩⟩
  refine (wCounted A n c s.rest w hr hn hc).mono ?_
  rintro e w' ⟨rfl, ⟨_, _, rfl⟩ | ⟨hh, rfl⟩⟩
  ·exact ⟨rfl, Below.refl _ _⟩
  ·exact absurd h hh
 ·refine ⟨0, false, by omega, fun w A n c hr hn hc => ?_, .inr ⟨rfl, h⟩⟩
  refine (wCounted A n c s.rest w hr hn hc).mono ?_
  rintro e w' ⟨rfl, ⟨h1, h2, rfl⟩ | ⟨hh, rfl⟩⟩
  ·exact absurd ⟨h1, h2⟩ h
  ·exact ⟨rfl, Below.refl _ _⟩
def PrBytes (w : World) (g : Nat) (F : Nat → Prop) (s : RS) (e : Ending) (w' : World) : Prop :=
 ∃ A n c F', e = .returned (.slice A n c) ∧ OwR w' w.heap.size A n (bytesV s) ∧ n ≤ c ∧ c ≤ 9223372036854775807 ∧ PrAt w' g F' (bytesS s) ∧ Off A n F' ∧ (∀ k, F' k → F k ∨ w.heap.size ≤ k) ∧ Keep F w w'
theorem PrBytes.empty {w w' : World} {g : Nat} {F : Nat → Prop} {s : RS} (hp : PrTo w g F (bytesS s) w') (hv : bytesV s = []) : PrBytes w g F s (.returned (.slice none 0 0)) w' := by
 obtain ⟨F', h1, h2, h3⟩ := hp
 exact ⟨none, 0, 0, F', rfl, by rw [hv]; exact ⟨Rd.nil _ _ _, fun h => absurd h (Nat.lt_irrefl 0)⟩, Nat.le_refl _, by decide, h1, fun h => absurd h (Nat.lt_irrefl 0), h2, h3⟩
theorem tkBytes (g : Nat) (F : Nat → Prop) (s : RS) (w : World) (hp : PrAt w g F s) :
  Calls Tryz.prog 102 #[.pointer (some ⟨g, 0, none⟩), .func (.func 103) #[] #[], .func (.func 104) #[] #[]] w (PrBytes w g F s) := by
 by_cases he : s.e = 0
 ·obtain ⟨z, ok, hz, hsize, hcase⟩ := counted_size s
  have T : TakeOf s w 103 104 #[] z ok (fun w1 e w' => RetB 5 w1 ((s.rest.take z).drop 4) e w') := by
   refine ⟨call_enter Tryz.func103 (by kernel_rfl) rfl, call_enter Tryz.func104 (by kernel_rfl) rfl, fun A n c hr hn hc => hsize w A n c hr hn hc, fun hok hzl w1 A hsz hr => ?_⟩
   have h4 : 4 ≤ z := by
    rcases hcase with ⟨_, _, _, rfl⟩ | ⟨h, _⟩
    ·omega
    ·rw [hok] at h; cases h
   refine (vBytes A z z _ w1 hr h4 (Nat.le_refl _) (by omega)).mono ?_
   intro e w' h
   refine ⟨?_, h⟩
   obtain ⟨A1, n1, c1, rfl, _⟩ := h
   exact ⟨_, rfl⟩
  refine (takeBytes_ok g F s w _ _ _ z ok _ hp he (by omega) T).mono ?_
  intro e w' hh
  rcases hh with ⟨hok, hzl, w1, hp1, hk1, hV⟩ | ⟨hzl, rfl, hp1, hk1⟩
  ·rcases hcase with ⟨_, h4, hl, rfl⟩ | ⟨h, _⟩
   ·obtain ⟨e1, e2⟩ := bytes_yes he h4 hl hzl
    obtain ⟨A1, n1, c1, rfl, hown, hb⟩ := hV
    obtain ⟨hc1, hc2⟩ := own_cap hown
    have ho : OwR w' w1.heap.size A1 n1 (bytesV s) := by rw [e1]; exact OwR.of_own hown
    refine ⟨A1, n1, c1, F, rfl, ho.mono hk1.size, hc1, hc2, by rw [e2]; exact hp1.to hb, ho.off (fun k hk => hp1.lt k hk), fun k h => .inl h, hk1.trans (Keep.of_below hb)⟩
   ·rw [hok] at h; cases h
  ·obtain ⟨e1, e2⟩ := bytes_no he (by
    rcases hcase with ⟨hok, h4, hl, rfl⟩ | ⟨_, h⟩
    ·rcases hzl with h | h
     ·rw [hok] at h; cases h
     ·exact .inr h
    ·exact .inl h)
   exact PrBytes.empty ⟨F, hp1.as e2.symm (fun h => by cases h), fun k h => .inl h, hk1⟩ e1
 ·obtain ⟨e1, e2⟩ := bytes_bad he
  refine (takeBytes_bad _ _ _ s.e w hp.err he).mono ?_
  rintro e w' ⟨rfl, rfl⟩
  exact PrBytes.empty (by rw [e2]; exact PrTo.of_below hp (Below.refl _ _) rfl (fun _ => rfl)) e1
theorem pBytes' (g : Nat) (F : Nat → Prop) (s : RS) (w : World) (h : PrAt w g F s) : Calls Tryz.prog 41 #[.pointer (some ⟨g, 0, none⟩)] w (PrBytes w g F s) := by
 have H := qH h
 clear h
 go_enter Tryz.func41, Tryz.ntmps41
 go_wp2_with fail
 refine (tkBytes g F s w H.out).mono ?_
 intro e w2 hto
 have T := qH hto
 obtain ⟨A1, n1, c1, F', rfl, _⟩ := hto
 go_wp2_with fail
 go_ret
 exact T.out
theorem pBytes (g : Nat) (F : Nat → Prop) (s : RS) (w : World) (h : PrAt w g F s) : Calls Tryz.prog 41 #[.pointer (some ⟨g, 0, none⟩)] w fun e w' => ∃ A n c F', e = .returned (.slice A n c) ∧ OwR w' w.heap.size A n (bytesV s) ∧ n ≤ c ∧ c ≤ 9223372036854775807 ∧ PrAt w' g F' (bytesS s) ∧ Off A n F' ∧ (∀ k, F' k → F k ∨ w.heap.size ≤ k) ∧ Keep F w w' := pBytes' g F s w h
theorem wCount1 (A : Option Addr) (n c h : Nat) (most : Int) (bs : List UInt8) (w : World) (ha : Rd w w.heap.size A n bs) (hn : n ≤ c) (hc : c ≤ 9223372036854775807) (hm : w.cell? ⟨h, 0, none⟩ = some (.int .i64 most)) (h8 : 8 ≤ bs.length) :
  Calls Tryz.prog 186 #[.slice A n c, .pointer (some ⟨h, 0, none⟩)] w fun e w' => e = .returned (.tuple #[.int .i64 8, .bool (decide (0 ≤ wrap64 (loadOf bs 0 8 : Int) ∧ wrap64 (loadOf bs 0 8 : Int) ≤ most ∧ wrap64 (loadOf bs 0 8 : Int) ≤ (bs.length : Int) - 8))]) ∧ w = w' := by
 have HA := qH ha
 have hln := ha.1
 rw [hln] at h8 ⊢
 have hn8 : ¬ (n : Int) < 8 := by omega
 obtain ⟨x, hx⟩ : ∃ x, wrap64 (loadOf bs 0 8 : Int) = x := ⟨_, rfl⟩
 rw [hx]
 have HX := qH hx
 obtain ⟨d, hd⟩ : ∃ d, decide (0 ≤ x ∧ x ≤ most ∧ x ≤ (n : Int) - 8) = d := ⟨_, rfl⟩
 rw [hd]
 have HD := qH hd
 have hnc : (n : Int) ≤ 9223372036854775807 := by omega
 have hw8 : wrap64 ((n : Int) - 8) = (n : Int) - 8 := by unfold wrap64; omega
 clear ha hx hln hd
 go_enter Tryz.func186, Tryz.ntmps186
 go_wp2_with fail
 refine (wNumbr A n c bs w HA.out hn hc).mono ?_
 rw [HX.out]
 rintro e w1 ⟨rfl, rfl⟩
 by_cases h0 : 0 ≤ x
 ·by_cases h1 : x ≤ most
  ·by_cases h2 : x ≤ (n : Int) - 8
   ·have HE : Hid (d = true) := HD.out.symm.trans (decide_eq_true ⟨h0, h1, h2⟩)
    have e2 : decide (x ≤ (n : Int) - 8) = true := decide_eq_true h2
    go_wp2_with fail
    go_ret2
    rw [HE.out]
    first | exact ⟨rfl, rfl⟩ | (simp only [e2]; exact ⟨rfl, rfl⟩)
   ·have HE : Hid (d = false) := HD.out.symm.trans (decide_eq_false (fun h => h2 h.2.2))
    have e2 := qH (decide_eq_false h2)
    go_wp2_with fail
    go_ret2
    rw [HE.out]
    first | exact ⟨rfl, rfl⟩ | (simp only [e2.out]; exact ⟨rfl, rfl⟩) | (simp only [e2.out]; exact ⟨trivial, rfl⟩) | (simp only [e2.out]; exact ⟨rfl, trivial⟩)
  ·have HE : Hid (d = false) := HD.out.symm.trans (decide_eq_false (fun h => h1 h.2.1))
   go_wp2_with fail
   go_ret2
   rw [HE.out]
   exact ⟨rfl, rfl⟩
 ·have HE : Hid (d = false) := HD.out.symm.trans (decide_eq_false (fun h => h0 h.1))
  go_wp2_with fail
  go_ret2
  rw [HE.out]
  exact ⟨rfl, rfl⟩
theorem wCount1_short (A : Option Addr) (n c : Nat) (p : Value) (w : World) (h8 : n < 8) :
  Calls Tryz.prog 186 #[.slice A n c, p] w fun e w' => e = .returned (.tuple #[.int .i64 0, .bool false]) ∧ w = w' := by
 have hn8 : (n : Int) < 8 := by omega
 go_enter Tryz.func186, Tryz.ntmps186
 go_wp2_with fail
 go_ret2
 exact ⟨rfl, rfl⟩
theorem loadOf_take8 {l : List UInt8} (h : 8 ≤ l.length) : loadOf (l.take 8) 0 8 = loadOf l 0 8 := by
 rw [(loadOf_zero (bs := l.take 8) (k := 8) (by simp; omega) (by decide) (by decide)).1, (loadOf_zero (bs := l) (k := 8) h (by decide) (by decide)).1, List.take_take]; rfl
theorem count_yes {s : RS} {most : Int} (he : s.e = 0) (h8 : 8 ≤ s.rest.length) (h : 0 ≤ intV s ∧ intV s ≤ most ∧ intV s ≤ (s.rest.length : Int) - 8) : countV s most = intV s ∧ countS s most = ⟨s.rest.drop 8, 0⟩ := by
 have e1 : countS s most = ⟨s.rest.drop 8, 0⟩ := by
  unfold countS
  rw [next_yes he h8, if_neg]
  rintro ⟨_, hh⟩
  simp only [List.length_drop] at hh
  omega
 refine ⟨?_, e1⟩
 unfold countV
 rw [e1, if_pos rfl]
theorem count_no {s : RS} {most : Int} (he : s.e = 0) (h : s.rest.length < 8 ∨ ¬ (0 ≤ intV s ∧ intV s ≤ most ∧ intV s ≤ (s.rest.length : Int) - 8)) : countV s most = 0 ∧ (countS s most).e = 50 := by
 have e1 : (countS s most).e = 50 := by
  by_cases h8 : 8 ≤ s.rest.length
  ·unfold countS
   rw [next_yes he h8, if_pos]
   refine ⟨rfl, ?_⟩
   simp only [List.length_drop]
   rcases h with h | h <;> omega
  ·unfold countS
   rw [next_no he (by omega), if_neg]
   rintro ⟨hh, _⟩
   cases hh
 refine ⟨?_, e1⟩
 unfold countV
 rw [e1, if_neg (by decide)]
theorem count_bad {s : RS} {most : Int} (he : s.e ≠ 0) : countV s most = 0 ∧ countS s most = s := by
 have e1 : countS s most = s := by
  unfold countS
  rw [next_bad he, if_neg (fun hh => he hh.1)]
 refine ⟨?_, e1⟩
 unfold countV
 rw [e1, if_neg he]
theorem tkCount (g : Nat) (F : Nat → Prop) (s : RS) (most : Int) (h : Nat) (w : World) (hp : PrAt w g F s) (hc : w.cell? ⟨h, 0, none⟩ = some (.int .i64 most)) :
  Calls Tryz.prog 90 #[.pointer (some ⟨g, 0, none⟩), .func (.func 186) #[] #[.pointer (some ⟨h, 0, none⟩)], .func (.func 92) #[] #[]] w fun e w' => e = .returned (.int .i64 (countV s most)) ∧ PrTo w g F (countS s most) w' := by
 by_cases he : s.e = 0
 ·have hval : ∀ (w1 : World) (A : Option Addr), 8 ≤ s.rest.length → Rd w1 w1.heap.size A 8 (s.rest.take 8) → Calls Tryz.prog 92 #[.slice A 8 8] w1 fun e w' => (∃ v, e = .returned v) ∧ (e = .returned (.int .i64 (intV s)) ∧ Below w1.heap.size w1 w') := fun w1 A h8 hr => by
   refine (wNumbr A 8 8 _ w1 hr (by decide) (by decide)).mono ?_
   rintro e w' ⟨rfl, rfl⟩
   exact ⟨⟨_, rfl⟩, by rw [intV_yes he h8], Below.refl _ _⟩
  by_cases h8 : 8 ≤ s.rest.length
  ·have T : TakeOf s w 186 92 #[.pointer (some ⟨h, 0, none⟩)] 8 (decide (0 ≤ intV s ∧ intV s ≤ most ∧ intV s ≤ (s.rest.length : Int) - 8)) (fun w1 e w' => e = .returned (.int .i64 (intV s)) ∧ Below w1.heap.size w1 w') := by
    refine ⟨call_enter Tryz.func186 (by kernel_rfl) rfl, call_enter Tryz.func92 (by kernel_rfl) rfl, fun A n c hr hn hc' => ?_, fun _ hz w1 A hsz hr => hval w1 A hz hr⟩
    have hx := wCount1 A n c h most s.rest w hr hn hc' hc h8
    rw [← loadOf_take8 h8, ← intV_yes he h8] at hx
    refine hx.mono ?_
    rintro e w' ⟨rfl, rfl⟩
    exact ⟨rfl, Below.refl _ _⟩
   refine (takeInt_ok g F s w _ _ _ 8 _ _ hp he (by decide) T).mono ?_
   intro e w' hh
   rcases hh.pure with ⟨hd, hz, rfl, hto⟩ | ⟨hz, rfl, hto⟩
   ·obtain ⟨e1, e2⟩ := count_yes he h8 (of_decide_eq_true hd)
    rw [e1, e2]; exact ⟨rfl, hto⟩
   ·obtain ⟨e1, e2⟩ := count_no (most := most) he (by
     rcases hz with h | h
     ·exact .inr (of_decide_eq_false h)
     ·exact .inl h)
    rw [e1]
    obtain ⟨F', h1, h2, h3⟩ := hto
    exact ⟨rfl, F', h1.as e2.symm (fun h => by cases h), h2, h3⟩
  ·have T : TakeOf s w 186 92 #[.pointer (some ⟨h, 0, none⟩)] 0 false (fun w1 e w' => e = .returned (.int .i64 (intV s)) ∧ Below w1.heap.size w1 w') := by
    refine ⟨call_enter Tryz.func186 (by kernel_rfl) rfl, call_enter Tryz.func92 (by kernel_rfl) rfl, fun A n c hr hn hc' => ?_, fun hf => by cases hf⟩
    refine (wCount1_short A n c (.pointer (some ⟨h, 0, none⟩)) w (by rw [← hr.1]; omega)).mono ?_
    rintro e w' ⟨rfl, rfl⟩
    exact ⟨rfl, Below.refl _ _⟩
   refine (takeInt_ok g F s w _ _ _ 0 _ _ hp he (by decide) T).mono ?_
   intro e w' hh
   rcases hh.pure with ⟨hd, hz, rfl, hto⟩ | ⟨hz, rfl, hto⟩
   ·cases hd
   ·obtain ⟨e1, e2⟩ := count_no (most := most) he (.inl (by omega))
    rw [e1]
    obtain ⟨F', h1, h2, h3⟩ := hto
    exact ⟨rfl, F', h1.as e2.symm (fun h => by cases h), h2, h3⟩
 ·obtain ⟨e1, e2⟩ := count_bad (most := most) he
  refine (takeInt_bad _ _ _ s.e w hp.err he).mono ?_
  rintro e w' ⟨rfl, rfl⟩
  rw [e1, e2]
  exact ⟨rfl, PrTo.of_below hp (Below.refl _ _) rfl (fun _ => rfl)⟩
theorem pCount (g : Nat) (F : Nat → Prop) (s : RS) (most : Int) (w : World) (h : PrAt w g F s) (hm : -9223372036854775808 ≤ most ∧ most ≤ 9223372036854775807) : Calls Tryz.prog 155 #[.pointer (some ⟨g, 0, none⟩), .int .i64 most] w fun e w' => e = .returned (.int .i64 (countV s most)) ∧ PrTo w g F (countS s most) w' := by
 have hmf : ∀ (fn : Fn) (first cap : Array Value) (w : World), (Instr.makeFunc fn first cap).run Tryz.prog w = .ok (.func fn first cap) w := fun _ _ _ _ => rfl
 have hb : Below w.heap.size w (w.alloc (.cells #[.int .i64 most] 3)) := (Below.refl _ _).alloc (Nat.le_refl _) _
 have B := qH hb
 have H := qH (h.to hb)
 have C : Hid ((w.alloc (.cells #[.int .i64 most] 3)).cell? ⟨w.heap.size, 0, none⟩ = some (.int .i64 most)) := by (show _ = _); rw [World.cell?_alloc_at _ _ _ _ (by rfl)]; rfl
 obtain ⟨x, hx⟩ : ∃ x, countV s most = x := ⟨_, rfl⟩
 rw [hx]
 have HX := qH hx
 clear h hx hb hm
 go_enter Tryz.func155, Tryz.ntmps155
 go_wp2_with fail
 refine (tkCount g F s most _ _ H.out C.out).mono ?_
 rw [HX.out]
 rintro e w2 ⟨rfl, hto⟩
 have T := qH (hto.after B.out)
 clear hto
 go_wp2_with fail
 go_ret
 exact ⟨rfl, T.out⟩
end
section
open Go.RowKit
theorem wpList_pushAllF {P : Program} {T U : TypeId} (L : U8 P T U) {ops : Array Oper} {rest : List Oper} {o : Oper} {a : Act} {Q : Exit → Act → World → Prop} (hgd : o.guard = none) (s x : Operand)
  (ho : o.op = .call { callee := .builtin .append, args := #[s, x], argTypes := #[T, T] }) {B B' k m c : Nat} {A : Option Addr} {wr : World} {v : Value} {bs news : List UInt8} (hs : a.eval s = v)
  (hx : a.eval x = .slice A m c) (hown : wr.ownsRow B U 1 v k (bs.map bval)) (hr : Rd wr B' A m news) (hB : B ≤ wr.heap.size) (hk : k + m ≤ 140737488355328)
  (h : ∀ v' w1, w1.ownsRow B U 1 v' (k + m) ((bs ++ news).map bval) → Keep (fun k => v.ownBlock = some k) wr w1 → (∀ b, v'.ownBlock = some b → v.ownBlock = some b ∨ wr.heap.size ≤ b) → wpList P ops Q rest (a.put o.dst v') w1) : wpList P ops Q (o :: rest) a wr := by
 obtain ⟨i0, hi, hz0, hz1, hz2⟩ := info_parts L.info
 have hlen : news.length = m := hr.1
 by_cases h0 : m = 0
 ·subst h0
  obtain rfl : news = [] := List.eq_nil_of_length_eq_zero hlen
  have hrun : (Builtin.append_ #[T, T] o.type #[v, .slice A 0 c]).run P wr = .ok v wr := by
   have hul := L.ul
   cases A with
   | none =>
    rcases hown.2 with ⟨rfl, rfl⟩ | ⟨g, cap, cur, rfl, _, _, hnc, _⟩
    ·simp [Builtin.append_, run_underlying hul, sizeOf, typeInfo, hi, Builtin.lenOf, Builtin.firstCells]
    ·simp [Builtin.append_, run_underlying hul, sizeOf, typeInfo, hi, Builtin.lenOf, Builtin.firstCells, hnc, storeCells]
   | some ad =>
    rcases hown.2 with ⟨rfl, rfl⟩ | ⟨g, cap, cur, rfl, _, _, hnc, _⟩
    ·simp [Builtin.append_, run_underlying hul, sizeOf, typeInfo, hi, Builtin.lenOf, Builtin.firstCells, loadCells, loadCellsFrom, storeCells]
    ·simp [Builtin.append_, run_underlying hul, sizeOf, typeInfo, hi, Builtin.lenOf, Builtin.firstCells, hnc, storeCells, loadCells, loadCellsFrom]
  refine wpList_plain hgd fun K hK => ?_
  unfold Oper.wp execOp
  simp only [ho, resolve, invoke, builtin, Sem.run_bind, Sem.run_pure, Result.andThen_ok, List.map_toArray, List.map_cons, List.map_nil, hs, hx, hrun]
  exact hK _ _ (h v wr (by simpa using hown) (Keep.refl _ _) (fun b e => .inl e))
 ·obtain ⟨b, of, rfl, _, hc⟩ := hr.2 (by omega)
  refine wpList_plain hgd fun K hK => ?_
  refine wp_append_lies _ s x T ho B U i0 (.int .u8 0) 1 1 L.ul hi hz0 hz1 hz2 rfl (by decide) v k _ hs hown ⟨b, of, none⟩ m c (news.map bval) hx (by simpa using hlen) ?_ (bvals_one _) (by omega) ?_ ?_ hB _ rfl ?_
  ·intro j u hu
   have hj : j < m := by
    rcases Nat.lt_or_ge j m with g | g
    ·exact g
    ·rw [List.getElem?_eq_none (by simpa [hlen] using g)] at hu; cases hu
   have e : (⟨b, of, none⟩ : Addr).add j = ⟨b, of + j, none⟩ := by unfold Addr.add; split <;> simp_all
   rw [e, hc j hj, ← hu, List.getElem?_map, List.getElem?_eq_getElem (by omega), nth_of_lt (by omega)]
   rfl
  ·unfold maxLen; omega
  ·omega
  ·intro g cap w1 hown' hgrow hg _
   refine hK _ _ (h _ w1 (by rw [List.map_append]; exact hown') ⟨hgrow.os, hgrow.tape, hgrow.output, hgrow.size, fun k hk hn => hgrow.block k hk (fun e => hn e.symm)⟩ (fun b' e => ?_))
   simp only [Value.ownBlock, Option.some.injEq] at e
   subst e
   rcases hg with h | h
   ·exact .inl h
   ·exact .inr (by omega)
theorem own_keep {R : Nat → Prop} {w w' : World} {B : Nat} {T : TypeId} {v : Value} {n : Nat} {xs : List Value} (h : w.ownsRow B T 1 v n xs) (hk : Keep R w w') (hn : ∀ b, v.ownBlock = some b → ¬ R b) : w'.ownsRow B T 1 v n xs := by
 refine ⟨h.1, ?_⟩
 rcases h.2 with h | ⟨g, cap, cur, e, hg, hh, h⟩
 ·exact .inl h
 ·exact .inr ⟨g, cap, cur, e, hg, (hk.block g (heap_at_lt hh) (hn g (by rw [e]; rfl))).trans hh, h⟩
def WrAt (w : World) (g : Nat) (F : Nat → Prop) (form : List UInt8) (bad : Bool) : Prop :=
 ∃ v : Value, w.heap[g]? = some (.cells #[.bool true, v, .int .i64 (if bad then 3 else 0)] 102 (0, 0)) ∧ F g ∧ (∀ k, F k → k < w.heap.size) ∧ (∀ b, v.ownBlock = some b → F b ∧ b ≠ g) ∧ (bad = false → w.ownsRow 0 5 1 v form.length (form.map bval) ∧ form.length ≤ 65536)
theorem WrAt.lt {w : World} {g : Nat} {F : Nat → Prop} {form : List UInt8} {bad : Bool} (h : WrAt w g F form bad) : ∀ k, F k → k < w.heap.size := by
 obtain ⟨v, h1, h2, h3, h4⟩ := h
 exact h3
theorem WrAt.kept {R : Nat → Prop} {w w' : World} {g : Nat} {F : Nat → Prop} {form : List UInt8} {bad : Bool} (h : WrAt w g F form bad) (hk : Keep R w w') (hn : ∀ k, F k → ¬ R k) : WrAt w' g F form bad := by
 obtain ⟨v, h1, h2, h3, h4, h5⟩ := h
 exact ⟨v, (hk.block g (h3 g h2) (hn g h2)).trans h1, h2, fun k hf => Nat.lt_of_lt_of_le (h3 k hf) hk.size, h4, fun hb => ⟨own_keep (h5 hb).1 hk (fun b e => hn b (h4 b e).1), (h5 hb).2⟩⟩
theorem WrAt.to {w w' : World} {g : Nat} {F : Nat → Prop} {form : List UInt8} {bad : Bool} (h : WrAt w g F form bad) (hb : Below w.heap.size w w') : WrAt w' g F form bad := h.kept (R := fun _ => False) (Keep.of_below hb) (fun _ _ h => h)
def wForm (form b : List UInt8) (bad : Bool) : List UInt8 := if bad = false ∧ form.length + b.length ≤ 65536 then form ++ b else form
def wBad (form b : List UInt8) (bad : Bool) : Bool := if form.length + b.length ≤ 65536 then bad else true
def WrTo (w : World) (g : Nat) (F : Nat → Prop) (form b : List UInt8) (bad : Bool) (e : Ending) (w' : World) : Prop :=
 e = .returned (.pointer (some ⟨g, 0, none⟩)) ∧ ∃ F', WrAt w' g F' (wForm form b bad) (wBad form b bad) ∧ (∀ k, F' k → F k ∨ w.heap.size ≤ k) ∧ Keep F w w'
theorem WrTo.after {w0 w w' : World} {g : Nat} {F : Nat → Prop} {form b : List UInt8} {bad : Bool} {e : Ending} (hb : Below w0.heap.size w0 w) (h : WrTo w g F form b bad e w') : WrTo w0 g F form b bad e w' := by
 obtain ⟨he, F', h1, h2, h3⟩ := h
 exact ⟨he, F', h1, fun k hf => (h2 k hf).imp id (Nat.le_trans hb.size), (Keep.of_below hb).trans h3⟩
def StIs (p : Value) (w : World) (e0 : Nat) : Prop := Calls Tryz.prog 75 #[p] w fun e w' => e = .returned (.int .i64 (e0 : Int)) ∧ w = w'
theorem stIs_made (g : Nat) (x : Value) (e0 : Nat) (w : World) (h : w.heap[g]? = some (.cells #[.bool true, x, .int .i64 (e0 : Int)] 102 (0, 0))) : StIs (.pointer (some ⟨g, 0, none⟩)) w e0 := by
 obtain ⟨x0, x1, x2, _, _, _⟩ := cells3 h
 clear h
 unfold StIs
 go_enter Tryz.func75, Tryz.ntmps75
 go_wp2
 go_ret
 exact ⟨rfl, rfl⟩
theorem wNew (w : World) : Calls Tryz.prog 71 #[] w fun e w' => ∃ g F, e = .returned (.pointer (some ⟨g, 0, none⟩)) ∧ WrAt w' g F [] false ∧ (∀ k, F k → w.heap.size ≤ k) ∧ Below w.heap.size w w' := by
 go_enter Tryz.func71, Tryz.ntmps71
 go_wp2
 go_ret
 exact ⟨w.heap.size, (· = w.heap.size), rfl, ⟨.slice none 0 0, heap_alloc_last w _, rfl, fun k h => by rw [h]; simp, fun b e => by simp [Value.ownBlock] at e, fun _ => ⟨⟨rfl, .inl ⟨rfl, rfl⟩⟩, by decide⟩⟩, fun k h => Nat.le_of_eq h.symm, (Below.refl _ _).alloc (Nat.le_refl _) _⟩
def PartsAt (w : World) (B : Nat) (F : Nat → Prop) (A : Option Addr) (n : Nat) (bss : List (List UInt8)) : Prop :=
 bss.length = n ∧ (0 < n → ∃ b o, A = some ⟨b, o, none⟩ ∧ b < B ∧ ¬ F b ∧ ∀ j, j < n → ∃ A' m c, w.cell? ⟨b, o + j, none⟩ = some (.slice A' m c) ∧ Rd w B A' m (bss.getD j []) ∧ Off A' m F)
def AddRel (w : World) (g : Nat) (F : Nat → Prop) (n : Nat) (form : List UInt8) (bss : List (List UInt8)) (i : Value) (wr : World) : Prop :=
 ∃ (k : Nat) (F' : Nat → Prop), k ≤ n ∧ i = .int .i64 (k : Int) ∧ WrAt wr g F' (form ++ (bss.take k).flatten) false ∧ (∀ k, F' k → F k ∨ w.heap.size ≤ k) ∧ Keep F w wr
def SumRelW (w : World) (n : Nat) (bss : List (List UInt8)) (s i : Value) (wr : World) : Prop :=
 ∃ k : Nat, k ≤ n ∧ i = .int .i64 (k : Int) ∧ s = .int .i64 ((tot bss k : Nat) : Int) ∧ w = wr
theorem wAdd_bad (p parts : Value) (e0 : Nat) (w : World) (h : StIs p w e0) (he : e0 ≠ 0) : Calls Tryz.prog 74 #[p, parts] w fun e w' => e = .returned p ∧ w = w' := by
 have H := qH h
 have hne : ((e0 : Int) != 0) = true := by simp; omega
 have hne' : ¬ (e0 : Int) = 0 := by omega
 clear h he
 go_enter Tryz.func74, Tryz.ntmps74
 go_wp2_with fail
 refine (H.out).mono ?_
 rintro e w1 ⟨rfl, rfl⟩
 go_wp2_with fail
 go_ret
 exact ⟨rfl, rfl⟩
theorem wAdd_ok (g : Nat) (F : Nat → Prop) (form : List UInt8) (A : Option Addr) (n c : Nat) (bss : List (List UInt8)) (w : World) (h : WrAt w g F form false) (hp : PartsAt w w.heap.size F A n bss) (hn : n ≤ 1000) (ht : bss.flatten.length ≤ 140737488355328) :
  Calls Tryz.prog 74 #[.pointer (some ⟨g, 0, none⟩), .slice A n c] w (WrTo w g F form bss.flatten false) := by
 have H := qH h
 have HP := qH hp
 obtain ⟨v, h1, h2, h3, h4, h5⟩ := h
 obtain ⟨hown, hfl⟩ := h5 rfl
 obtain ⟨A0, c0, rfl⟩ := own_slice hown
 have HB := qH h1
 have HS := qH (stIs_made g _ 0 w h1)
 have HFG := qH h2
 have HLT := qH h3
 obtain ⟨x0, x1, x2, y0, y1, y2⟩ := cells3 h1
 obtain ⟨fl, hfll⟩ : ∃ n, form.length = n := ⟨_, rfl⟩
 rw [hfll] at x1 hfl HB
 have HFL := qH hfll
 clear hp h1 h2 h3 h4 h5 hown hfll
 go_enter Tryz.func74, Tryz.ntmps74
 go_wp2_with fail
 refine (HS.out).mono ?_
 rintro e w1 ⟨rfl, rfl⟩
 go_wp2_with fail
 go_loopw [5, 16] (fun s i wr => SumRelW w n bss s i wr) (fun _ i _ => n - (intOf i).toNat)
 case atStart => exact ⟨0, Nat.zero_le _, rfl, by simp [tot], rfl⟩
 case round =>
  obtain ⟨k, hk, rfl, rfl, rfl⟩ := hrel
  by_cases hlt : k < n
  ·obtain ⟨b, o, rfl, hbo, hnf, hc⟩ := HP.out.2 (by omega)
   obtain ⟨A', m, c', hcell, hrd, _⟩ := hc k hlt
   have ht0 : tot bss k ≤ 140737488355328 := Nat.le_trans (tot_le _ _) ht
   have ht1 : tot bss k + m ≤ 140737488355328 := by
    have h := tot_le bss (k + 1)
    rw [tot_succ (by rw [HP.out.1]; exact hlt), hrd.1] at h; omega
   have HT : Hid (tot bss (k + 1) = tot bss k + m) := by
    have := tot_succ (bss := bss) (k := k) (by rw [HP.out.1]; exact hlt)
    rw [hrd.1] at this; exact this
   clear hc hrd
   generalize tot bss k = t0 at *
   go_wp2_with fail
   go_roundw
   case rel => exact ⟨k + 1, by omega, by go_num, by rw [HT.out]; go_num, rfl⟩
   case measure => simp [intOf]; omega
  ·obtain rfl : k = n := by omega
   have hall : tot bss k = bss.flatten.length := by unfold tot; rw [List.take_of_length_le (by rw [HP.out.1]; exact Nat.le_refl _)]
   rw [hall]
   obtain ⟨t0, ht0⟩ : ∃ t, bss.flatten.length = t := ⟨_, rfl⟩
   rw [ht0] at ht ⊢
   have HT0 := qH ht0
   clear hall ht0
   by_cases hbig : (t0 : Int) > 65536 - (fl : Int)
   ·have HW : Hid (wForm form bss.flatten false = form ∧ wBad form bss.flatten false = true) := by
     have h1 := HT0.out; have h2 := HFL.out
     exact ⟨by unfold wForm; rw [if_neg (by omega)], by unfold wBad; rw [if_neg (by omega)]⟩
    have HB1 := qH (set3_1 (v := .slice none 0 0) HB.out)
    have HB2 := qH (set3_2 (v := .int .i64 3) HB1.out)
    go_wp2_with fail
    go_ret
    refine ⟨rfl, F, ?_, fun k h => .inl h, ((Keep.refl F w).setCell _ _ HFG.out).setCell _ _ HFG.out⟩
    rw [HW.out.1, HW.out.2]
    exact ⟨_, HB2.out, HFG.out, fun k hk => by simpa using HLT.out k hk, fun b e => by simp [Value.ownBlock] at e, fun h => by cases h⟩
   ·have HW : Hid (wForm form bss.flatten false = form ++ bss.flatten ∧ wBad form bss.flatten false = false) := by
     have h1 := HT0.out; have h2 := HFL.out
     exact ⟨by unfold wForm; rw [if_pos ⟨rfl, by omega⟩], by unfold wBad; rw [if_pos (by omega)]⟩
    have HSUM : Hid (fl + t0 ≤ 65536) := by (show _ ≤ _); omega
    go_wp2_with fail
    clear x0 x1 x2 y0 y1 y2 HB
    go_loopw [42] (fun i wr => AddRel w g F k form bss i wr) (fun i _ => k - (intOf i).toNat)
    case atStart => exact ⟨0, F, Nat.zero_le _, rfl, by simpa using H.out, fun k h => .inl h, Keep.refl _ _⟩
    case round =>
     obtain ⟨j, F', hj, rfl, hw, hF', hkp⟩ := hrel
     have K := qH hkp
     have HF' := qH hF'
     have HJ := qH hj
     by_cases hlt2 : j < k
     ·obtain ⟨b, o, rfl, hbo, hnf, hc⟩ := HP.out.2 (by omega)
      obtain ⟨A', m, c', hcell0, hrd, hoff⟩ := hc j hlt2
      have hcell : wr.cell? ⟨b, o + j, none⟩ = some (.slice A' m c') := (hkp.cell hbo hnf).trans hcell0
      have HR := qH (hrd.kept hkp hoff)
      have HTT : Hid ((bss.take (j + 1)).flatten = (bss.take j).flatten ++ bss.getD j []) := take_snoc_rows (by rw [HP.out.1]; exact hlt2)
      have HTL : Hid ((form ++ (bss.take (j + 1)).flatten).length ≤ 65536) := by
       show _ ≤ _
       have h1 := tot_le bss (j + 1)
       unfold tot at h1
       rw [List.length_append, HFL.out]
       have := HT0.out; have := HSUM.out
       omega
      obtain ⟨v, hb1, hfg, hflt, hblk, hown⟩ := hw
      obtain ⟨hown, _⟩ := hown rfl
      obtain ⟨A1, c1, rfl⟩ := own_slice hown
      obtain ⟨x0, x1, x2, y0, y1, y2⟩ := cells3 hb1
      have HBK := qH hblk
      have HB1 := qH hb1
      have HFLT := qH hflt
      have HFG2 := qH hfg
      have hlen1 : (form ++ (bss.take j).flatten).length + m ≤ 140737488355328 := by
       have h := HTL.out
       rw [HTT.out] at h
       simp only [List.length_append] at h ⊢
       rw [hrd.1] at h
       omega
      have hmb := hrd.1
      generalize bss.getD j [] = news at *
      obtain ⟨fm, hfm⟩ : ∃ l, form ++ (bss.take j).flatten = l := ⟨_, rfl⟩
      rw [hfm] at hown x1 hlen1 HB1 HBK
      have HFM : Hid (form ++ (bss.take (j + 1)).flatten = fm ++ news) := by (show _ = _); rw [HTT.out, ← List.append_assoc, hfm]
      clear hc hrd hoff hcell0 hkp hblk hb1 hflt hfg hF' hj hfm y0 y2 x0 x2
      obtain ⟨fn, hfn⟩ : ∃ n, fm.length = n := ⟨_, rfl⟩
      rw [hfn] at hown x1 hlen1 HB1 HBK
      have HFN := qH hfn
      clear hfn
      go_wp2_with (at_builtin; go_must (refine wpList_pushAllF (v := .slice A1 fn c1) isU8 rfl _ _ rfl rfl rfl hown HR.out (Nat.zero_le _) hlen1 ?_; intro v1 w3 hown1 hk1 hbl1; obtain ⟨A3, c3, rfl⟩ := own_slice hown1; have O3 := qH hown1; have K3 := qH hk1; have HBL := qH hbl1; have HB3 := qH ((hk1.block g (HFLT.out g HFG2.out) (fun e => (HBK.out g e).2 rfl)).trans HB1.out); have hst3 := (cells3 HB3.out).2.1; have hfr3 := (cells3 HB3.out).2.2.2.2.1; clear hown hown1 hk1 hbl1 x1 y1 hcell))
      have HLT3 : Hid (g < w3.heap.size) := heap_at_lt HB3.out
      go_roundw
      case rel =>
       refine ⟨j + 1, fun b => F' b ∨ (wr.heap.size ≤ b ∧ b < w3.heap.size), by omega, by go_num, ?_, ?_, ?_⟩
       ·rw [HFM.out]
        have hlen3 : (fm ++ news).length = fn + m := by rw [List.length_append, HFN.out, hmb]
        refine ⟨_, set3_1 HB3.out, .inl HFG2.out, ?_, ?_, fun _ => ⟨?_, by rw [← HFM.out]; exact HTL.out⟩⟩
        ·intro b hb
         rcases hb with hb | hb
         ·have := HFLT.out b hb; have := K3.out.size; simp; omega
         ·simpa using hb.2
        ·intro b hb
         have hlt3 : b < w3.heap.size := by
          rcases O3.out.2 with ⟨e, _⟩ | ⟨g', cap, cur, e, _, hh, _⟩
          ·rw [e] at hb; simp [Value.ownBlock] at hb
          ·rw [e] at hb
           simp only [Value.ownBlock, Option.some.injEq] at hb
           subst hb
           exact heap_at_lt hh
         rcases HBL.out b hb with hb' | hb'
         ·exact ⟨.inl (HBK.out b hb').1, (HBK.out b hb').2⟩
         ·exact ⟨.inr ⟨hb', hlt3⟩, fun e => by have := HFLT.out g HFG2.out; omega⟩
        ·rw [hlen3]
         refine own_keep (R := (· = g)) O3.out ((Keep.refl _ w3).setCell _ _ rfl) (fun b hb e => ?_)
         rcases HBL.out b hb with hb' | hb'
         ·exact (HBK.out b hb').2 e
         ·have := HFLT.out g HFG2.out; omega
       ·intro b hb
        rcases hb with hb | hb
        ·exact HF'.out b hb
        ·have := K.out.size; right; omega
       ·refine K.out.new ((K3.out.more (fun b hb => ?_)).setCell _ _ ?_)
        ·exact HF'.out b (HBK.out b hb).1
        ·exact HF'.out g HFG2.out
      case measure => simp [intOf]; omega
     ·obtain rfl : j = k := by omega
      have W2 := qH hw
      clear hw hkp hF' hj
      go_wp2_with fail
      go_ret
      refine ⟨rfl, F', ?_, HF'.out, K.out⟩
      rw [HW.out.1, HW.out.2]
      have h := W2.out
      rw [List.take_of_length_le (by rw [HP.out.1]; exact Nat.le_refl _)] at h
      exact h
end
section
open Go.RowKit
theorem wAdd_failed (g : Nat) (F : Nat → Prop) (form b : List UInt8) (parts : Value) (w : World) (h : WrAt w g F form true) :
  Calls Tryz.prog 74 #[.pointer (some ⟨g, 0, none⟩), parts] w (WrTo w g F form b true) := by
 obtain ⟨v, h1, h2, h3, h4, h5⟩ := id h
 refine (wAdd_bad _ parts 3 w (stIs_made g v 3 w h1) (by decide)).mono ?_
 rintro e w' ⟨rfl, rfl⟩
 have e1 : wForm form b true = form := by unfold wForm; rw [if_neg (fun h => by cases h.1)]
 have e2 : wBad form b true = true := by unfold wBad; split <;> rfl
 exact ⟨rfl, F, by rw [e1, e2]; exact h, fun k h => .inl h, Keep.refl _ _⟩
theorem wAdd (g : Nat) (F : Nat → Prop) (form : List UInt8) (bad : Bool) (A : Option Addr) (n c : Nat) (bss : List (List UInt8)) (w : World) (h : WrAt w g F form bad) (hp : PartsAt w w.heap.size F A n bss) (hn : n ≤ 1000) (ht : bss.flatten.length ≤ 140737488355328) :
  Calls Tryz.prog 74 #[.pointer (some ⟨g, 0, none⟩), .slice A n c] w (WrTo w g F form bss.flatten bad) := by
 cases bad
 ·exact wAdd_ok g F form A n c bss w h hp hn ht
 ·exact wAdd_failed g F form _ _ w h
theorem tag_slice32 (g : Nat) (w : World) : (Instr.sliceAt 23 (.pointer (some ⟨g, 0, none⟩)) none none none).run Tryz.prog w = .ok (.slice (some ⟨g, 0, none⟩) 32 32) w := by
 have hl : Tryz.prog.arrayLen 23 = 32 := by kernel_rfl
 have he : Tryz.prog.elem 23 = 5 := by kernel_rfl
 have hs : (sizeOf 5).run Tryz.prog w = .ok 1 w := u8_size isU8 w
 rw [run_sliceAt_array_all (ht := by kernel_rfl), he, hl, hs]
 simp [Result.andThen, slicedAt, Addr.add]
theorem wAdd1 (g : Nat) (F : Nat → Prop) (form : List UInt8) (bad : Bool) (A : Option Addr) (n c : Nat) (xs : List UInt8) (w : World) (h : WrAt w g F form bad) (ha : Rd w w.heap.size A n xs) (ho : Off A n F) (hn : n ≤ 140737488355328) :
  Calls Tryz.prog 74 #[.pointer (some ⟨g, 0, none⟩), .slice (some ⟨w.heap.size, 0, none⟩) 1 1] (w.alloc (.cells #[.slice A n c] 31)) (WrTo w g F form xs bad) := by
 have hb : Below w.heap.size w (w.alloc (.cells #[.slice A n c] 31)) := (Below.refl _ _).alloc (Nat.le_refl _) _
 have hp : PartsAt (w.alloc (.cells #[.slice A n c] 31)) (w.alloc (.cells #[.slice A n c] 31)).heap.size F (some ⟨w.heap.size, 0, none⟩) 1 [xs] := by
  refine ⟨rfl, fun _ => ⟨w.heap.size, 0, rfl, by simp, fun hf => absurd (h.lt _ hf) (Nat.lt_irrefl _), fun j hj => ?_⟩⟩
  obtain rfl : j = 0 := by omega
  exact ⟨A, n, c, by rw [World.cell?_alloc_at _ _ _ _ (by rfl)]; rfl, ha.to hb, ho⟩
 have hl := ha.1
 refine (wAdd g F form bad _ 1 1 [xs] _ (h.to hb) hp (by decide) (by simp; omega)).mono fun e w' hh => ?_
 have := hh.after hb
 simpa using this
theorem wAdd1B (g : Nat) (F : Nat → Prop) (form : List UInt8) (bad : Bool) (A : Option Addr) (n c : Nat) (xs : List UInt8) (w : World) (B : Nat) (hB : w.heap.size = B) (h : WrAt w g F form bad) (ha : Rd w w.heap.size A n xs) (ho : Off A n F) (hn : n ≤ 140737488355328) :
  Calls Tryz.prog 74 #[.pointer (some ⟨g, 0, none⟩), .slice (some ⟨B, 0, none⟩) 1 1] (w.alloc (.cells #[.slice A n c] 31)) (WrTo w g F form xs bad) := by
 subst hB
 exact wAdd1 g F form bad A n c xs w h ha ho hn
theorem wAdd2 (g : Nat) (F : Nat → Prop) (form : List UInt8) (bad : Bool) (A A' : Option Addr) (n m c d : Nat) (xs ys : List UInt8) (w : World) (h : WrAt w g F form bad) (ha : Rd w w.heap.size A n xs) (ho : Off A n F) (ha' : Rd w w.heap.size A' m ys) (ho' : Off A' m F) (hn : n + m ≤ 140737488355328) :
  Calls Tryz.prog 74 #[.pointer (some ⟨g, 0, none⟩), .slice (some ⟨w.heap.size, 0, none⟩) 2 2] (w.alloc (.cells #[.slice A n c, .slice A' m d] 31)) (WrTo w g F form (xs ++ ys) bad) := by
 have hb : Below w.heap.size w (w.alloc (.cells #[.slice A n c, .slice A' m d] 31)) := (Below.refl _ _).alloc (Nat.le_refl _) _
 have hp : PartsAt (w.alloc (.cells #[.slice A n c, .slice A' m d] 31)) (w.alloc (.cells #[.slice A n c, .slice A' m d] 31)).heap.size F (some ⟨w.heap.size, 0, none⟩) 2 [xs, ys] := by
  refine ⟨rfl, fun _ => ⟨w.heap.size, 0, rfl, by simp, fun hf => absurd (h.lt _ hf) (Nat.lt_irrefl _), fun j hj => ?_⟩⟩
  rcases j with _ | _ | j
  ·exact ⟨A, n, c, by rw [World.cell?_alloc_at _ _ _ _ (by rfl)]; rfl, ha.to hb, ho⟩
  ·exact ⟨A', m, d, by rw [World.cell?_alloc_at _ _ _ _ (by rfl)]; rfl, ha'.to hb, ho'⟩
  ·omega
 have hl := ha.1
 have hl' := ha'.1
 refine (wAdd g F form bad _ 2 2 [xs, ys] _ (h.to hb) hp (by decide) (by simp; omega)).mono fun e w' hh => ?_
 have := hh.after hb
 simpa using this
theorem wByte (g : Nat) (F : Nat → Prop) (form : List UInt8) (bad : Bool) (x : UInt8) (w : World) (h : WrAt w g F form bad) : Calls Tryz.prog 178 #[.pointer (some ⟨g, 0, none⟩), .int .u8 (x.toNat : Int)] w (WrTo w g F form [x] bad) := by
 have hb : Below w.heap.size w (w.alloc (.cells #[.int .u8 (x.toNat : Int)] 5)) := (Below.refl _ _).alloc (Nat.le_refl _) _
 have hsz : (w.alloc (.cells #[.int .u8 (x.toNat : Int)] 5)).heap.size = w.heap.size + 1 := by simp
 have r0 : Rd (w.alloc (.cells #[.int .u8 (x.toNat : Int)] 5)) (w.alloc (.cells #[.int .u8 (x.toNat : Int)] 5)).heap.size (some ⟨w.heap.size, 0, none⟩) 1 [x] := by
  rw [hsz]
  exact Rd.lit (w := w) [x] [.int .u8 (x.toNat : Int)] 5 rfl
 have R := qH r0
 have HSZ := qH hsz
 have HO : Hid (Off (some ⟨w.heap.size, 0, none⟩) 1 F) := fun _ b o e hf => by
  injection e with e; injection e with e1 _
  have := h.lt _ hf; omega
 have H := qH (h.to hb)
 have B := qH hb
 clear h hb r0 hsz
 go_enter Tryz.func178, Tryz.ntmps178
 go_wp2_with fail
 refine (wAdd1B g F form bad (some ⟨w.heap.size, 0, none⟩) 1 1 [x] (w.alloc (.cells #[.int .u8 (x.toNat : Int)] 5)) (w.heap.size + 1) HSZ.out H.out R.out HO.out (by decide)).mono ?_
 intro e w1 h
 have T := qH (h.after B.out)
 obtain ⟨rfl, _⟩ := h
 go_wp2_with fail
 go_ret
 exact T.out
theorem wInt (g : Nat) (F : Nat → Prop) (form : List UInt8) (bad : Bool) (x : Int) (w : World) (h : WrAt w g F form bad) : Calls Tryz.prog 72 #[.pointer (some ⟨g, 0, none⟩), .int .i64 x] w (WrTo w g F form (enc (u64N x) 8) bad) := by
 have h64 : IntKind.u64.wrap x = (u64N x : Int) := by rw [← u64N_eq]; simp only [IntKind.wrap_u64]
 have HL := qH (u64N_lt x)
 have HE := qH (enc_len (u64N x) 8)
 have H := qH h
 clear h
 go_enter Tryz.func72, Tryz.ntmps72
 go_wp2_with fail
 refine (wPut64 (u64N x) w HL.out).mono ?_
 obtain ⟨es, hes⟩ : ∃ l, enc (u64N x) 8 = l := ⟨_, rfl⟩
 rw [hes] at HE ⊢
 have HES := qH hes
 clear hes
 rintro e w1 ⟨A1, n1, c1, rfl, hown, hb⟩
 obtain rfl : n1 = 8 := (Rd.of_own hown).1.symm.trans HE.out
 have O := qH (OwR.of_own hown)
 have B := qH hb
 have HO : Hid (Off A1 8 F) := O.out.off (fun k hk => H.out.lt k hk)
 replace H := qH (H.out.to hb)
 clear hown hb
 go_wp2_with fail
 refine (wAdd1 g F form bad A1 8 c1 es w1 H.out O.out.1 HO.out (by decide)).mono ?_
 intro e w2 h
 have T := qH (h.after B.out)
 obtain ⟨rfl, _⟩ := h
 go_wp2_with fail
 go_ret
 rw [HES.out]
 exact T.out
theorem wFlag (g : Nat) (F : Nat → Prop) (form : List UInt8) (bad : Bool) (x : Bool) (w : World) (h : WrAt w g F form bad) : Calls Tryz.prog 136 #[.pointer (some ⟨g, 0, none⟩), .bool x] w (WrTo w g F form [flagB x] bad) := by
 have H := qH h
 clear h
 go_enter Tryz.func136, Tryz.ntmps136
 cases x
 ·go_wp2_with fail
  refine (wByte g F form bad 0 w H.out).mono ?_
  intro e w2 h
  have T := qH h
  obtain ⟨rfl, _⟩ := h
  go_wp2_with fail
  go_ret
  exact T.out
 ·go_wp2_with fail
  refine (wByte g F form bad 1 w H.out).mono ?_
  intro e w2 h
  have T := qH h
  obtain ⟨rfl, _⟩ := h
  go_wp2_with fail
  go_ret
  exact T.out
theorem wBytes (g : Nat) (F : Nat → Prop) (form : List UInt8) (bad : Bool) (A : Option Addr) (n c : Nat) (bs : List UInt8) (w : World) (h : WrAt w g F form bad) (hr : Rd w w.heap.size A n bs) (ho : Off A n F) (hc : n ≤ c) (hc' : c ≤ 9223372036854775807) (hn : n ≤ 1000000) : Calls Tryz.prog 73 #[.pointer (some ⟨g, 0, none⟩), .slice A n c] w (WrTo w g F form (enc bs.length 4 ++ bs) bad) := by
 have H := qH h
 have R := qH hr
 have HO := qH ho
 have h32 : IntKind.u32.wrap (n : Int) = (n : Int) := by rw [IntKind.wrap_u32']; omega
 have HE := qH (enc_len n 4)
 have HLN := qH hr.1
 clear h hr ho
 rw [HLN.out]
 go_enter Tryz.func73, Tryz.ntmps73
 go_wp2_with fail
 refine (wPut32 n w (by omega)).mono ?_
 obtain ⟨es, hes⟩ : ∃ l, enc n 4 = l := ⟨_, rfl⟩
 rw [hes] at HE ⊢
 have HES := qH hes
 clear hes
 rintro e w1 ⟨A1, n1, c1, rfl, hown, hb⟩
 obtain rfl : n1 = 4 := (Rd.of_own hown).1.symm.trans HE.out
 have O := qH (OwR.of_own hown)
 have B := qH hb
 have HO1 : Hid (Off A1 4 F) := O.out.off (fun k hk => H.out.lt k hk)
 replace H := qH (H.out.to hb)
 replace R := qH (R.out.to hb)
 clear hown hb
 go_wp2_with fail
 refine (wAdd2 g F form bad A1 A 4 n c1 c es bs w1 H.out O.out.1 HO1.out R.out HO.out (by omega)).mono ?_
 intro e w2 h
 have T := qH (h.after B.out)
 obtain ⟨rfl, _⟩ := h
 go_wp2_with fail
 go_ret
 rw [HES.out]
 exact T.out
theorem wTag (g : Nat) (F : Nat → Prop) (form : List UInt8) (bad : Bool) (t : List UInt8) (w : World) (h : WrAt w g F form bad) (hl : t.length = 32) : Calls Tryz.prog 28 #[.pointer (some ⟨g, 0, none⟩), .agg (arrB t)] w (WrTo w g F form t bad) := by
 have hb0 : Below w.heap.size w (w.alloc (.cells (arrB t) 23)) := (Below.refl _ _).alloc (Nat.le_refl _) _
 have T0 : TagAt (w.alloc (.cells (arrB t) 23)) w.heap.size t := ⟨hl, heap_alloc_last w _⟩
 have R := qH T0.rd
 have HSZ : Hid ((w.alloc (.cells (arrB t) 23)).heap.size = w.heap.size + 1) := by (show _ = _); simp
 have H := qH (h.to hb0)
 have B0 := qH hb0
 have HO : Hid (Off (some ⟨w.heap.size, 0, none⟩) 32 F) := fun _ b o e hf => by
  injection e with e; injection e with e1 _
  have := h.lt _ hf; omega
 have hsa := fun (g : Nat) => tag_slice32 g
 clear h hb0 T0
 go_enter Tryz.func28, Tryz.ntmps28
 go_wp2_with fail
 refine (wAdd1B g F form bad (some ⟨w.heap.size, 0, none⟩) 32 32 t (w.alloc (.cells (arrB t) 23)) (w.heap.size + 1) HSZ.out H.out R.out HO.out (by decide)).mono ?_
 intro e w2 h
 have T := qH (h.after B0.out)
 obtain ⟨rfl, _⟩ := h
 go_wp2_with fail
 go_ret
 exact T.out
theorem wDone (g : Nat) (F : Nat → Prop) (form : List UInt8) (bad : Bool) (w : World) (h : WrAt w g F form bad) : Calls Tryz.prog 29 #[.pointer (some ⟨g, 0, none⟩)] w fun e w' => ∃ A n c, e = .returned (.tuple #[.slice A n c, .int .i64 (if bad then 3 else 0)]) ∧ OwR w' w.heap.size A n (if bad then [] else form) ∧ n ≤ c ∧ c ≤ 9223372036854775807 ∧ Below w.heap.size w w' := by
 obtain ⟨v, h1, h2, h3, h4, h5⟩ := h
 cases bad
 ·obtain ⟨hown, hfl⟩ := h5 rfl
  obtain ⟨A0, c0, rfl⟩ := own_slice hown
  have HS := qH (stIs_made g _ 0 w h1)
  have HR := qH (Rd.of_own hown)
  obtain ⟨x0, x1, x2, y0, y1, y2⟩ := cells3 h1
  obtain ⟨fl, hfll⟩ : ∃ n, form.length = n := ⟨_, rfl⟩
  rw [hfll] at x1 hfl HR
  clear h1 h2 h3 h4 h5 hown hfll
  go_enter Tryz.func29, Tryz.ntmps29
  go_wp2_with fail
  refine (HS.out).mono ?_
  rintro e w1 ⟨rfl, rfl⟩
  go_wp2_with fail
  refine (wCat1 A0 fl c0 form w HR.out (by omega)).mono ?_
  rintro e w1 ⟨A1, n1, c1, rfl, hown1, hb⟩
  have O := qH (OwR.of_own hown1)
  have HC := qH (own_cap hown1)
  have B := qH hb
  clear hown1 hb
  go_wp2_with fail
  go_ret2
  exact ⟨_, _, _, rfl, O.out, HC.out.1, HC.out.2, B.out⟩
 ·have HS := qH (stIs_made g _ 3 w h1)
  clear h1 h2 h3 h4 h5
  go_enter Tryz.func29, Tryz.ntmps29
  go_wp2_with fail
  refine (HS.out).mono ?_
  rintro e w1 ⟨rfl, rfl⟩
  go_wp2_with fail
  go_ret2
  exact ⟨_, _, _, rfl, ⟨Rd.nil _ _ _, fun h => absurd h (Nat.lt_irrefl 0)⟩, Nat.le_refl _, by decide, Below.refl _ _⟩
end
section
end
end Go.Proofs.YtlmdidblgeeplaaGreatDoor