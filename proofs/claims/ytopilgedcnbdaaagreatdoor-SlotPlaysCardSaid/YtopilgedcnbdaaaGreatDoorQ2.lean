/- Several texts in one (a claim has 60 files at most): SlR, SlS, SlT. -/
import Derived.Test.YtopilgedcnbdaaaGreatDoorTz
import Derived.Test.YtopilgedcnbdaaaGreatDoorQ1
import Derived.Test.YtopilgedcnbdaaaGreatDoorSlP
import Derived.Test.YtopilgedcnbdaaaGreatDoorSlice
import Derived.Test.YtopilgedcnbdaaaGreatDoorQ0
namespace Go.Proofs.YtopilgedcnbdaaaGreatDoor
set_option maxRecDepth 1000000
set_option maxHeartbeats 8000000
set_option linter.unusedVariables false
set_option linter.unusedSimpArgs false
section
open Go.RowKit
theorem rRefused (sl a n : Int) (w : World) :
  Calls Tryz.prog 36 #[.int .i64 sl, .int .i64 a, .int .i64 n] w fun e w' => e = .returned (.int .i64 (refS sl a n)) ∧ w = w' := by
 by_cases c0 : sl = 0
 ·subst c0
  by_cases c3 : a < 0
  ·skip
   have HE : Hid (refS 0 a n = 2) := by show _ = _; unfold refS; rw [if_pos (by omega)]
   go_enter Tryz.func36, Tryz.ntmps36
   go_wp2_with fail
   go_ret
   exact ⟨by rw [HE.out]; rfl, rfl⟩
  by_cases c4 : n < 0
  ·skip
   have HE : Hid (refS 0 a n = 2) := by show _ = _; unfold refS; rw [if_pos (by omega)]
   go_enter Tryz.func36, Tryz.ntmps36
   go_wp2_with fail
   go_ret
   exact ⟨by rw [HE.out]; rfl, rfl⟩
  by_cases c5 : n > 4096
  ·have HE : Hid (refS 0 a n = 4) := by show _ = _; unfold refS; rw [if_neg (by omega), if_pos (by omega)]
   go_enter Tryz.func36, Tryz.ntmps36
   go_wp2_with fail
   go_ret
   exact ⟨by rw [HE.out]; rfl, rfl⟩
  have hw : IntKind.i64.wrap (4096 - n) = 4096 - n := by rw [IntKind.wrap_i64]; omega
  by_cases c6 : a > 4096 - n
  ·have HE : Hid (refS 0 a n = 4) := by show _ = _; unfold refS; rw [if_neg (by omega), if_pos (by omega)]
   go_enter Tryz.func36, Tryz.ntmps36
   go_wp2_with fail
   go_ret
   exact ⟨by rw [HE.out]; rfl, rfl⟩
  have HE : Hid (refS 0 a n = 0) := by show _ = _; unfold refS; rw [if_neg (by omega), if_neg (by omega)]
  go_enter Tryz.func36, Tryz.ntmps36
  go_wp2_with fail
  go_ret
  exact ⟨by rw [HE.out]; rfl, rfl⟩
 by_cases c1 : sl = 1
 ·subst c1
  by_cases c3 : a < 0
  ·skip
   have HE : Hid (refS 1 a n = 2) := by show _ = _; unfold refS; rw [if_pos (by omega)]
   go_enter Tryz.func36, Tryz.ntmps36
   go_wp2_with fail
   go_ret
   exact ⟨by rw [HE.out]; rfl, rfl⟩
  by_cases c4 : n < 0
  ·skip
   have HE : Hid (refS 1 a n = 2) := by show _ = _; unfold refS; rw [if_pos (by omega)]
   go_enter Tryz.func36, Tryz.ntmps36
   go_wp2_with fail
   go_ret
   exact ⟨by rw [HE.out]; rfl, rfl⟩
  by_cases c5 : n > 4096
  ·have HE : Hid (refS 1 a n = 4) := by show _ = _; unfold refS; rw [if_neg (by omega), if_pos (by omega)]
   go_enter Tryz.func36, Tryz.ntmps36
   go_wp2_with fail
   go_ret
   exact ⟨by rw [HE.out]; rfl, rfl⟩
  have hw : IntKind.i64.wrap (4096 - n) = 4096 - n := by rw [IntKind.wrap_i64]; omega
  by_cases c6 : a > 4096 - n
  ·have HE : Hid (refS 1 a n = 4) := by show _ = _; unfold refS; rw [if_neg (by omega), if_pos (by omega)]
   go_enter Tryz.func36, Tryz.ntmps36
   go_wp2_with fail
   go_ret
   exact ⟨by rw [HE.out]; rfl, rfl⟩
  have HE : Hid (refS 1 a n = 0) := by show _ = _; unfold refS; rw [if_neg (by omega), if_neg (by omega)]
  go_enter Tryz.func36, Tryz.ntmps36
  go_wp2_with fail
  go_ret
  exact ⟨by rw [HE.out]; rfl, rfl⟩
 have HE : Hid (refS sl a n = 2) := by show _ = _; unfold refS; rw [if_pos (by omega)]
 go_enter Tryz.func36, Tryz.ntmps36
 go_wp2_with fail
 go_ret
 exact ⟨by rw [HE.out]; rfl, rfl⟩
end
section
open Go.RowKit
def RwRel (w : World) (r : Nat) (G : Nat → Prop) (sl p : Nat) (b : List UInt8) (s : DS) (i : Value) (wr : World) : Prop :=
 ∃ (k : Nat) (s' : DS) (G' : Nat → Prop), i = .int .i64 (k : Int) ∧ k ≤ 64 ∧ DrAt wr r G' s' ∧ (∀ j, G' j → G j ∨ w.heap.size ≤ j) ∧ Keep G w wr ∧ goW sl p b 64 0 s = goW sl p b (64 - k) k s'
def RkRel (w1 : World) (B n c : Nat) (A : Option Addr) (held ov : List UInt8) (i : Value) (wr : World) : Prop :=
 ∃ k : Nat, k ≤ n ∧ i = .int .i64 (k : Int) ∧ wr.ownsRow B 5 1 (.slice A n c) n ((ov.take k ++ held.drop k).map bval) ∧ Below B w1 wr
theorem goW_miss {sl p i : Nat} {b : List UInt8} {s : DS} (hi : i < 64) (h : hitS i p b.length = false) : goW sl p b (64 - i) i s = goW sl p b (64 - (i + 1)) (i + 1) s := by
 rw [show 64 - i = (64 - (i + 1)) + 1 from by omega]
 conv => lhs; unfold goW
 rw [stepW_skip h, if_neg (by simp)]
theorem goW_bad {sl p i : Nat} {b : List UInt8} {s : DS} (hi : i < 64) (h : (stepW sl p b i s).1 ≠ 0) : goW sl p b (64 - i) i s = stepW sl p b i s := by
 rw [show 64 - i = (64 - (i + 1)) + 1 from by omega]
 unfold goW
 rw [if_pos h]
theorem goW_good {sl p i : Nat} {b : List UInt8} {s : DS} (hi : i < 64) (h : ¬ (stepW sl p b i s).1 ≠ 0) : goW sl p b (64 - i) i s = goW sl p b (64 - (i + 1)) (i + 1) (stepW sl p b i s).2 := by
 rw [show 64 - i = (64 - (i + 1)) + 1 from by omega]
 conv => lhs; unfold goW
 rw [if_neg h]
theorem take_set {held ov : List UInt8} {k : Nat} (hl : ov.length = held.length) (hk : k < held.length) : (ov.take k ++ held.drop k).set k (ov.getD k 0) = ov.take (k + 1) ++ held.drop (k + 1) := by
 have e1 : (ov.take k).length = k := by simp; omega
 rw [List.set_append_right _ _ (by omega), e1, Nat.sub_self, List.drop_eq_getElem_cons hk, List.set_cons_zero, List.take_succ_eq_append_getElem (by omega), List.append_assoc]
 simp [List.getD, show k < ov.length from by omega]
theorem take_keep {held ov : List UInt8} {k : Nat} (hl : ov.length = held.length) (hk : k < held.length) (he : ov.getD k 0 = held.getD k 0) : ov.take k ++ held.drop k = ov.take (k + 1) ++ held.drop (k + 1) := by
 have hk' : k < ov.length := by omega
 have e : ov[k] = held[k] := by simpa [List.getD, hk, hk'] using he
 rw [List.drop_eq_getElem_cons hk, List.take_succ_eq_append_getElem hk', List.append_assoc, e]
 rfl
theorem wr_miss {i p n : Nat} (h : n = 0 ∨ 64 * i + 64 ≤ p ∨ p + n ≤ 64 * i) : hitS i p n = false := by
 cases e : hitS i p n with
 | false => rfl
 | true => have := hitS_iff.1 e; omega
theorem rw_w1 {sl : Nat} (h : sl ≤ 1) : IntKind.i64.wrap (64 * (sl : Int)) = 64 * (sl : Int) := by rw [IntKind.wrap_i64]; omega
theorem rw_w2 {sl : Nat} (h : sl ≤ 1) : IntKind.i64.wrap (3 + 64 * (sl : Int)) = 3 + 64 * (sl : Int) := by rw [IntKind.wrap_i64]; omega
theorem rw_w3 {sl i : Nat} (h : sl ≤ 1) (hi : i < 64) : IntKind.i64.wrap (3 + 64 * (sl : Int) + (i : Int)) = ((3 + 64 * sl + i : Nat) : Int) := by rw [IntKind.wrap_i64]; omega
theorem rw_i64 {i : Nat} (hi : i < 64) : IntKind.i64.wrap (64 * (i : Int)) = 64 * (i : Int) := by rw [IntKind.wrap_i64]; omega
theorem rw_i65 {i : Nat} (hi : i < 64) : IntKind.i64.wrap (64 * (i : Int) + 64) = 64 * (i : Int) + 64 := by rw [IntKind.wrap_i64]; omega
theorem rw_pn {p n : Nat} (h : p + n ≤ 5000) : IntKind.i64.wrap ((p : Int) + (n : Int)) = (p : Int) + (n : Int) := by rw [IntKind.wrap_i64]; omega
theorem rw_pl {i k : Nat} (hi : i < 64) (hk : k < 64) : IntKind.i64.wrap (64 * (i : Int) + (k : Int)) = ((64 * i + k : Nat) : Int) := by rw [IntKind.wrap_i64]; omega
theorem rw_ix {q p : Nat} (h : p ≤ q) (hq : q ≤ 5000) : IntKind.i64.wrap ((q : Int) - (p : Int)) = ((q - p : Nat) : Int) := by rw [IntKind.wrap_i64]; omega
theorem rWriteS (r : Nat) (G : Nat → Prop) (s : DS) (sl a : Int) (A : Option Addr) (n c : Nat) (b : List UInt8) (w : World) (h : DrAt w r G s) (hr : Rd w w.heap.size A n b) (ho : Off A n G) :
  Calls Tryz.prog 11 #[.pointer (some ⟨r, 0, none⟩), .int .i64 sl, .int .i64 a, .slice A n c] w (DrTo w r G (writeS sl a b s)) := by
 have H := qH h
 have R := qH hr
 have OF := qH ho
 have HN := qH hr.1
 have HOK := qH h.ok
 clear h hr ho
 go_enter Tryz.func11, Tryz.ntmps11
 go_wp2_with fail
 refine (rRefused sl a (n : Int) w).mono ?_
 rintro e w1 ⟨rfl, rfl⟩
 by_cases h0 : refS sl a (n : Int) = 0
 ·obtain ⟨g1, g2, -, g3, g4⟩ := refS_ok h0
  obtain ⟨sl, rfl⟩ : ∃ k : Nat, sl = (k : Int) := ⟨sl.toNat, by omega⟩
  obtain ⟨p, rfl⟩ : ∃ k : Nat, a = (k : Int) := ⟨a.toNat, by omega⟩
  have HSL : Hid (sl ≤ 1) := by show _ ≤ _; omega
  have HPN : Hid (p + n ≤ 4096) := by show _ ≤ _; omega
  have H0 := qH h0
  rw [h0]
  obtain ⟨lb, cap, x0, x1, -, -, -⟩ := H.out.cells
  clear g1 g2 g3 g4 h0
  cases hu : s.up
  ·rw [hu] at x1
   have HW : Hid (writeS (sl : Int) (p : Int) b s = (60, s)) := by
    show _ = _
    unfold writeS
    rw [HN.out, if_neg (by rw [H0.out]; simp), if_pos hu]
   clear hu
   go_wp2_with fail
   go_ret
   rw [HW.out]
   exact DrTo.same H.out
  ·rw [hu] at x1
   have HU := qH hu
   clear hu
   have HW : Hid (writeS (sl : Int) (p : Int) b s = goW sl p b 64 0 s) := by
    show _ = _
    unfold writeS
    rw [HN.out, if_neg (by rw [H0.out]; simp), if_neg (by rw [HU.out]; decide), Int.toNat_natCast, Int.toNat_natCast]
   go_wp2_with fail
   clear x0 x1
   go_loopw [10, 11, 12, 13, 14] (fun i _ _ _ _ wr => RwRel w r G sl p b s i wr) (fun i _ _ _ _ _ => 64 - (intOf i).toNat)
   case atStart => exact ⟨0, s, G, rfl, by omega, H.out, fun _ hk => .inl hk, Keep.refl _ _, rfl⟩
   case round =>
    obtain ⟨i, s', G', rfl, hi, hd, hg, hk, heq⟩ := hrel
    have HD := qH hd
    have HG := qH hg
    have HK := qH hk
    have HEQ := qH heq
    have RW := qH (R.out.kept hk OF.out)
    clear hd hg hk heq
    by_cases hlt : i < 64
    ·have hkI : (i : Int) < 64 := by omega
     have HLT : Hid (i < 64) := hlt
     have u1 := rw_i64 hlt
     have u2 := rw_i65 hlt
     have u3 := rw_pn (p := p) (n := n) (Nat.le_trans HPN.out (by decide))
     by_cases hz : n = 0
     ·have HMISS := qH (wr_miss (i := i) (p := p) (.inl hz))
      have hzI : (n : Int) = 0 := by omega
      clear hz
      go_wp2_with fail
      go_roundw
      case rel => exact ⟨i + 1, s', G', by go_num, HLT.out, HD.out, HG.out, HK.out, HEQ.out.trans (goW_miss HLT.out (by rw [HN.out]; exact HMISS.out))⟩
      case measure => have := HLT.out; simp [intOf]; omega
     have hzI : ¬ (n : Int) = 0 := by omega
     by_cases hm1 : 64 * i + 64 ≤ p
     ·have HMISS := qH (wr_miss (n := n) (.inr (.inl hm1)))
      have hm1I : 64 * (i : Int) + 64 ≤ (p : Int) := by omega
      clear hm1 hz
      go_wp2_with fail
      go_roundw
      case rel => exact ⟨i + 1, s', G', by go_num, HLT.out, HD.out, HG.out, HK.out, HEQ.out.trans (goW_miss HLT.out (by rw [HN.out]; exact HMISS.out))⟩
      case measure => have := HLT.out; simp [intOf]; omega
     have hm1I : ¬ 64 * (i : Int) + 64 ≤ (p : Int) := by omega
     by_cases hm2 : p + n ≤ 64 * i
     ·have HMISS := qH (wr_miss (i := i) (p := p) (.inr (.inr hm2)))
      have hm2I : 64 * (i : Int) ≥ (p : Int) + (n : Int) := by omega
      clear hm1 hz hm2
      go_wp2_with fail
      go_roundw
      case rel => exact ⟨i + 1, s', G', by go_num, HLT.out, HD.out, HG.out, HK.out, HEQ.out.trans (goW_miss HLT.out (by rw [HN.out]; exact HMISS.out))⟩
      case measure => have := HLT.out; simp [intOf]; omega
     have hm2I : ¬ 64 * (i : Int) ≥ (p : Int) + (n : Int) := by omega
     have HHIT : Hid (hitS i p b.length = true) := by
      show _ = _
      rw [HN.out]
      exact hitS_iff.2 ⟨by omega, by omega, by omega⟩
     have HZ : Hid (0 < n) := by show _ < _; omega
     have v1 := rw_w1 HSL.out
     have v2 := rw_w2 HSL.out
     have v3 := rw_w3 HSL.out hlt
     have HST : Hid (stepW sl p b i s' = if (s'.read ((3 + 64 * sl + i : Nat) : Int)).2 ≠ 0 then ((s'.read ((3 + 64 * sl + i : Nat) : Int)).2, s') else s'.write ((3 + 64 * sl + i : Nat) : Int) (overS (s'.read ((3 + 64 * sl + i : Nat) : Int)).1 i p b)) := by
      show _ = _
      unfold stepW
      rw [if_pos HHIT.out]
     clear hm1 hm2 hz
     go_wp2_with fail
     refine (qRead r G' s' ((3 + 64 * sl + i : Nat) : Int) wr HD.out).mono ?_
     rintro e w3 ⟨A3, n3, c3, rfl, hown, hb⟩
     have HLEN := qH (Rd.of_own hown).1
     have N3 : Hid (n3 ≤ 64) := by show _ ≤ _; rw [← HLEN.out]; exact read_len HD.out.ok _
     have OWN := qH hown
     have HB3 := qH hb
     clear hown hb hzI hm1I hm2I u1 u2 v1 v2
     generalize (s'.read ((3 + 64 * sl + i : Nat) : Int)).2 = ev at *
     generalize (s'.read ((3 + 64 * sl + i : Nat) : Int)).1 = held at *
     have HOV : Hid ((overS held i p b).length = held.length) := overS_len _ _ _ _
     have HGET : Hid (∀ k, k < held.length → (overS held i p b).getD k 0 = if p ≤ 64 * i + k ∧ 64 * i + k < p + b.length then b.getD (64 * i + k - p) 0 else held.getD k 0) := fun k hk => by
      rw [List.getD, overS_get hk]
      rfl
     generalize overS held i p b = ov at *
     go_wp2_with fail
     go_loopw [13, 14] (fun i _ W => RkRel wr wr.heap.size n3 c3 A3 held ov i W) (fun i _ _ => n3 - (intOf i).toNat)
     case atStart => exact ⟨0, Nat.zero_le _, rfl, by simpa using OWN.out, HB3.out⟩
     case round =>
      obtain ⟨k, hk, rfl, hown, hbel⟩ := hrel
      have HKN : Hid (k ≤ n3) := hk
      clear hk
      have HDI := qH (HD.out.to hbel)
      by_cases hkn : k < n3
      ·have hknI : (k : Int) < (n3 : Int) := by omega
       have hk65 : (k : Int) < 65 := by have := N3.out; omega
       have HKL : Hid (k < n3) := hkn
       have pl := rw_pl (i := i) (k := k) HLT.out (Nat.lt_of_lt_of_le hkn N3.out)
       obtain ⟨q, hq⟩ : ∃ q, 64 * i + k = q := ⟨_, rfl⟩
       have HQ := qH hq
       have hq5 : q ≤ 5000 := by have := HLT.out; have := N3.out; omega
       rw [hq] at pl
       clear hq
       by_cases c1 : p ≤ q
       ·have c1I : (q : Int) ≥ (p : Int) := by omega
        by_cases c2 : q < p + n
        ·have c2I : (q : Int) < (p : Int) + (n : Int) := by omega
         obtain ⟨bb, ob, rfl, hbb, hcb⟩ := RW.out.2 HZ.out
         obtain ⟨g, rfl, hg⟩ := own_head hown (by omega)
         obtain ⟨hcell, hfr⟩ := own_cell (j := k) hown hkn
         have ix := rw_ix c1 hq5
         obtain ⟨j, hj⟩ : ∃ j, q - p = j := ⟨_, rfl⟩
         rw [hj] at ix
         have hjn : j < n := by omega
         have hjI : (j : Int) < (n : Int) := by omega
         have hcbj := (hbel.cell (p := ⟨bb, ob + j, none⟩) hbb).trans (hcb j hjn)
         have HV : Hid (ov.getD k 0 = b.getD j 0) := by
          show _ = _
          rw [HGET.out k (by rw [HLEN.out]; exact hkn), HQ.out, HN.out, if_pos ⟨c1, c2⟩, hj]
         have HGB := qH hg
         have HOWN2 := qH hown
         have HBEL2 := qH hbel
         have HNB : Hid ((nth b j : Int) = ((b.getD j 0).toNat : Int)) := rfl
         clear c1 c2 hj hjn hown hbel hcb hbb hq5 HDI
         go_wp2_with fail
         go_roundw
         case rel =>
          obtain ⟨h1, h2⟩ := own_set (j := k) HOWN2.out HBEL2.out (b.getD j 0) HNB.out HGB.out
          refine ⟨k + 1, HKL.out, by go_num, ?_, h2⟩
          rw [← take_set (by rw [HOV.out]) (by rw [HLEN.out]; exact HKL.out), HV.out]
          exact h1
         case measure => have := HKL.out; simp [intOf]; omega
        ·have c2I : ¬ (q : Int) < (p : Int) + (n : Int) := by omega
         have HV : Hid (ov.getD k 0 = held.getD k 0) := by
          show _ = _
          rw [HGET.out k (by rw [HLEN.out]; exact hkn), HQ.out, HN.out, if_neg (by omega)]
         have HOWN2 := qH hown
         have HBEL2 := qH hbel
         clear c1 c2 hown hbel hq5 HDI
         go_wp2_with fail
         go_roundw
         case rel => exact ⟨k + 1, HKL.out, by go_num, by rw [← take_keep (by rw [HOV.out]) (by rw [HLEN.out]; exact HKL.out) HV.out]; exact HOWN2.out, HBEL2.out⟩
         case measure => have := HKL.out; simp [intOf]; omega
       ·have c1I : ¬ (q : Int) ≥ (p : Int) := by omega
        have HV : Hid (ov.getD k 0 = held.getD k 0) := by
         show _ = _
         rw [HGET.out k (by rw [HLEN.out]; exact hkn), HQ.out, HN.out, if_neg (by omega)]
        have HOWN2 := qH hown
        have HBEL2 := qH hbel
        clear c1 hown hbel hq5 HDI
        go_wp2_with fail
        go_roundw
        case rel => exact ⟨k + 1, HKL.out, by go_num, by rw [← take_keep (by rw [HOV.out]) (by rw [HLEN.out]; exact HKL.out) HV.out]; exact HOWN2.out, HBEL2.out⟩
        case measure => have := HKL.out; simp [intOf]; omega
      ·obtain rfl : k = n3 := by have := HKN.out; omega
       have e9 : ov.take k ++ held.drop k = ov := by
        rw [List.take_of_length_le (by rw [HOV.out, HLEN.out]; exact Nat.le_refl _), List.drop_of_length_le (by rw [HLEN.out]; exact Nat.le_refl _), List.append_nil]
       rw [e9] at hown
       have RD9 := qH (Rd.of_own hown)
       have OF9 : Hid (Off A3 k G') := own_offP hown HD.out.lt
       have KB := qH (Keep.of_below (R := G) hbel)
       have hkk : ¬ (k : Int) < (k : Int) := by omega
       clear e9 hown hkn
       by_cases hev : ev = 0
       ·subst hev
        have HST2 : Hid (stepW sl p b i s' = s'.write ((3 + 64 * sl + i : Nat) : Int) ov) := by
         show _ = _
         rw [HST.out, if_neg (by simp)]
        clear hbel
        have v1 := rw_w1 HSL.out
        have v2 := rw_w2 HSL.out
        go_wp2_with fail
        refine (qWrite r G' s' ((3 + 64 * sl + i : Nat) : Int) A3 k c3 ov _ HDI.out RD9.out (by have := N3.out; omega) OF9.out).mono ?_
        rintro e w6 ⟨rfl, G2, hd, hg, hk⟩
        rw [← HST2.out] at hd ⊢
        have HD6 := qH hd
        have HG6 : Hid (∀ j, G2 j → G j ∨ w.heap.size ≤ j) := fun j hj => (hg j hj).elim (HG.out j) (fun h => .inr (Nat.le_trans (Nat.le_trans HK.out.size KB.out.size) h))
        have HK6 : Hid (Keep G w w6) := (HK.out.trans KB.out).new (hk.more (fun j hj => HG.out j hj))
        clear hd hg hk v1 v2 v3
        by_cases hs0 : (stepW sl p b i s').1 = 0
        ·have HN6 := qH (HEQ.out.trans (goW_good HLT.out (by rw [hs0]; simp)))
         rw [hs0]
         clear hs0
         go_wp2_with fail
         go_roundw
         case rel => exact ⟨i + 1, _, G2, by go_num, HLT.out, HD6.out, HG6.out, HK6.out, HN6.out⟩
         case measure => have := HLT.out; simp [intOf]; omega
        ·have HFIN : Hid (writeS (sl : Int) (p : Int) b s = stepW sl p b i s') := HW.out.trans (HEQ.out.trans (goW_bad HLT.out hs0))
         generalize stepW sl p b i s' = x at *
         go_wp2_with fail
         go_ret
         rw [HFIN.out]
         exact ⟨rfl, G2, HD6.out, HG6.out, HK6.out⟩
       ·have HST2 : Hid (stepW sl p b i s' = (ev, s')) := by
         show _ = _
         rw [HST.out, if_pos hev]
        have HFIN : Hid (writeS (sl : Int) (p : Int) b s = (ev, s')) := HW.out.trans (HEQ.out.trans ((goW_bad HLT.out (by rw [HST2.out]; exact hev)).trans HST2.out))
        clear hbel
        go_wp2_with fail
        go_ret
        rw [HFIN.out]
        exact ⟨rfl, G', HDI.out, HG.out, HK.out.trans KB.out⟩
    ·obtain rfl : i = 64 := by omega
     have HFIN : Hid (writeS (sl : Int) (p : Int) b s = (0, s')) := HW.out.trans HEQ.out
     go_wp2_with fail
     go_ret
     rw [HFIN.out]
     exact ⟨rfl, G', HD.out, HG.out, HK.out⟩
 ·have HW : Hid (writeS sl a b s = (refS sl a (n : Int), s)) := by
   show _ = _
   unfold writeS
   rw [HN.out, if_pos h0]
  generalize refS sl a (n : Int) = ev at *
  go_wp2_with fail
  go_ret
  rw [HW.out]
  exact DrTo.same H.out
end
section
open Go.RowKit
def RrRel (w : World) (sl : Nat) (s : DS) (v i : Value) (wr : World) : Prop :=
 ∃ k : Nat, i = .int .i64 (k : Int) ∧ k ≤ 64 ∧ wr.ownsRow w.heap.size 5 1 v (64 * k) ((allS sl s k).map bval) ∧ Below w.heap.size w wr ∧ (k = 0 ∨ 3 + 64 * sl + k ≤ s.L.length)
theorem readS_part {sl n k : Nat} {s : DS} (h0 : refS (sl : Int) 0 (n : Int) = 0) (hu : s.up = true) (hk : slotN sl s = k) (hn : n ≤ 64 * k) : readS (sl : Int) (n : Int) s = ((allS sl s k).take n, 0) := by
 unfold readS
 rw [if_neg (by rw [h0]; simp), if_neg (by rw [hu]; decide), Int.toNat_natCast, Int.toNat_natCast, hk, if_neg (by omega)]
theorem readS_few {sl n k : Nat} {s : DS} (h0 : refS (sl : Int) 0 (n : Int) = 0) (hu : s.up = true) (hk : slotN sl s = k) (hn : ¬ n ≤ 64 * k) : readS (sl : Int) (n : Int) s = ([], 61) := by
 unfold readS
 rw [if_neg (by rw [h0]; simp), if_neg (by rw [hu]; decide), Int.toNat_natCast, Int.toNat_natCast, hk, if_pos (by omega)]
theorem slotN_short {sl k : Nat} {s : DS} (h : k = 0 ∨ 3 + 64 * sl + k ≤ s.L.length) (hk : k < 64) (hl : ¬ 3 + 64 * sl + k < s.L.length) : slotN sl s = k := by unfold slotN; omega
theorem slotN_all {sl : Nat} {s : DS} (h : 64 = 0 ∨ 3 + 64 * sl + 64 ≤ s.L.length) : slotN sl s = 64 := by unfold slotN; omega
theorem rReadS (r : Nat) (G : Nat → Prop) (s : DS) (sl n : Int) (w : World) (h : DrAt w r G s) :
  Calls Tryz.prog 14 #[.pointer (some ⟨r, 0, none⟩), .int .i64 sl, .int .i64 n] w (RetE w (readS sl n s)) := by
 have H := qH h
 have HOK := qH h.ok
 clear h
 go_enter Tryz.func14, Tryz.ntmps14
 go_wp2_with fail
 refine (rRefused sl 0 n w).mono ?_
 rintro e w1 ⟨rfl, rfl⟩
 by_cases h0 : refS sl 0 n = 0
 ·obtain ⟨g1, -, g2, g3, -⟩ := refS_ok h0
  obtain ⟨sl, rfl⟩ : ∃ k : Nat, sl = (k : Int) := ⟨sl.toNat, by omega⟩
  obtain ⟨n, rfl⟩ : ∃ k : Nat, n = (k : Int) := ⟨n.toNat, by omega⟩
  have HSL : Hid (sl ≤ 1) := by show _ ≤ _; omega
  have HN : Hid (n ≤ 4096) := by show _ ≤ _; omega
  have H0 := qH h0
  rw [h0]
  obtain ⟨lb, cap, x0, x1, -, -, -⟩ := H.out.cells
  clear g1 g2 g3 h0
  cases hu : s.up
  ·rw [hu] at x1
   have HR : Hid (readS (sl : Int) (n : Int) s = ([], 60)) := by
    show _ = _
    unfold readS
    rw [if_neg (by rw [H0.out]; simp), if_pos hu]
   clear hu
   go_wp2_with fail
   refine bodyPost_ret (res_twoS rfl _ _ _ _ rfl rfl) rfl ?_
   rw [HR.out]
   exact ⟨none, 0, 0, rfl, Rd.nil _ _ _, Nat.le_refl _, by decide, Below.refl _ _⟩
  ·rw [hu] at x1
   have HU := qH hu
   clear hu
   go_wp2_with fail
   clear x0 x1
   go_loopw [9, 10, 11, 12] (fun v i _ _ wr => RrRel w sl s v i wr) (fun _ i _ _ _ => 64 - (intOf i).toNat)
   case atStart => exact ⟨0, rfl, by omega, World.ownsRow_nil _ _ _ _, Below.refl _ _, .inl rfl⟩
   case round =>
    obtain ⟨k, rfl, hk, hown, hb, hlen⟩ := hrel
    have OWN := qH hown
    have BR := qH hb
    have HL := qH hlen
    have HR := qH (H.out.to hb)
    have HK : Hid (k ≤ 64) := hk
    clear hown hb hlen
    by_cases hlt : k < 64
    ·have hkI : (k : Int) < 64 := by omega
     have v1 := rw_w1 HSL.out
     have v2 := rw_w2 HSL.out
     have v3 := rw_w3 HSL.out hlt
     have HLT : Hid (k < 64) := hlt
     go_wp2_with fail
     refine (qRead r G s ((3 + 64 * sl + k : Nat) : Int) wr HR.out).mono ?_
     rintro e w3 ⟨A3, n3, c3, rfl, hown, hb⟩
     rw [read_at HU.out] at hown ⊢
     have HB3 := qH hb
     replace BR := qH (BR.out.trans (hb.mono BR.out.size))
     replace OWN := qH (own_below OWN.out hb)
     by_cases hx : 3 + 64 * sl + k < s.L.length
     ·rw [if_pos hx] at hown ⊢
      have RD3 := qH (Rd.of_own hown)
      have hn3 : n3 = 64 := by rw [← RD3.out.1]; exact now_len HOK.out hx
      subst hn3
      have HX := qH hx
      clear hown hb hx v1 v2 v3
      go_wp2_with (at_builtin; refine wpList_pushAll isU8 rfl _ _ rfl rfl rfl OWN.out RD3.out BR.out BR.out.size (by have := HLT.out; omega) ?_; intro v5 w5 hown5 hb5 hs5)
      go_roundw
      case rel => exact ⟨k + 1, by go_num, HLT.out, hown5, hb5, .inr HX.out⟩
      case measure => have := HLT.out; simp [intOf]; omega
     ·rw [if_neg hx] at hown ⊢
      have HS := qH (slotN_short HL.out hlt hx)
      have u1 := rw_i64 hlt
      clear hown hb hx v1 v2 v3
      by_cases hn64 : n ≤ 64 * k
      ·have HRES := qH (readS_part H0.out HU.out HS.out hn64)
       have hni : ¬ 64 * (k : Int) < (n : Int) := by omega
       obtain ⟨A9, c9, rfl⟩ := own_slice OWN.out
       obtain ⟨hc1, hc2⟩ := own_cap OWN.out
       have RD9 := qH ((Rd.of_own OWN.out).front (k := n) hn64)
       have sh := slice_h isU8 A9 (h := n) hn64 hc1
       have HNC : Hid (n ≤ c9) := Nat.le_trans hn64 hc1
       have HC9 : Hid (c9 ≤ 9223372036854775807) := hc2
       clear hc1 hc2 hn64
       go_wp2_with fail
       refine bodyPost_ret (res_twoS rfl _ _ _ _ rfl rfl) rfl ?_
       rw [HRES.out]
       exact ⟨_, _, _, rfl, RD9.out, HNC.out, HC9.out, BR.out⟩
      ·have HRES := qH (readS_few H0.out HU.out HS.out hn64)
       have hni : 64 * (k : Int) < (n : Int) := by omega
       clear hn64
       go_wp2_with fail
       refine bodyPost_ret (res_twoS rfl _ _ _ _ rfl rfl) rfl ?_
       rw [HRES.out]
       exact ⟨none, 0, 0, rfl, Rd.nil _ _ _, Nat.le_refl _, by decide, BR.out⟩
    ·obtain rfl : k = 64 := by omega
     have hn64 : n ≤ 64 * 64 := HN.out
     have HRES := qH (readS_part H0.out HU.out (slotN_all HL.out) hn64)
     obtain ⟨A9, c9, rfl⟩ := own_slice OWN.out
     obtain ⟨hc1, hc2⟩ := own_cap OWN.out
     have RD9 := qH ((Rd.of_own OWN.out).front (k := n) hn64)
     have sh := slice_h isU8 A9 (h := n) hn64 hc1
     have HNC : Hid (n ≤ c9) := Nat.le_trans hn64 hc1
     have HC9 : Hid (c9 ≤ 9223372036854775807) := hc2
     clear hc1 hc2 hn64
     go_wp2_with fail
     refine bodyPost_ret (res_twoS rfl _ _ _ _ rfl rfl) rfl ?_
     rw [HRES.out]
     exact ⟨_, _, _, rfl, RD9.out, HNC.out, HC9.out, BR.out⟩
 ·have HR : Hid (readS sl n s = ([], refS sl 0 n)) := by
   show _ = _
   unfold readS
   rw [if_pos h0]
  generalize refS sl 0 n = ev at *
  go_wp2_with fail
  refine bodyPost_ret (res_twoS rfl _ _ _ _ rfl rfl) rfl ?_
  rw [HR.out]
  exact ⟨none, 0, 0, rfl, Rd.nil _ _ _, Nat.le_refl _, by decide, Below.refl _ _⟩
end
end Go.Proofs.YtopilgedcnbdaaaGreatDoor