/- Several texts in one (a claim has 60 files at most): RefRd, RefRdW, RefRdX. -/
import Derived.Test.YtlmdidblgeeplaaGreatDoorTz
import Derived.Test.YtlmdidblgeeplaaGreatDoorPWA
import Derived.Deep.RegionHeld
namespace Go.Proofs.YtlmdidblgeeplaaGreatDoor
set_option maxRecDepth 1000000
set_option maxHeartbeats 8000000
set_option linter.unusedVariables false
set_option linter.unusedSimpArgs false
section
open Go.RowKit
structure RS where
 rest : List UInt8
 e : Nat
def RS.ok (s : RS) (n : Nat) : Bool := decide (s.e = 0) && decide (n ≤ s.rest.length)
def RS.got (s : RS) (n : Nat) : List UInt8 := if s.ok n then s.rest.take n else []
def RS.next (s : RS) (n : Nat) : RS := if s.ok n then ⟨s.rest.drop n, 0⟩ else if s.e = 0 then ⟨s.rest, 50⟩ else s
def RS.numb (s : RS) (n : Nat) : Nat := if s.ok n then numOf (s.rest.take n) else 0
theorem RS.got_len {s : RS} {n : Nat} : (s.got n).length ≤ n := by
 unfold RS.got
 split
 ·simp; omega
 ·simp
def RefAt (w : World) (g : Nat) (gb : Option Nat) (s : RS) : Prop :=
 ∃ (A : Option Addr) (n c k : Nat) (bs : List UInt8), w.heap[g]? = some (.cells #[.slice A n c, .int .i64 (k : Int), .int .i64 (s.e : Int)] 134 (0, 0)) ∧ Rd w w.heap.size A n bs ∧ (0 < n → ∃ b o, A = some ⟨b, o, none⟩ ∧ gb = some b ∧ b ≠ g) ∧ k ≤ n ∧ n ≤ c ∧ c ≤ 9223372036854775807 ∧ n ≤ 65536 ∧ bs.drop k = s.rest ∧ s.e ≤ 50
theorem RefAt.kept {R : Nat → Prop} {w w' : World} {g : Nat} {gb : Option Nat} {s : RS} (h : RefAt w g gb s) (hk : Keep R w w') (hg : ¬ R g) (hb : ∀ b, gb = some b → ¬ R b) : RefAt w' g gb s := by
 obtain ⟨A, n, c, k, bs, h1, h2, h3, h4⟩ := h
 refine ⟨A, n, c, k, bs, (hk.block g (heap_at_lt h1) hg).trans h1, h2.kept hk (fun hn b o e => ?_), h3, h4⟩
 obtain ⟨b', o', e', hgb, _⟩ := h3 hn
 rw [e] at e'
 injection e' with e'; injection e' with e1 _
 subst e1
 exact hb _ hgb
theorem RefAt.below {w w' : World} {g : Nat} {gb : Option Nat} {s : RS} (h : RefAt w g gb s) (hb : Below w.heap.size w w') : RefAt w' g gb s := h.kept (R := fun _ => False) (Keep.of_below hb) (fun h => h) (fun _ _ h => h)
theorem cells3 {w : World} {g : Nat} {a b c : Value} {T : TypeId} (h : w.heap[g]? = some (.cells #[a, b, c] T (0, 0))) :
  w.cell? ⟨g, 0, none⟩ = some a ∧ w.cell? ⟨g, 1, none⟩ = some b ∧ w.cell? ⟨g, 2, none⟩ = some c ∧ w.frozen? ⟨g, 0, none⟩ = false ∧ w.frozen? ⟨g, 1, none⟩ = false ∧ w.frozen? ⟨g, 2, none⟩ = false := by
 refine ⟨?_, ?_, ?_, ?_, ?_, ?_⟩ <;> simp [World.cell?, World.frozen?, h]
theorem set3_1 {w : World} {g : Nat} {a b c v : Value} {T : TypeId} (h : w.heap[g]? = some (.cells #[a, b, c] T (0, 0))) : (w.setCell ⟨g, 1, none⟩ v).heap[g]? = some (.cells #[a, v, c] T (0, 0)) := by
 rw [heap_setCell_same _ _ _ _ _ _ h]; rfl
theorem set3_2 {w : World} {g : Nat} {a b c v : Value} {T : TypeId} (h : w.heap[g]? = some (.cells #[a, b, c] T (0, 0))) : (w.setCell ⟨g, 2, none⟩ v).heap[g]? = some (.cells #[a, b, v] T (0, 0)) := by
 rw [heap_setCell_same _ _ _ _ _ _ h]; rfl
theorem rdNext (g : Nat) (gb : Option Nat) (s : RS) (m : Nat) (w : World) (hr : RefAt w g gb s) (hm : m ≤ 65536) :
  Calls Tryz.prog 109 #[.pointer (some ⟨g, 0, none⟩), .int .i64 (m : Int)] w fun e w' => ∃ A n c, e = .returned (.tuple #[.slice A n c, .bool (s.ok m)]) ∧ OwR w' w.heap.size A n (s.got m) ∧ RefAt w' g gb (s.next m) ∧ Keep (· = g) w w' := by
 obtain ⟨A, n, c, k, bs, hg, hrd, hgb, hkn, hnc, hcc, hn64, hrest, he50⟩ := hr
 obtain ⟨x0, x1, x2, y0, y1, y2⟩ := cells3 hg
 have HG := qH hg
 have HR := qH hrd
 have HGB := qH hgb
 have HLT := qH (heap_at_lt hg)
 have hlen : s.rest.length = n - k := by rw [← hrest, List.length_drop, hrd.1]
 clear hg hrd hgb
 by_cases he : s.e = 0
 ·have he' : (s.e : Int) = 0 := by omega
  rw [he'] at x2
  by_cases hm2 : m ≤ n - k
  ·obtain ⟨q, hq⟩ : ∃ q : Nat, q = k + m := ⟨_, rfl⟩
   have hok : s.ok m = true := by unfold RS.ok; rw [decide_eq_true he, decide_eq_true (by omega)]; rfl
   have H1 : Hid (s.got m = s.rest.take m ∧ s.next m = ⟨s.rest.drop m, 0⟩) := ⟨by rw [RS.got, hok]; rfl, by rw [RS.next, hok]; rfl⟩
   have HOK := qH hok
   have HD := qH hrest
   have hng : ¬ (m : Int) > (n : Int) - (k : Int) := by omega
   have e1 : (k : Int) + (m : Int) = (q : Int) := by omega
   have e2 : (q : Int) - (m : Int) = (k : Int) := by omega
   obtain ⟨A5, c5, s5, hr5, hc5, hc5'⟩ := slice_lh isU8 A (l := k) (h := q) (by omega) (by omega) hnc
   replace s5 := s5 .i64 .i64
   rw [show q - k = m from by omega] at s5 hr5 hc5
   have HR5 := qH hr5
   have HQ := qH hq
   clear hok hrest hlen hr5 hq
   go_enter Tryz.func109, Tryz.ntmps109
   go_wp2
   go_quiet (fail)
   go_wp2
   have HOFF : Hid (Off A n (· = g)) := fun hn b o e h => by
    obtain ⟨b', o', e', _, hne⟩ := HGB.out hn
    rw [e] at e'
    injection e' with e'; injection e' with e1 _
    exact hne (e1.symm.trans h)
   have HB3 := qH (set3_1 (w := w.drewN nq) (v := .int .i64 (q : Int)) HG.out)
   have K3 : Hid (Keep (· = g) w ((w.drewN nq).setCell ⟨g, 1, none⟩ (.int .i64 (q : Int)))) := ((Keep.refl _ w).drewN _).setCell _ _ rfl
   have R3 := qH (HR.out.kept K3.out HOFF.out)
   generalize (w.drewN nq).setCell ⟨g, 1, none⟩ (.int .i64 (q : Int)) = w3 at *
   clear x0 x1 x2 y0 y1 y2 e1 HR HG
   replace HB3 : Hid (w3.drew.heap[g]? = some (.cells #[.slice A n c, .int .i64 (q : Int), .int .i64 (s.e : Int)] 134 (0, 0))) := HB3.out
   replace K3 := qH K3.out.drew
   replace R3 := qH R3.out.drew'
   generalize hwd : w3.drew = wd at *
   have HWD := qH hwd
   clear hwd
   obtain ⟨x0, x1, _, _, _, _⟩ := cells3 HB3.out
   have X01 : Hid (wd.cell? ⟨g, 0, none⟩ = some (.slice A n c) ∧ wd.cell? ⟨g, 1, none⟩ = some (.int .i64 (q : Int))) := ⟨x0, x1⟩
   have R5 := qH (HR5.out _ _ _ R3.out)
   have hgot : (bs.take q).drop k = s.got m := by rw [H1.out.1, ← HD.out, List.drop_take, HQ.out, show k + m - k = m from by omega]
   rw [hgot] at R5
   have HNX : Hid (bs.drop q = (s.next m).rest ∧ (s.next m).e = 0) := ⟨by rw [H1.out.2]; show bs.drop q = s.rest.drop m; rw [← HD.out, List.drop_drop, HQ.out], by rw [H1.out.2]⟩
   have HGL := qH (heap_at_lt HB3.out)
   have HSE : Hid ((s.e : Int) = 0) := he'
   have hqn : q ≤ n := by have := HQ.out; omega
   have hwk : IntKind.i64.wrap (k : Int) = (k : Int) := IntWalk.i64_in _ (by omega)
   clear x0 x1 HR5 hgot HD HQ
   refine wp_region_held_drew (S := (fun w' => w'.cell? ⟨g, 0, none⟩ = some (.slice A n c) ∧ w'.cell? ⟨g, 1, none⟩ = some (.int .i64 (q : Int)))) (by kernel_rfl) ((by rw [HWD.out]; exact X01.out)) (fun hHeld => ?_)
   rw [HWD.out] at hHeld ⊢
   refine tk 0 ?_
   simp only [pR]
   refine tk 1 ?_
   simp only [pR]
   refine tk 2 ?_
   simp only [pR]
   refine tk 3 ?_
   simp only [pR]
   refine tk 4 ?_
   simp only [pR]
   refine tk 5 ?_
   simp only [pR]
   refine tk 6 ?_
   simp only [pR]
   refine tk 7 ?_
   simp only [pR]
   refine tk 8 ?_
   simp only [pR]
   refine tk 9 ?_
   simp only [pR]
   refine tk 10 ?_
   simp only [pR]
   refine tk 11 ?_
   simp only [pR]
   refine tk 12 ?_
   simp only [pR]
   refine tk 13 ?_
   simp only [pR]
   refine tk 14 ?_
   simp only [pR]
   refine rd1 15 (fun K hK => ?_)
   go_simp
   refine (refCopy A5 m c5 (s.got m) wd R5.out (by omega)).mono ?_
   rintro e w4 ⟨A6, n6, c6, rfl, hown6, hb⟩
   have BB := qH hb
   have O6 := qH (OwR.of_own hown6)
   clear hown6 hb
   go_wp2_with fail
   refine hK.out _ _ (⟨(BB.out.cell HGL.out).trans X01.out.1, (BB.out.cell HGL.out).trans X01.out.2⟩) (fun hHeld => ?_)
   clear hK K
   refine tk 16 ?_
   simp only [pR]
   refine tk 17 ?_
   simp only [pR]
   refine wpAnyH_done (by kernel_rfl) ?_ _
   clear hHeld
   go_wp2_with fail
   go_ret2
   rw [HOK.out]
   have hblk : w4.heap[g]? = some (.cells #[.slice A n c, .int .i64 (q : Int), .int .i64 (s.e : Int)] 134 (0, 0)) := (BB.out.block g HGL.out).trans HB3.out
   rw [HSE.out] at hblk
   exact ⟨_, _, _, rfl, O6.out.mono K3.out.size, ⟨A, n, c, q, bs, by rw [HNX.out.2]; exact hblk, R3.out.to BB.out, HGB.out, hqn, hnc, hcc, hn64, HNX.out.1, by rw [HNX.out.2]; decide⟩, K3.out.trans (Keep.of_below BB.out)⟩
  ·have hok : s.ok m = false := by unfold RS.ok; rw [decide_eq_false (show ¬ m ≤ s.rest.length by omega), Bool.and_false]
   have H1 : Hid (s.got m = [] ∧ s.next m = ⟨s.rest, 50⟩) := ⟨by rw [RS.got, hok]; rfl, by rw [RS.next, hok, if_pos he]; rfl⟩
   have HOK := qH hok
   have HD := qH hrest
   have hgt : (m : Int) > (n : Int) - (k : Int) := by omega
   clear hok hrest hlen
   go_enter Tryz.func109, Tryz.ntmps109
   go_wp2
   go_quiet (fail)
   go_wp2
   go_ret2
   rw [H1.out.1, H1.out.2, HOK.out]
   refine ⟨_, _, _, rfl, ⟨Rd.nil _ _ _, fun h => absurd h (Nat.lt_irrefl 0)⟩, ⟨A, n, c, k, bs, ?_, ?_, HGB.out, hkn, hnc, hcc, hn64, HD.out, Nat.le_refl _⟩, ?_⟩
   ·exact set3_2 (w := w.drewN _) HG.out
   ·exact HR.out.kept (R := (· = g)) ((Keep.refl _ w).drewN _ |>.setCell _ _ rfl) (fun hn b o e h => by
     obtain ⟨b', o', e', _, hne⟩ := HGB.out hn
     rw [e] at e'
     injection e' with e'; injection e' with e1 _
     exact hne (e1.symm.trans h))
   ·exact (Keep.refl _ w).drewN _ |>.setCell _ _ rfl
 ·have hok : s.ok m = false := by unfold RS.ok; rw [decide_eq_false he]; rfl
  have H1 : Hid (s.got m = [] ∧ s.next m = s) := ⟨by rw [RS.got, hok]; rfl, by rw [RS.next, hok, if_neg he]; rfl⟩
  have HOK := qH hok
  have HD := qH hrest
  have hne : ((s.e : Int) == 0) = false := by simp; omega
  have hne' : ¬ (s.e : Int) = 0 := by omega
  clear hok hrest hlen
  go_enter Tryz.func109, Tryz.ntmps109
  go_wp2
  go_ret2
  rw [H1.out.1, H1.out.2, HOK.out]
  exact ⟨_, _, _, rfl, ⟨Rd.nil _ _ _, fun h => absurd h (Nat.lt_irrefl 0)⟩, ⟨A, n, c, k, bs, HG.out, HR.out, HGB.out, hkn, hnc, hcc, hn64, HD.out, he50⟩, Keep.refl _ _⟩
end
section
open Go.RowKit
theorem RefAt.put2 {w : World} {g : Nat} {gb : Option Nat} {s : RS} (h : RefAt w g gb s) : RefAt (w.setCell ⟨g, 2, none⟩ (.int .i64 50)) g gb ⟨s.rest, 50⟩ := by
 obtain ⟨A, n, c, k, bs, h1, h2, h3, h4, h5, h6, h7, h8, h9⟩ := h
 refine ⟨A, n, c, k, bs, set3_2 h1, ?_, h3, h4, h5, h6, h7, h8, Nat.le_refl _⟩
 exact h2.kept (R := (· = g)) ((Keep.refl _ w).setCell _ _ rfl) (fun hn b o e h => by
  obtain ⟨b', o', e', _, hne⟩ := h3 hn
  rw [e] at e'
  injection e' with e'; injection e' with e1 _
  exact hne (e1.symm.trans h))
theorem RefAt.drewN {w : World} {g : Nat} {gb : Option Nat} {s : RS} (h : RefAt w g gb s) (q : Nat) : RefAt (w.drewN q) g gb s := h
theorem RefAt.cells {w : World} {g : Nat} {gb : Option Nat} {s : RS} (h : RefAt w g gb s) : ∃ A n c k, w.cell? ⟨g, 0, none⟩ = some (.slice A n c) ∧ w.cell? ⟨g, 1, none⟩ = some (.int .i64 ((k : Nat) : Int)) ∧ w.cell? ⟨g, 2, none⟩ = some (.int .i64 (s.e : Int)) ∧
  w.frozen? ⟨g, 2, none⟩ = false ∧ k ≤ n ∧ n ≤ 65536 ∧ s.rest.length = n - k ∧ s.e ≤ 50 := by
 obtain ⟨A, n, c, k, bs, h1, h2, h3, h4, h5, h6, h7, h8, h9⟩ := h
 obtain ⟨x0, x1, x2, _, _, y2⟩ := cells3 h1
 exact ⟨A, n, c, k, x0, x1, x2, y2, h4, h7, by rw [← h8, List.length_drop, h2.1], h9⟩
theorem RefAt.lt {w : World} {g : Nat} {gb : Option Nat} {s : RS} (h : RefAt w g gb s) : g < w.heap.size := by
 obtain ⟨A, n, c, k, bs, h1, _⟩ := h
 exact heap_at_lt h1
theorem rdNumber (g : Nat) (gb : Option Nat) (s : RS) (m : Nat) (w : World) (hr : RefAt w g gb s) (hm : m ≤ 65536) :
  Calls Tryz.prog 108 #[.pointer (some ⟨g, 0, none⟩), .int .i64 (m : Int)] w fun e w' => e = .returned (.int .u64 (s.numb m : Int)) ∧ RefAt w' g gb (s.next m) ∧ Keep (· = g) w w' := by
 have HN : Hid (s.numb m = if s.ok m then numOf (s.rest.take m) else 0) := rfl
 have HG : Hid (s.got m = if s.ok m then s.rest.take m else []) := rfl
 go_enter Tryz.func108, Tryz.ntmps108
 go_wp2_with fail
 refine (rdNext g gb s m w hr hm).mono ?_
 have HGL := qH (RS.got_len (s := s) (n := m))
 obtain ⟨ok, hok⟩ : ∃ b, s.ok m = b := ⟨_, rfl⟩
 rw [hok] at HN HG
 have HOK := qH hok
 clear hok hr
 rintro e w1 ⟨A1, n1, c1, rfl, ho, hr1, hk⟩
 rw [HOK.out]
 have O := qH ho
 have R := qH hr1
 have K := qH hk
 clear ho hr1 hk
 cases ok
 ·go_wp2_with fail
  go_ret
  rw [HN.out]
  exact ⟨rfl, R.out, K.out⟩
 ·go_wp2_with fail
  refine (refNumber A1 n1 c1 w1.heap.size (s.got m) w1 O.out.1 (by have := O.out.1.1; have := HGL.out; omega)).mono ?_
  rintro e w2 ⟨rfl, rfl⟩
  go_wp2_with fail
  go_ret
  rw [HN.out]
  refine ⟨?_, R.out, K.out⟩
  rw [HG.out]
  rfl
def intV (s : RS) : Int := wrap64 (s.numb 8 : Int)
theorem rdInt (g : Nat) (gb : Option Nat) (s : RS) (w : World) (hr : RefAt w g gb s) :
  Calls Tryz.prog 44 #[.pointer (some ⟨g, 0, none⟩)] w fun e w' => e = .returned (.int .i64 (intV s)) ∧ RefAt w' g gb (s.next 8) ∧ Keep (· = g) w w' := by
 go_enter Tryz.func44, Tryz.ntmps44
 go_wp2_with fail
 refine (rdNumber g gb s 8 w hr (by decide)).mono ?_
 rintro e w1 ⟨rfl, hr1, hk⟩
 have R := qH hr1
 have K := qH hk
 clear hr hr1 hk
 go_wp2_with fail
 go_ret
 exact ⟨rfl, R.out, K.out⟩
def flagS (s : RS) : RS := if 1 < s.numb 1 then ⟨(s.next 1).rest, 50⟩ else s.next 1
theorem rdFlag (g : Nat) (gb : Option Nat) (s : RS) (w : World) (hr : RefAt w g gb s) :
  Calls Tryz.prog 111 #[.pointer (some ⟨g, 0, none⟩)] w fun e w' => e = .returned (.bool (decide (s.numb 1 = 1))) ∧ RefAt w' g gb (flagS s) ∧ Keep (· = g) w w' := by
 have HF : Hid (flagS s = if 1 < s.numb 1 then ⟨(s.next 1).rest, 50⟩ else s.next 1) := rfl
 go_enter Tryz.func111, Tryz.ntmps111
 go_wp2_with fail
 refine (rdNumber g gb s 1 w hr (by decide)).mono ?_
 rintro e w1 ⟨rfl, hr1, hk⟩
 have R := qH hr1
 have K := qH hk
 obtain ⟨x, hx⟩ : ∃ x, s.numb 1 = x := ⟨_, rfl⟩
 rw [hx] at HF ⊢
 have HX := qH hx
 obtain ⟨_, _, _, _, _, _, hc2, hfz, _⟩ := hr1.cells
 have he1 : ((x : Int) == 1) = decide (x = 1) := by rw [Bool.eq_iff_iff]; simp; omega
 clear hr hr1 hk hx
 by_cases h1 : (1 : Int) < (x : Int)
 ·go_wp2_with fail
  go_ret
  rw [HX.out, HF.out, if_pos (by omega)]
  exact ⟨by rw [← he1]; rfl, R.out.put2, K.out.setCell _ _ rfl⟩
 ·go_wp2_with fail
  go_ret
  rw [HX.out, HF.out, if_neg (by omega)]
  exact ⟨by rw [← he1]; rfl, R.out, K.out⟩
def bytesV (s : RS) : List UInt8 := if 65536 < s.numb 4 then [] else (s.next 4).got (s.numb 4)
def bytesS (s : RS) : RS := if 65536 < s.numb 4 then ⟨(s.next 4).rest, 50⟩ else (s.next 4).next (s.numb 4)
theorem rdBytes (g : Nat) (gb : Option Nat) (s : RS) (w : World) (hr : RefAt w g gb s) :
  Calls Tryz.prog 47 #[.pointer (some ⟨g, 0, none⟩)] w fun e w' => ∃ A n c, e = .returned (.slice A n c) ∧ OwR w' w.heap.size A n (bytesV s) ∧ RefAt w' g gb (bytesS s) ∧ Keep (· = g) w w' := by
 have HV : Hid (bytesV s = if 65536 < s.numb 4 then [] else (s.next 4).got (s.numb 4)) := rfl
 have HF : Hid (bytesS s = if 65536 < s.numb 4 then ⟨(s.next 4).rest, 50⟩ else (s.next 4).next (s.numb 4)) := rfl
 go_enter Tryz.func47, Tryz.ntmps47
 go_wp2_with fail
 refine (rdNumber g gb s 4 w hr (by decide)).mono ?_
 rintro e w1 ⟨rfl, hr1, hk⟩
 have R := qH hr1
 have K := qH hk
 obtain ⟨x, hx⟩ : ∃ x, s.numb 4 = x := ⟨_, rfl⟩
 rw [hx] at HF HV ⊢
 obtain ⟨_, _, _, _, _, _, hc2, hfz, _⟩ := hr1.cells
 clear hr hr1 hk hx
 by_cases h1 : (65536 : Int) < (x : Int)
 ·go_wp2_with fail
  go_ret
  rw [HV.out, HF.out, if_pos (by omega), if_pos (by omega)]
  exact ⟨_, _, _, rfl, ⟨Rd.nil _ _ _, fun h => absurd h (Nat.lt_irrefl 0)⟩, R.out.put2, K.out.setCell _ _ rfl⟩
 ·have hwk : IntKind.i64.wrap (x : Int) = (x : Int) := IntWalk.i64_in _ (by omega)
  go_wp2_with fail
  refine (rdNext g gb (s.next 4) x w1 R.out (by omega)).mono ?_
  rintro e w2 ⟨A2, n2, c2, rfl, ho, hr2, hk⟩
  have O := qH (ho.mono K.out.size)
  have R2 := qH hr2
  have K2 := qH (K.out.trans hk)
  generalize (s.next 4).ok x = ok at *
  clear ho hr2 hk
  go_wp2_with fail
  go_ret
  rw [HV.out, HF.out, if_neg (by omega), if_neg (by omega)]
  exact ⟨_, _, _, rfl, O.out, R2.out, K2.out⟩
end
section
open Go.RowKit
def newRS (bs : List UInt8) : RS := if 65536 < bs.length then ⟨[], 3⟩ else ⟨bs, 0⟩
theorem rdNew (A : Option Addr) (n c : Nat) (bs : List UInt8) (w : World) (ha : Rd w w.heap.size A n bs) (hn : n ≤ 140737488355328) :
  Calls Tryz.prog 43 #[.slice A n c] w fun e w' => ∃ g gb, e = .returned (.pointer (some ⟨g, 0, none⟩)) ∧ RefAt w' g gb (newRS bs) ∧ w.heap.size ≤ g ∧ (∀ b, gb = some b → w.heap.size ≤ b ∧ b < w'.heap.size) ∧ Below w.heap.size w w' := by
 have HA := qH ha
 by_cases h : (65536 : Int) < (n : Int)
 ·have HN : Hid (newRS bs = ⟨[], 3⟩) := by
   show _ = _
   rw [newRS, if_pos (by rw [ha.1]; omega)]
  clear ha
  go_enter Tryz.func43, Tryz.ntmps43
  go_wp2_with fail
  go_ret
  rw [HN.out]
  exact ⟨w.heap.size, none, rfl, ⟨none, 0, 0, 0, [], heap_alloc_last w _, Rd.nil _ _ _, fun h => absurd h (Nat.lt_irrefl 0), by decide, by decide, by decide, by decide, rfl, by decide⟩, Nat.le_refl _, fun _ h => by simp at h, (Below.refl _ _).alloc (Nat.le_refl _) _⟩
 ·have HN : Hid (newRS bs = ⟨bs, 0⟩) := by
   show _ = _
   rw [newRS, if_neg (by rw [ha.1]; omega)]
  clear ha
  go_enter Tryz.func43, Tryz.ntmps43
  go_wp2_with fail
  refine (refCopy A n c bs w HA.out hn).mono ?_
  rintro e w1 ⟨A1, n1, c1, rfl, hown1, hb⟩
  obtain rfl : n1 = n := (Rd.of_own hown1).1.symm.trans HA.out.1
  have R := qH (Rd.of_own hown1)
  obtain ⟨hcp, hcp'⟩ := own_cap hown1
  have HH := qH (fun h0 => own_head hown1 h0)
  have B := qH hb
  clear hown1 hb
  go_wp2_with fail
  go_ret
  rw [HN.out]
  refine ⟨w1.heap.size, (if 0 < n1 then A1.map (fun a => a.block) else none), rfl, ⟨A1, n1, c1, 0, bs, heap_alloc_last w1 _, R.out.grow _, fun h0 => ?_, by omega, hcp, hcp', by omega, rfl, Nat.zero_le _⟩, B.out.size, fun b hb => ?_, B.out.alloc B.out.size _⟩
  ·obtain ⟨g, rfl, _⟩ := HH.out h0
   obtain ⟨b', o', e', hlt, _⟩ := R.out.2 h0
   injection e' with e'; injection e' with e1 _
   exact ⟨g, 0, rfl, by rw [if_pos h0]; rfl, by omega⟩
  ·split at hb
   ·rename_i h0
    obtain ⟨g, rfl, hg⟩ := HH.out h0
    obtain ⟨b', o', e', hlt, _⟩ := R.out.2 h0
    injection e' with e'; injection e' with e1 _
    simp only [Option.map_some, Option.some.injEq] at hb
    have hs : (w1.alloc (.cells #[.slice (some ⟨g, 0, none⟩) n1 c1, .int .i64 0, .int .i64 0] 134)).heap.size = w1.heap.size + 1 := by simp
    refine ⟨by omega, ?_⟩
    show b < (w1.alloc (.cells #[.slice (some ⟨g, 0, none⟩) n1 c1, .int .i64 0, .int .i64 0] 134)).heap.size
    omega
   ·cases hb
def tagV (s : RS) : List UInt8 := if s.ok 32 then s.rest.take 32 else zeros32
theorem tagV_len (s : RS) : (tagV s).length = 32 := by
 unfold tagV
 split
 ·rename_i h
  unfold RS.ok at h
  simp only [Bool.and_eq_true, decide_eq_true_eq] at h
  rw [List.length_take]; omega
 ·rfl
def TagR (w : World) (n gt : Nat) (A : Option Addr) (bs tv : List UInt8) (g : Nat) (gb : Option Nat) (s' : RS) (i : Value) (wr : World) : Prop :=
 ∃ k : Nat, k ≤ n ∧ i = .int .i64 (k : Int) ∧ TagAt wr (gt + 1) (fillB tv k) ∧ TagAt wr gt zeros32 ∧ RefAt wr g gb s' ∧ Rd wr wr.heap.size A n bs ∧ Keep (· = g) w wr
theorem tag_kept {R : Nat → Prop} {w w' : World} {g : Nat} {bs : List UInt8} (h : TagAt w g bs) (hk : Keep R w w') (hn : ¬ R g) : TagAt w' g bs := ⟨h.1, (hk.block g (heap_at_lt h.2) hn).trans h.2⟩
theorem rdTag (g : Nat) (gb : Option Nat) (s : RS) (w : World) (hr : RefAt w g gb s) (hgb : ∀ b, gb = some b → b < w.heap.size) :
  Calls Tryz.prog 45 #[.pointer (some ⟨g, 0, none⟩)] w fun e w' => e = .returned (.agg (arrB (tagV s))) ∧ RefAt w' g gb (s.next 32) ∧ Keep (· = g) w w' := by
 have hz := tag_zero
 have HGB := qH hgb
 have HGL := qH hr.lt
 have h2 := two_tags w zeros32 rfl
 have T0 := qH h2.1
 have T1 := qH h2.2
 have hb2 : Below w.heap.size w ((w.alloc (.cells (arrB zeros32) 23)).alloc (.cells (arrB zeros32) 23)) := ((Below.refl _ _).alloc (Nat.le_refl _) _).alloc (by simp) _
 have HSZ : Hid (((w.alloc (.cells (arrB zeros32) 23)).alloc (.cells (arrB zeros32) 23)).heap.size = w.heap.size + 2) := by (show _ = _); simp
 have R := qH (hr.below hb2)
 have K0 : Hid (Keep (· = g) w ((w.alloc (.cells (arrB zeros32) 23)).alloc (.cells (arrB zeros32) 23))) := Keep.of_below hb2
 have HV : Hid (∀ n, (s.got 32).length = n → (n = 32 ∧ tagV s = s.got 32) ∨ (n = 0 ∧ tagV s = zeros32)) := fun n hn => by
  have hl := tagV_len s
  unfold RS.got at hn ⊢
  unfold tagV at hl ⊢
  by_cases hok : s.ok 32 = true
  ·rw [if_pos hok] at hn hl ⊢
   rw [if_pos hok]
   exact .inl ⟨by omega, rfl⟩
  ·rw [if_neg hok] at hn ⊢
   rw [if_neg hok]
   exact .inr ⟨by simpa using hn.symm, rfl⟩
 clear hr hgb h2 hb2
 go_enter Tryz.func45, Tryz.ntmps45
 go_wp2_with fail
 clear hz
 generalize ((w.alloc (.cells (arrB zeros32) 23)).alloc (.cells (arrB zeros32) 23)) = w0 at *
 refine (rdNext g gb s 32 w0 R.out (by decide)).mono ?_
 rintro e w1 ⟨A1, n1, c1, rfl, ho, hr1, hk⟩
 have hv := HV.out n1 ho.1.1
 have hn32 : n1 ≤ 32 := by rcases hv with ⟨h, _⟩ | ⟨h, _⟩ <;> omega
 have HVV := qH hv
 have R1 := qH hr1
 have O := qH ho
 have HNG : Hid (w.heap.size ≠ g ∧ w.heap.size + 1 ≠ g) := ⟨by have := HGL.out; omega, by have := HGL.out; omega⟩
 replace T0 := qH (tag_kept T0.out hk (fun h => HNG.out.1 h))
 replace T1 := qH (tag_kept T1.out hk (fun h => HNG.out.2 h))
 have K1 := qH (K0.out.trans hk)
 have HOFF : Hid (0 < n1 → ∀ b o, A1 = some ⟨b, o, none⟩ → b ≠ w.heap.size + 1) := fun h0 b o e h => by
  obtain ⟨b', o', e', hB, _⟩ := ho.2 h0
  rw [e] at e'
  injection e' with e'; injection e' with e1 _
  have := HSZ.out
  omega
 have HLV := qH (tagV_len s)
 generalize s.got 32 = bs at *
 generalize s.ok 32 = ok at *
 obtain ⟨tv, htv⟩ : ∃ l, tagV s = l := ⟨_, rfl⟩
 rw [htv] at HLV HVV hv
 have HTV := qH htv
 clear ho hr1 hk HV R K0 htv hv
 go_wp2_with fail
 go_loopw [6] (fun i wr => TagR w n1 w.heap.size A1 bs tv g gb (s.next 32) i wr) (fun i _ => n1 - (intOf i).toNat)
 case atStart => exact ⟨0, Nat.zero_le _, rfl, by rw [fillB_zero, HLV.out]; exact T1.out, T0.out, R1.out, O.out.1, K1.out⟩
 case round =>
  clear T0 T1 R1 K1 O
  obtain ⟨k, hk, rfl, h1, h0, hr, hrd, hkp⟩ := hrel
  have T1 := qH h1
  have T0 := qH h0
  have R := qH hr
  have D := qH hrd
  have K := qH hkp
  clear h1 h0 hr hrd hkp
  by_cases hlt : k < n1
  ·obtain ⟨b, o, rfl, hbl, hc⟩ := D.out.2 (by omega)
   have hcell := hc k hlt
   obtain ⟨hcl, hfr⟩ := T1.out.cell (j := k) (by omega)
   have HBT : Hid (b ≠ w.heap.size + 1) := HOFF.out (by omega) b o rfl
   have HST := qH (fillB_set (bs := tv) (m := k) (by rw [HLV.out]; omega))
   have HEQ : Hid (tv = bs) := by
    rcases HVV.out with ⟨_, h⟩ | ⟨h, _⟩
    ·exact h
    ·omega
   have HN : Hid ((nth bs k : Int) = ((tv.getD k 0).toNat : Int)) := by rw [HEQ.out]; rfl
   clear hc
   go_wp2_with fail
   go_roundw
   case rel =>
    rw [HN.out]
    refine ⟨k + 1, by omega, by go_num, ?_, T0.out.other _ _ (by show w.heap.size ≠ w.heap.size + 1; omega), ?_, ?_, ?_⟩
    ·have h := T1.out.set (j := k) (tv.getD k 0)
     rw [HST.out] at h
     exact h
    ·refine R.out.kept (R := (· = w.heap.size + 1)) ((Keep.refl _ wr).setCell _ _ rfl) (fun h => HNG.out.2 h.symm) (fun b' hb' h => ?_)
     have := HGB.out b' hb'
     omega
    ·exact D.out.kept (R := (· = w.heap.size + 1)) ((Keep.refl _ wr).setCell _ _ rfl) (fun _ b' o' e h => by
      injection e with e; injection e with e1 _
      exact HBT.out (e1.trans h))
    ·exact K.out.new ((Keep.refl _ wr).setCell _ _ (by right; show w.heap.size ≤ w.heap.size + 1; omega))
   case measure => simp [intOf]; omega
  ·obtain rfl : k = n1 := by omega
   have hfull : fillB tv k = tv := by
    rcases HVV.out with ⟨h, _⟩ | ⟨h, h2⟩
    ·rw [h]
     have := fillB_all tv
     rwa [HLV.out] at this
    ·rw [h, h2]; rfl
   rw [hfull] at T1
   have S1 := qH (tag_size HLV.out)
   have E1 : Hid ((arrB zeros32).size = (arrB tv).size) := by
    show _ = _
    rw [arrB_size, arrB_size, HLV.out]; rfl
   clear hfull
   go_wp2_with (first | (refine wpList_load_row rfl 23 _ rfl (w.heap.size + 1) rfl 23 (arrB tv) (0, 0) _ T1.out.2 Tryz.underlying23 rfl S1.out ?_) | (refine wpList_store_row rfl 23 _ _ rfl w.heap.size (arrB tv) rfl rfl 23 (arrB zeros32) T0.out.2 S1.out E1.out (arrB_one _) ?_))
   (try simp only [Exit.inBlock, Exit.then])
   have KS : Keep (· = w.heap.size) wr (wr.setRow w.heap.size (arrB tv)) := ⟨rfl, rfl, rfl, by rw [setRow_size]; exact Nat.le_refl _, fun k hk hn => setRow_other wr _ k _ (fun h => hn h)⟩
   refine bodyPost_ret (v := .agg (arrB tv)) ?_ rfl ⟨by rw [HTV.out], ?_, K.out.new (KS.more fun k h => .inr (Nat.le_of_eq h.symm))⟩
   ·exact results_cell_row rfl _ _ w.heap.size 23 (arrB tv) (0, 0) _ rfl (setRow_heap _ _ _ _ _ _ T0.out.2) Tryz.underlying23 rfl S1.out
   ·refine R.out.kept KS (fun h => HNG.out.1 h.symm) (fun b' hb' h => ?_)
    have := HGB.out b' hb'
    omega
def countS (s : RS) (most : Int) : RS := if (s.next 8).e = 0 ∧ (intV s < 0 ∨ most < intV s ∨ ((s.next 8).rest.length : Int) < intV s) then ⟨(s.next 8).rest, 50⟩ else s.next 8
def countV (s : RS) (most : Int) : Int := if (countS s most).e = 0 then intV s else 0
def leftV (s : RS) : Nat := if s.e = 0 then s.rest.length else 0
def endV (s : RS) : Nat := if s.e = 0 ∧ 0 < s.rest.length then 50 else s.e
theorem rdEnd (g : Nat) (gb : Option Nat) (s : RS) (w : World) (hr : RefAt w g gb s) :
  Calls Tryz.prog 48 #[.pointer (some ⟨g, 0, none⟩)] w fun e w' => e = .returned (.int .i64 (endV s : Int)) ∧ ∃ q, w' = w.drewN q := by
 obtain ⟨A, n, c, k, x0, x1, x2, _, hkn, hn, hl, he50⟩ := hr.cells
 have HV : Hid (endV s = if s.e = 0 ∧ 0 < s.rest.length then 50 else s.e) := rfl
 rw [hl] at HV
 clear hr hl
 by_cases he : (s.e : Int) = 0
 ·rw [he] at x2
  have HE0 : Hid (s.e = 0) := by (show _ = _); omega
  by_cases h2 : (k : Int) < (n : Int)
  ·have h1 : Hid (endV s = 50) := by (show _ = _); rw [HV.out, if_pos ⟨by omega, by omega⟩]
   go_enter Tryz.func48, Tryz.ntmps48
   go_wp2
   go_quiet (fail)
   go_wp2
   go_ret
   exact ⟨by rw [h1.out]; rfl, _, rfl⟩
  ·have h1 : Hid (endV s = 0) := by (show _ = _); rw [HV.out, if_neg (by omega)]; exact HE0.out
   go_enter Tryz.func48, Tryz.ntmps48
   go_wp2
   go_quiet (fail)
   go_wp2
   go_ret
   exact ⟨by rw [h1.out]; rfl, _, rfl⟩
 ·have h1 : Hid (endV s = s.e) := by (show _ = _); rw [HV.out, if_neg (by omega)]
  have hne : ((s.e : Int) == 0) = false := by simp; omega
  go_enter Tryz.func48, Tryz.ntmps48
  go_wp2
  go_quiet (fail)
  go_wp2
  go_ret
  exact ⟨by rw [h1.out]; rfl, _, rfl⟩
theorem rdCount (g : Nat) (gb : Option Nat) (s : RS) (most : Int) (w : World) (hr : RefAt w g gb s) (hmo : -9223372036854775808 ≤ most ∧ most ≤ 9223372036854775807) :
  Calls Tryz.prog 110 #[.pointer (some ⟨g, 0, none⟩), .int .i64 most] w fun e w' => e = .returned (.int .i64 (countV s most)) ∧ RefAt w' g gb (countS s most) ∧ Keep (· = g) w w' := by
 have HS : Hid (countS s most = if (s.next 8).e = 0 ∧ (intV s < 0 ∨ most < intV s ∨ ((s.next 8).rest.length : Int) < intV s) then ⟨(s.next 8).rest, 50⟩ else s.next 8) := rfl
 have HV : Hid (countV s most = if (countS s most).e = 0 then intV s else 0) := rfl
 clear hmo
 go_enter Tryz.func110, Tryz.ntmps110
 go_wp2_with fail
 refine (rdInt g gb s w hr).mono ?_
 obtain ⟨x, hx⟩ : ∃ x, intV s = x := ⟨_, rfl⟩
 obtain ⟨s8, hs8⟩ : ∃ x, s.next 8 = x := ⟨_, rfl⟩
 rw [hx] at HS HV ⊢
 rw [hs8] at HS ⊢
 clear hx hs8 hr
 rintro e w1 ⟨rfl, hr1, hk⟩
 have R := qH hr1
 have K := qH hk
 obtain ⟨A, n, c, k, x0, x1, x2, y2, hkn, hn, hl, he50⟩ := hr1.cells
 have HL := qH hl
 clear hr1 hk hl
 by_cases he : (s8.e : Int) = 0
 ·rw [he] at x2
  by_cases hbad : x < 0 ∨ most < x ∨ (n : Int) - (k : Int) < x
  ·have H1 : Hid (countS s most = ⟨s8.rest, 50⟩) := by
    show _ = _
    rw [HS.out, if_pos ⟨by omega, by rw [HL.out]; omega⟩]
   have H2 : Hid (countV s most = 0) := by
    show _ = _
    rw [HV.out, H1.out]; rfl
   have REST : ∀ q : Nat, RefAt ((w1.drewN q).setCell ⟨g, 2, none⟩ (.int .i64 50)) g gb ⟨s8.rest, 50⟩ ∧ Keep (· = g) w ((w1.drewN q).setCell ⟨g, 2, none⟩ (.int .i64 50)) := fun q => ⟨(R.out.drewN q).put2, (K.out.drewN q).setCell _ _ rfl⟩
   have HREST := qH REST
   clear REST
   by_cases c0 : x < 0
   ·clear hbad
    go_wp2
    go_quiet (fail)
    go_wp2
    go_ret
    rw [H1.out, H2.out]
    exact ⟨rfl, (HREST.out _).1, (HREST.out _).2⟩
   have d0 : decide (x < 0) = false := decide_eq_false c0
   by_cases c1 : most < x
   ·have d1 : decide (most < x) = true := decide_eq_true c1
    clear hbad
    go_wp2
    go_quiet (fail)
    go_wp2
    go_ret
    rw [H1.out, H2.out]
    exact ⟨rfl, (HREST.out _).1, (HREST.out _).2⟩
   ·have c2 : (n : Int) - (k : Int) < x := by omega
    have d1 : decide (most < x) = false := decide_eq_false c1
    have d2 : decide ((n : Int) - (k : Int) < x) = true := decide_eq_true c2
    clear hbad
    go_wp2
    go_quiet (fail)
    go_wp2
    go_ret
    rw [H1.out, H2.out]
    exact ⟨rfl, (HREST.out _).1, (HREST.out _).2⟩
  ·have H1 : Hid (countS s most = s8) := by
    show _ = _
    rw [HS.out, if_neg (fun h => hbad (by have := h.2; rw [HL.out] at this; omega))]
   have H2 : Hid (countV s most = x) := by
    show _ = _
    rw [HV.out, H1.out, if_pos (by omega)]
   have c0 : ¬ x < 0 := fun h => hbad (.inl h)
   have c1 : ¬ most < x := fun h => hbad (.inr (.inl h))
   have c2 : ¬ (n : Int) - (k : Int) < x := fun h => hbad (.inr (.inr h))
   have d0 : decide (x < 0) = false := decide_eq_false c0
   have d1 : decide (most < x) = false := decide_eq_false c1
   have d2 : decide ((n : Int) - (k : Int) < x) = false := decide_eq_false c2
   clear hbad
   go_wp2
   go_quiet (fail)
   go_wp2
   go_ret
   rw [H1.out, H2.out]
   exact ⟨rfl, R.out.drewN _, K.out.drewN _⟩
 ·have H1 : Hid (countS s most = s8) := by
   show _ = _
   rw [HS.out, if_neg (fun h => he (by rw [h.1]; rfl))]
  have H2 : Hid (countV s most = 0) := by
   show _ = _
   rw [HV.out, H1.out, if_neg (fun h => he (by rw [h]; rfl))]
  have hne : ((s8.e : Int) == 0) = false := by simp; omega
  go_wp2
  go_quiet (fail)
  go_wp2
  go_ret
  rw [H1.out, H2.out]
  exact ⟨rfl, R.out.drewN _, K.out.drewN _⟩
end
end Go.Proofs.YtlmdidblgeeplaaGreatDoor