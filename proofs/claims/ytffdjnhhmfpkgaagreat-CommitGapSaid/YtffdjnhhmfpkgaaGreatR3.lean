/- Several texts in one (a claim has 60 files at most): RefRd, RefRdW, RefRdX, Cod. -/
import Derived.Test.YtffdjnhhmfpkgaaGreatTz
import Derived.Test.YtffdjnhhmfpkgaaGreatR2
import Derived.Deep.RegionHeld
namespace Go.Proofs.YtffdjnhhmfpkgaaGreat
set_option maxRecDepth 1000000
set_option maxHeartbeats 8000000
set_option linter.unusedVariables false
set_option linter.unusedSimpArgs false
section
open Go.RowKit
structure RS where
 rest : List UInt8
 e : Nat
def RS.ok (s : RS) (n : Nat) : Bool := decide (s.e = 0) && decide (n ≤ s.rest.length)
def RS.got (s : RS) (n : Nat) : List UInt8 := if s.ok n then s.rest.take n else []
def RS.next (s : RS) (n : Nat) : RS := if s.ok n then ⟨s.rest.drop n, 0⟩ else if s.e = 0 then ⟨s.rest, 50⟩ else s
def RS.numb (s : RS) (n : Nat) : Nat := if s.ok n then numOf (s.rest.take n) else 0
theorem RS.got_len {s : RS} {n : Nat} : (s.got n).length ≤ n := by
 unfold RS.got
 split
 ·simp; omega
 ·simp
def RefAt (w : World) (g : Nat) (gb : Option Nat) (s : RS) : Prop :=
 ∃ (A : Option Addr) (n c k : Nat) (bs : List UInt8), w.heap[g]? = some (.cells #[.slice A n c, .int .i64 (k : Int), .int .i64 (s.e : Int)] 122 (0, 0)) ∧ Rd w w.heap.size A n bs ∧ (0 < n → ∃ b o, A = some ⟨b, o, none⟩ ∧ gb = some b ∧ b ≠ g) ∧ k ≤ n ∧ n ≤ c ∧ c ≤ 9223372036854775807 ∧ n ≤ 65536 ∧ bs.drop k = s.rest ∧ s.e ≤ 50
theorem RefAt.kept {R : Nat → Prop} {w w' : World} {g : Nat} {gb : Option Nat} {s : RS} (h : RefAt w g gb s) (hk : Keep R w w') (hg : ¬ R g) (hb : ∀ b, gb = some b → ¬ R b) : RefAt w' g gb s := by
 obtain ⟨A, n, c, k, bs, h1, h2, h3, h4⟩ := h
 refine ⟨A, n, c, k, bs, (hk.block g (heap_at_lt h1) hg).trans h1, h2.kept hk (fun hn b o e => ?_), h3, h4⟩
 obtain ⟨b', o', e', hgb, _⟩ := h3 hn
 rw [e] at e'
 injection e' with e'; injection e' with e1 _
 subst e1
 exact hb _ hgb
theorem RefAt.below {w w' : World} {g : Nat} {gb : Option Nat} {s : RS} (h : RefAt w g gb s) (hb : Below w.heap.size w w') : RefAt w' g gb s := h.kept (R := fun _ => False) (Keep.of_below hb) (fun h => h) (fun _ _ h => h)
theorem cells3 {w : World} {g : Nat} {a b c : Value} {T : TypeId} (h : w.heap[g]? = some (.cells #[a, b, c] T (0, 0))) :
  w.cell? ⟨g, 0, none⟩ = some a ∧ w.cell? ⟨g, 1, none⟩ = some b ∧ w.cell? ⟨g, 2, none⟩ = some c ∧ w.frozen? ⟨g, 0, none⟩ = false ∧ w.frozen? ⟨g, 1, none⟩ = false ∧ w.frozen? ⟨g, 2, none⟩ = false := by
 refine ⟨?_, ?_, ?_, ?_, ?_, ?_⟩ <;> simp [World.cell?, World.frozen?, h]
theorem set3_1 {w : World} {g : Nat} {a b c v : Value} {T : TypeId} (h : w.heap[g]? = some (.cells #[a, b, c] T (0, 0))) : (w.setCell ⟨g, 1, none⟩ v).heap[g]? = some (.cells #[a, v, c] T (0, 0)) := by
 rw [heap_setCell_same _ _ _ _ _ _ h]; rfl
theorem set3_2 {w : World} {g : Nat} {a b c v : Value} {T : TypeId} (h : w.heap[g]? = some (.cells #[a, b, c] T (0, 0))) : (w.setCell ⟨g, 2, none⟩ v).heap[g]? = some (.cells #[a, b, v] T (0, 0)) := by
 rw [heap_setCell_same _ _ _ _ _ _ h]; rfl
theorem set3_0 {w : World} {g : Nat} {a b c v : Value} {T : TypeId} (h : w.heap[g]? = some (.cells #[a, b, c] T (0, 0))) : (w.setCell ⟨g, 0, none⟩ v).heap[g]? = some (.cells #[v, b, c] T (0, 0)) := by
 rw [heap_setCell_same _ _ _ _ _ _ h]; rfl
theorem rdNext (g : Nat) (gb : Option Nat) (s : RS) (m : Nat) (w : World) (hr : RefAt w g gb s) (hm : m ≤ 65536) :
  Calls Tryz.prog 90 #[.pointer (some ⟨g, 0, none⟩), .int .i64 (m : Int)] w fun e w' => ∃ A n c, e = .returned (.tuple #[.slice A n c, .bool (s.ok m)]) ∧ OwR w' w.heap.size A n (s.got m) ∧ RefAt w' g gb (s.next m) ∧ Keep (· = g) w w' := by
 obtain ⟨A, n, c, k, bs, hg, hrd, hgb, hkn, hnc, hcc, hn64, hrest, he50⟩ := hr
 obtain ⟨x0, x1, x2, y0, y1, y2⟩ := cells3 hg
 have HG := qH hg
 have HR := qH hrd
 have HGB := qH hgb
 have HLT := qH (heap_at_lt hg)
 have hlen : s.rest.length = n - k := by rw [← hrest, List.length_drop, hrd.1]
 clear hg hrd hgb
 by_cases he : s.e = 0
 ·have he' : (s.e : Int) = 0 := by omega
  rw [he'] at x2
  by_cases hm2 : m ≤ n - k
  ·obtain ⟨q, hq⟩ : ∃ q : Nat, q = k + m := ⟨_, rfl⟩
   have hok : s.ok m = true := by unfold RS.ok; rw [decide_eq_true he, decide_eq_true (by omega)]; rfl
   have H1 : Hid (s.got m = s.rest.take m ∧ s.next m = ⟨s.rest.drop m, 0⟩) := ⟨by rw [RS.got, hok]; rfl, by rw [RS.next, hok]; rfl⟩
   have HOK := qH hok
   have HD := qH hrest
   have hng : ¬ (m : Int) > (n : Int) - (k : Int) := by omega
   have e1 : (k : Int) + (m : Int) = (q : Int) := by omega
   have e2 : (q : Int) - (m : Int) = (k : Int) := by omega
   obtain ⟨A5, c5, s5, hr5, hc5, hc5'⟩ := slice_lh isU8 A (l := k) (h := q) (by omega) (by omega) hnc
   replace s5 := s5 .i64 .i64
   rw [show q - k = m from by omega] at s5 hr5 hc5
   have HR5 := qH hr5
   have HQ := qH hq
   clear hok hrest hlen hr5 hq
   go_enter Tryz.func90, Tryz.ntmps90
   go_wp2
   go_quiet (fail)
   go_wp2
   have HOFF : Hid (Off A n (· = g)) := fun hn b o e h => by
    obtain ⟨b', o', e', _, hne⟩ := HGB.out hn
    rw [e] at e'
    injection e' with e'; injection e' with e1 _
    exact hne (e1.symm.trans h)
   have HB3 := qH (set3_1 (w := w.drewN nq) (v := .int .i64 (q : Int)) HG.out)
   have K3 : Hid (Keep (· = g) w ((w.drewN nq).setCell ⟨g, 1, none⟩ (.int .i64 (q : Int)))) := ((Keep.refl _ w).drewN _).setCell _ _ rfl
   have R3 := qH (HR.out.kept K3.out HOFF.out)
   generalize (w.drewN nq).setCell ⟨g, 1, none⟩ (.int .i64 (q : Int)) = w3 at *
   clear x0 x1 x2 y0 y1 y2 e1 HR HG
   replace HB3 : Hid (w3.drew.heap[g]? = some (.cells #[.slice A n c, .int .i64 (q : Int), .int .i64 (s.e : Int)] 122 (0, 0))) := HB3.out
   replace K3 := qH K3.out.drew
   replace R3 := qH R3.out.drew'
   generalize hwd : w3.drew = wd at *
   have HWD := qH hwd
   clear hwd
   obtain ⟨x0, x1, _, _, _, _⟩ := cells3 HB3.out
   have X01 : Hid (wd.cell? ⟨g, 0, none⟩ = some (.slice A n c) ∧ wd.cell? ⟨g, 1, none⟩ = some (.int .i64 (q : Int))) := ⟨x0, x1⟩
   have R5 := qH (HR5.out _ _ _ R3.out)
   have hgot : (bs.take q).drop k = s.got m := by rw [H1.out.1, ← HD.out, List.drop_take, HQ.out, show k + m - k = m from by omega]
   rw [hgot] at R5
   have HNX : Hid (bs.drop q = (s.next m).rest ∧ (s.next m).e = 0) := ⟨by rw [H1.out.2]; show bs.drop q = s.rest.drop m; rw [← HD.out, List.drop_drop, HQ.out], by rw [H1.out.2]⟩
   have HGL := qH (heap_at_lt HB3.out)
   have HSE : Hid ((s.e : Int) = 0) := he'
   have hqn : q ≤ n := by have := HQ.out; omega
   have hwk : IntKind.i64.wrap (k : Int) = (k : Int) := IntWalk.i64_in _ (by omega)
   clear x0 x1 HR5 hgot HD HQ
   refine wp_region_held_drew (S := (fun w' => w'.cell? ⟨g, 0, none⟩ = some (.slice A n c) ∧ w'.cell? ⟨g, 1, none⟩ = some (.int .i64 (q : Int)))) (by kernel_rfl) ((by rw [HWD.out]; exact X01.out)) (fun hHeld => ?_)
   rw [HWD.out] at hHeld ⊢
   refine tk 0 ?_
   simp only [pR]
   refine tk 1 ?_
   simp only [pR]
   refine tk 2 ?_
   simp only [pR]
   refine tk 3 ?_
   simp only [pR]
   refine tk 4 ?_
   simp only [pR]
   refine tk 5 ?_
   simp only [pR]
   refine tk 6 ?_
   simp only [pR]
   refine tk 7 ?_
   simp only [pR]
   refine tk 8 ?_
   simp only [pR]
   refine tk 9 ?_
   simp only [pR]
   refine tk 10 ?_
   simp only [pR]
   refine tk 11 ?_
   simp only [pR]
   refine tk 12 ?_
   simp only [pR]
   refine tk 13 ?_
   simp only [pR]
   refine tk 14 ?_
   simp only [pR]
   refine rd1 15 (fun K hK => ?_)
   go_simp
   refine (refCopy A5 m c5 (s.got m) wd R5.out (by omega)).mono ?_
   rintro e w4 ⟨A6, n6, c6, rfl, hown6, hb⟩
   have BB := qH hb
   have O6 := qH (OwR.of_own hown6)
   clear hown6 hb
   go_wp2_with fail
   refine hK.out _ _ (⟨(BB.out.cell HGL.out).trans X01.out.1, (BB.out.cell HGL.out).trans X01.out.2⟩) (fun hHeld => ?_)
   clear hK K
   refine tk 16 ?_
   simp only [pR]
   refine tk 17 ?_
   simp only [pR]
   refine wpAnyH_done (by kernel_rfl) ?_ _
   clear hHeld
   go_wp2_with fail
   go_ret2
   rw [HOK.out]
   have hblk : w4.heap[g]? = some (.cells #[.slice A n c, .int .i64 (q : Int), .int .i64 (s.e : Int)] 122 (0, 0)) := (BB.out.block g HGL.out).trans HB3.out
   rw [HSE.out] at hblk
   exact ⟨_, _, _, rfl, O6.out.mono K3.out.size, ⟨A, n, c, q, bs, by rw [HNX.out.2]; exact hblk, R3.out.to BB.out, HGB.out, hqn, hnc, hcc, hn64, HNX.out.1, by rw [HNX.out.2]; decide⟩, K3.out.trans (Keep.of_below BB.out)⟩
  ·have hok : s.ok m = false := by unfold RS.ok; rw [decide_eq_false (show ¬ m ≤ s.rest.length by omega), Bool.and_false]
   have H1 : Hid (s.got m = [] ∧ s.next m = ⟨s.rest, 50⟩) := ⟨by rw [RS.got, hok]; rfl, by rw [RS.next, hok, if_pos he]; rfl⟩
   have HOK := qH hok
   have HD := qH hrest
   have hgt : (m : Int) > (n : Int) - (k : Int) := by omega
   clear hok hrest hlen
   go_enter Tryz.func90, Tryz.ntmps90
   go_wp2
   go_quiet (fail)
   go_wp2
   go_ret2
   rw [H1.out.1, H1.out.2, HOK.out]
   refine ⟨_, _, _, rfl, ⟨Rd.nil _ _ _, fun h => absurd h (Nat.lt_irrefl 0)⟩, ⟨A, n, c, k, bs, ?_, ?_, HGB.out, hkn, hnc, hcc, hn64, HD.out, Nat.le_refl _⟩, ?_⟩
   ·exact set3_2 (w := w.drewN _) HG.out
   ·exact HR.out.kept (R := (· = g)) ((Keep.refl _ w).drewN _ |>.setCell _ _ rfl) (fun hn b o e h => by
     obtain ⟨b', o', e', _, hne⟩ := HGB.out hn
     rw [e] at e'
     injection e' with e'; injection e' with e1 _
     exact hne (e1.symm.trans h))
   ·exact (Keep.refl _ w).drewN _ |>.setCell _ _ rfl
 ·have hok : s.ok m = false := by unfold RS.ok; rw [decide_eq_false he]; rfl
  have H1 : Hid (s.got m = [] ∧ s.next m = s) := ⟨by rw [RS.got, hok]; rfl, by rw [RS.next, hok, if_neg he]; rfl⟩
  have HOK := qH hok
  have HD := qH hrest
  have hne : ((s.e : Int) == 0) = false := by simp; omega
  have hne' : ¬ (s.e : Int) = 0 := by omega
  clear hok hrest hlen
  go_enter Tryz.func90, Tryz.ntmps90
  go_wp2
  go_ret2
  rw [H1.out.1, H1.out.2, HOK.out]
  exact ⟨_, _, _, rfl, ⟨Rd.nil _ _ _, fun h => absurd h (Nat.lt_irrefl 0)⟩, ⟨A, n, c, k, bs, HG.out, HR.out, HGB.out, hkn, hnc, hcc, hn64, HD.out, he50⟩, Keep.refl _ _⟩
end
section
open Go.RowKit
theorem RefAt.put2 {w : World} {g : Nat} {gb : Option Nat} {s : RS} (h : RefAt w g gb s) : RefAt (w.setCell ⟨g, 2, none⟩ (.int .i64 50)) g gb ⟨s.rest, 50⟩ := by
 obtain ⟨A, n, c, k, bs, h1, h2, h3, h4, h5, h6, h7, h8, h9⟩ := h
 refine ⟨A, n, c, k, bs, set3_2 h1, ?_, h3, h4, h5, h6, h7, h8, Nat.le_refl _⟩
 exact h2.kept (R := (· = g)) ((Keep.refl _ w).setCell _ _ rfl) (fun hn b o e h => by
  obtain ⟨b', o', e', _, hne⟩ := h3 hn
  rw [e] at e'
  injection e' with e'; injection e' with e1 _
  exact hne (e1.symm.trans h))
theorem RefAt.drewN {w : World} {g : Nat} {gb : Option Nat} {s : RS} (h : RefAt w g gb s) (q : Nat) : RefAt (w.drewN q) g gb s := h
theorem RefAt.cells {w : World} {g : Nat} {gb : Option Nat} {s : RS} (h : RefAt w g gb s) : ∃ A n c k, w.cell? ⟨g, 0, none⟩ = some (.slice A n c) ∧ w.cell? ⟨g, 1, none⟩ = some (.int .i64 ((k : Nat) : Int)) ∧ w.cell? ⟨g, 2, none⟩ = some (.int .i64 (s.e : Int)) ∧
  w.frozen? ⟨g, 2, none⟩ = false ∧ k ≤ n ∧ n ≤ 65536 ∧ s.rest.length = n - k ∧ s.e ≤ 50 := by
 obtain ⟨A, n, c, k, bs, h1, h2, h3, h4, h5, h6, h7, h8, h9⟩ := h
 obtain ⟨x0, x1, x2, _, _, y2⟩ := cells3 h1
 exact ⟨A, n, c, k, x0, x1, x2, y2, h4, h7, by rw [← h8, List.length_drop, h2.1], h9⟩
theorem RefAt.lt {w : World} {g : Nat} {gb : Option Nat} {s : RS} (h : RefAt w g gb s) : g < w.heap.size := by
 obtain ⟨A, n, c, k, bs, h1, _⟩ := h
 exact heap_at_lt h1
theorem rdNumber (g : Nat) (gb : Option Nat) (s : RS) (m : Nat) (w : World) (hr : RefAt w g gb s) (hm : m ≤ 65536) :
  Calls Tryz.prog 89 #[.pointer (some ⟨g, 0, none⟩), .int .i64 (m : Int)] w fun e w' => e = .returned (.int .u64 (s.numb m : Int)) ∧ RefAt w' g gb (s.next m) ∧ Keep (· = g) w w' := by
 have HN : Hid (s.numb m = if s.ok m then numOf (s.rest.take m) else 0) := rfl
 have HG : Hid (s.got m = if s.ok m then s.rest.take m else []) := rfl
 go_enter Tryz.func89, Tryz.ntmps89
 go_wp2_with fail
 refine (rdNext g gb s m w hr hm).mono ?_
 have HGL := qH (RS.got_len (s := s) (n := m))
 obtain ⟨ok, hok⟩ : ∃ b, s.ok m = b := ⟨_, rfl⟩
 rw [hok] at HN HG
 have HOK := qH hok
 clear hok hr
 rintro e w1 ⟨A1, n1, c1, rfl, ho, hr1, hk⟩
 rw [HOK.out]
 have O := qH ho
 have R := qH hr1
 have K := qH hk
 clear ho hr1 hk
 cases ok
 ·go_wp2_with fail
  go_ret
  rw [HN.out]
  exact ⟨rfl, R.out, K.out⟩
 ·go_wp2_with fail
  refine (refNumber A1 n1 c1 w1.heap.size (s.got m) w1 O.out.1 (by have := O.out.1.1; have := HGL.out; omega)).mono ?_
  rintro e w2 ⟨rfl, rfl⟩
  go_wp2_with fail
  go_ret
  rw [HN.out]
  refine ⟨?_, R.out, K.out⟩
  rw [HG.out]
  rfl
def byteV (s : RS) : UInt8 := UInt8.ofNat (s.numb 1)
def intV (s : RS) : Int := wrap64 (s.numb 8 : Int)
theorem rdByte (g : Nat) (gb : Option Nat) (s : RS) (w : World) (hr : RefAt w g gb s) :
  Calls Tryz.prog 65 #[.pointer (some ⟨g, 0, none⟩)] w fun e w' => e = .returned (.int .u8 ((byteV s).toNat : Int)) ∧ RefAt w' g gb (s.next 1) ∧ Keep (· = g) w w' := by
 have HV : Hid (((s.numb 1 : Nat) : Int) % 256 = ((byteV s).toNat : Int)) := u8_mod _
 go_enter Tryz.func65, Tryz.ntmps65
 go_wp2_with fail
 refine (rdNumber g gb s 1 w hr (by decide)).mono ?_
 rintro e w1 ⟨rfl, hr1, hk⟩
 have R := qH hr1
 have K := qH hk
 clear hr hr1 hk
 go_wp2_with fail
 go_ret
 refine ⟨?_, R.out, K.out⟩
 rw [← HV.out]
 rfl
theorem rdInt (g : Nat) (gb : Option Nat) (s : RS) (w : World) (hr : RefAt w g gb s) :
  Calls Tryz.prog 64 #[.pointer (some ⟨g, 0, none⟩)] w fun e w' => e = .returned (.int .i64 (intV s)) ∧ RefAt w' g gb (s.next 8) ∧ Keep (· = g) w w' := by
 go_enter Tryz.func64, Tryz.ntmps64
 go_wp2_with fail
 refine (rdNumber g gb s 8 w hr (by decide)).mono ?_
 rintro e w1 ⟨rfl, hr1, hk⟩
 have R := qH hr1
 have K := qH hk
 clear hr hr1 hk
 go_wp2_with fail
 go_ret
 exact ⟨rfl, R.out, K.out⟩
def flagS (s : RS) : RS := if 1 < s.numb 1 then ⟨(s.next 1).rest, 50⟩ else s.next 1
theorem rdFlag (g : Nat) (gb : Option Nat) (s : RS) (w : World) (hr : RefAt w g gb s) :
  Calls Tryz.prog 66 #[.pointer (some ⟨g, 0, none⟩)] w fun e w' => e = .returned (.bool (decide (s.numb 1 = 1))) ∧ RefAt w' g gb (flagS s) ∧ Keep (· = g) w w' := by
 have HF : Hid (flagS s = if 1 < s.numb 1 then ⟨(s.next 1).rest, 50⟩ else s.next 1) := rfl
 go_enter Tryz.func66, Tryz.ntmps66
 go_wp2_with fail
 refine (rdNumber g gb s 1 w hr (by decide)).mono ?_
 rintro e w1 ⟨rfl, hr1, hk⟩
 have R := qH hr1
 have K := qH hk
 obtain ⟨x, hx⟩ : ∃ x, s.numb 1 = x := ⟨_, rfl⟩
 rw [hx] at HF ⊢
 have HX := qH hx
 obtain ⟨_, _, _, _, _, _, hc2, hfz, _⟩ := hr1.cells
 have he1 : ((x : Int) == 1) = decide (x = 1) := by rw [Bool.eq_iff_iff]; simp; omega
 clear hr hr1 hk hx
 by_cases h1 : (1 : Int) < (x : Int)
 ·go_wp2_with fail
  go_ret
  rw [HX.out, HF.out, if_pos (by omega)]
  exact ⟨by rw [← he1]; rfl, R.out.put2, K.out.setCell _ _ rfl⟩
 ·go_wp2_with fail
  go_ret
  rw [HX.out, HF.out, if_neg (by omega)]
  exact ⟨by rw [← he1]; rfl, R.out, K.out⟩
def bytesV (s : RS) : List UInt8 := if 65536 < s.numb 4 then [] else (s.next 4).got (s.numb 4)
def bytesS (s : RS) : RS := if 65536 < s.numb 4 then ⟨(s.next 4).rest, 50⟩ else (s.next 4).next (s.numb 4)
end
section
open Go.RowKit
def newRS (bs : List UInt8) : RS := if 65536 < bs.length then ⟨[], 3⟩ else ⟨bs, 0⟩
theorem rdNew (A : Option Addr) (n c : Nat) (bs : List UInt8) (w : World) (ha : Rd w w.heap.size A n bs) (hn : n ≤ 140737488355328) :
  Calls Tryz.prog 63 #[.slice A n c] w fun e w' => ∃ g gb, e = .returned (.pointer (some ⟨g, 0, none⟩)) ∧ RefAt w' g gb (newRS bs) ∧ w.heap.size ≤ g ∧ (∀ b, gb = some b → w.heap.size ≤ b ∧ b < w'.heap.size) ∧ Below w.heap.size w w' := by
 have HA := qH ha
 by_cases h : (65536 : Int) < (n : Int)
 ·have HN : Hid (newRS bs = ⟨[], 3⟩) := by
   show _ = _
   rw [newRS, if_pos (by rw [ha.1]; omega)]
  clear ha
  go_enter Tryz.func63, Tryz.ntmps63
  go_wp2_with fail
  go_ret
  rw [HN.out]
  exact ⟨w.heap.size, none, rfl, ⟨none, 0, 0, 0, [], heap_alloc_last w _, Rd.nil _ _ _, fun h => absurd h (Nat.lt_irrefl 0), by decide, by decide, by decide, by decide, rfl, by decide⟩, Nat.le_refl _, fun _ h => by simp at h, (Below.refl _ _).alloc (Nat.le_refl _) _⟩
 ·have HN : Hid (newRS bs = ⟨bs, 0⟩) := by
   show _ = _
   rw [newRS, if_neg (by rw [ha.1]; omega)]
  clear ha
  go_enter Tryz.func63, Tryz.ntmps63
  go_wp2_with fail
  refine (refCopy A n c bs w HA.out hn).mono ?_
  rintro e w1 ⟨A1, n1, c1, rfl, hown1, hb⟩
  obtain rfl : n1 = n := (Rd.of_own hown1).1.symm.trans HA.out.1
  have R := qH (Rd.of_own hown1)
  obtain ⟨hcp, hcp'⟩ := own_cap hown1
  have HH := qH (fun h0 => own_head hown1 h0)
  have B := qH hb
  clear hown1 hb
  go_wp2_with fail
  go_ret
  rw [HN.out]
  refine ⟨w1.heap.size, (if 0 < n1 then A1.map (fun a => a.block) else none), rfl, ⟨A1, n1, c1, 0, bs, heap_alloc_last w1 _, R.out.grow _, fun h0 => ?_, by omega, hcp, hcp', by omega, rfl, Nat.zero_le _⟩, B.out.size, fun b hb => ?_, B.out.alloc B.out.size _⟩
  ·obtain ⟨g, rfl, _⟩ := HH.out h0
   obtain ⟨b', o', e', hlt, _⟩ := R.out.2 h0
   injection e' with e'; injection e' with e1 _
   exact ⟨g, 0, rfl, by rw [if_pos h0]; rfl, by omega⟩
  ·split at hb
   ·rename_i h0
    obtain ⟨g, rfl, hg⟩ := HH.out h0
    obtain ⟨b', o', e', hlt, _⟩ := R.out.2 h0
    injection e' with e'; injection e' with e1 _
    simp only [Option.map_some, Option.some.injEq] at hb
    have hs : (w1.alloc (.cells #[.slice (some ⟨g, 0, none⟩) n1 c1, .int .i64 0, .int .i64 0] 122)).heap.size = w1.heap.size + 1 := by simp
    refine ⟨by omega, ?_⟩
    show b < (w1.alloc (.cells #[.slice (some ⟨g, 0, none⟩) n1 c1, .int .i64 0, .int .i64 0] 122)).heap.size
    omega
   ·cases hb
def tagV (s : RS) : List UInt8 := if s.ok 32 then s.rest.take 32 else zeros32
theorem tagV_len (s : RS) : (tagV s).length = 32 := by
 unfold tagV
 split
 ·rename_i h
  unfold RS.ok at h
  simp only [Bool.and_eq_true, decide_eq_true_eq] at h
  rw [List.length_take]; omega
 ·rfl
def TagR (w : World) (n gt : Nat) (A : Option Addr) (bs tv : List UInt8) (g : Nat) (gb : Option Nat) (s' : RS) (i : Value) (wr : World) : Prop :=
 ∃ k : Nat, k ≤ n ∧ i = .int .i64 (k : Int) ∧ TagAt wr (gt + 1) (fillB tv k) ∧ TagAt wr gt zeros32 ∧ RefAt wr g gb s' ∧ Rd wr wr.heap.size A n bs ∧ Keep (· = g) w wr
theorem tag_kept {R : Nat → Prop} {w w' : World} {g : Nat} {bs : List UInt8} (h : TagAt w g bs) (hk : Keep R w w') (hn : ¬ R g) : TagAt w' g bs := ⟨h.1, (hk.block g (heap_at_lt h.2) hn).trans h.2⟩
theorem rdTag (g : Nat) (gb : Option Nat) (s : RS) (w : World) (hr : RefAt w g gb s) (hgb : ∀ b, gb = some b → b < w.heap.size) :
  Calls Tryz.prog 67 #[.pointer (some ⟨g, 0, none⟩)] w fun e w' => e = .returned (.agg (arrB (tagV s))) ∧ RefAt w' g gb (s.next 32) ∧ Keep (· = g) w w' := by
 have hz := tag_zero
 have HGB := qH hgb
 have HGL := qH hr.lt
 have h2 := two_tags w zeros32 rfl
 have T0 := qH h2.1
 have T1 := qH h2.2
 have hb2 : Below w.heap.size w ((w.alloc (.cells (arrB zeros32) 32)).alloc (.cells (arrB zeros32) 32)) := ((Below.refl _ _).alloc (Nat.le_refl _) _).alloc (by simp) _
 have HSZ : Hid (((w.alloc (.cells (arrB zeros32) 32)).alloc (.cells (arrB zeros32) 32)).heap.size = w.heap.size + 2) := by (show _ = _); simp
 have R := qH (hr.below hb2)
 have K0 : Hid (Keep (· = g) w ((w.alloc (.cells (arrB zeros32) 32)).alloc (.cells (arrB zeros32) 32))) := Keep.of_below hb2
 have HV : Hid (∀ n, (s.got 32).length = n → (n = 32 ∧ tagV s = s.got 32) ∨ (n = 0 ∧ tagV s = zeros32)) := fun n hn => by
  have hl := tagV_len s
  unfold RS.got at hn ⊢
  unfold tagV at hl ⊢
  by_cases hok : s.ok 32 = true
  ·rw [if_pos hok] at hn hl ⊢
   rw [if_pos hok]
   exact .inl ⟨by omega, rfl⟩
  ·rw [if_neg hok] at hn ⊢
   rw [if_neg hok]
   exact .inr ⟨by simpa using hn.symm, rfl⟩
 clear hr hgb h2 hb2
 go_enter Tryz.func67, Tryz.ntmps67
 go_wp2_with fail
 clear hz
 generalize ((w.alloc (.cells (arrB zeros32) 32)).alloc (.cells (arrB zeros32) 32)) = w0 at *
 refine (rdNext g gb s 32 w0 R.out (by decide)).mono ?_
 rintro e w1 ⟨A1, n1, c1, rfl, ho, hr1, hk⟩
 have hv := HV.out n1 ho.1.1
 have hn32 : n1 ≤ 32 := by rcases hv with ⟨h, _⟩ | ⟨h, _⟩ <;> omega
 have HVV := qH hv
 have R1 := qH hr1
 have O := qH ho
 have HNG : Hid (w.heap.size ≠ g ∧ w.heap.size + 1 ≠ g) := ⟨by have := HGL.out; omega, by have := HGL.out; omega⟩
 replace T0 := qH (tag_kept T0.out hk (fun h => HNG.out.1 h))
 replace T1 := qH (tag_kept T1.out hk (fun h => HNG.out.2 h))
 have K1 := qH (K0.out.trans hk)
 have HOFF : Hid (0 < n1 → ∀ b o, A1 = some ⟨b, o, none⟩ → b ≠ w.heap.size + 1) := fun h0 b o e h => by
  obtain ⟨b', o', e', hB, _⟩ := ho.2 h0
  rw [e] at e'
  injection e' with e'; injection e' with e1 _
  have := HSZ.out
  omega
 have HLV := qH (tagV_len s)
 generalize s.got 32 = bs at *
 generalize s.ok 32 = ok at *
 obtain ⟨tv, htv⟩ : ∃ l, tagV s = l := ⟨_, rfl⟩
 rw [htv] at HLV HVV hv
 have HTV := qH htv
 clear ho hr1 hk HV R K0 htv hv
 go_wp2_with fail
 go_loopw [6] (fun i wr => TagR w n1 w.heap.size A1 bs tv g gb (s.next 32) i wr) (fun i _ => n1 - (intOf i).toNat)
 case atStart => exact ⟨0, Nat.zero_le _, rfl, by rw [fillB_zero, HLV.out]; exact T1.out, T0.out, R1.out, O.out.1, K1.out⟩
 case round =>
  clear T0 T1 R1 K1 O
  obtain ⟨k, hk, rfl, h1, h0, hr, hrd, hkp⟩ := hrel
  have T1 := qH h1
  have T0 := qH h0
  have R := qH hr
  have D := qH hrd
  have K := qH hkp
  clear h1 h0 hr hrd hkp
  by_cases hlt : k < n1
  ·obtain ⟨b, o, rfl, hbl, hc⟩ := D.out.2 (by omega)
   have hcell := hc k hlt
   obtain ⟨hcl, hfr⟩ := T1.out.cell (j := k) (by omega)
   have HBT : Hid (b ≠ w.heap.size + 1) := HOFF.out (by omega) b o rfl
   have HST := qH (fillB_set (bs := tv) (m := k) (by rw [HLV.out]; omega))
   have HEQ : Hid (tv = bs) := by
    rcases HVV.out with ⟨_, h⟩ | ⟨h, _⟩
    ·exact h
    ·omega
   have HN : Hid ((nth bs k : Int) = ((tv.getD k 0).toNat : Int)) := by rw [HEQ.out]; rfl
   clear hc
   go_wp2_with fail
   go_roundw
   case rel =>
    rw [HN.out]
    refine ⟨k + 1, by omega, by go_num, ?_, T0.out.other _ _ (by show w.heap.size ≠ w.heap.size + 1; omega), ?_, ?_, ?_⟩
    ·have h := T1.out.set (j := k) (tv.getD k 0)
     rw [HST.out] at h
     exact h
    ·refine R.out.kept (R := (· = w.heap.size + 1)) ((Keep.refl _ wr).setCell _ _ rfl) (fun h => HNG.out.2 h.symm) (fun b' hb' h => ?_)
     have := HGB.out b' hb'
     omega
    ·exact D.out.kept (R := (· = w.heap.size + 1)) ((Keep.refl _ wr).setCell _ _ rfl) (fun _ b' o' e h => by
      injection e with e; injection e with e1 _
      exact HBT.out (e1.trans h))
    ·exact K.out.new ((Keep.refl _ wr).setCell _ _ (by right; show w.heap.size ≤ w.heap.size + 1; omega))
   case measure => simp [intOf]; omega
  ·obtain rfl : k = n1 := by omega
   have hfull : fillB tv k = tv := by
    rcases HVV.out with ⟨h, _⟩ | ⟨h, h2⟩
    ·rw [h]
     have := fillB_all tv
     rwa [HLV.out] at this
    ·rw [h, h2]; rfl
   rw [hfull] at T1
   have S1 := qH (tag_size HLV.out)
   have E1 : Hid ((arrB zeros32).size = (arrB tv).size) := by
    show _ = _
    rw [arrB_size, arrB_size, HLV.out]; rfl
   clear hfull
   go_wp2_with (first | (refine wpList_load_row rfl 32 _ rfl (w.heap.size + 1) rfl 32 (arrB tv) (0, 0) _ T1.out.2 Tryz.underlying32 rfl S1.out ?_) | (refine wpList_store_row rfl 32 _ _ rfl w.heap.size (arrB tv) rfl rfl 32 (arrB zeros32) T0.out.2 S1.out E1.out (arrB_one _) ?_))
   (try simp only [Exit.inBlock, Exit.then])
   have KS : Keep (· = w.heap.size) wr (wr.setRow w.heap.size (arrB tv)) := ⟨rfl, rfl, rfl, by rw [setRow_size]; exact Nat.le_refl _, fun k hk hn => setRow_other wr _ k _ (fun h => hn h)⟩
   refine bodyPost_ret (v := .agg (arrB tv)) ?_ rfl ⟨by rw [HTV.out], ?_, K.out.new (KS.more fun k h => .inr (Nat.le_of_eq h.symm))⟩
   ·exact results_cell_row rfl _ _ w.heap.size 32 (arrB tv) (0, 0) _ rfl (setRow_heap _ _ _ _ _ _ T0.out.2) Tryz.underlying32 rfl S1.out
   ·refine R.out.kept KS (fun h => HNG.out.1 h.symm) (fun b' hb' h => ?_)
    have := HGB.out b' hb'
    omega
def countS (s : RS) (most : Int) : RS := if (s.next 8).e = 0 ∧ (intV s < 0 ∨ most < intV s ∨ ((s.next 8).rest.length : Int) < intV s) then ⟨(s.next 8).rest, 50⟩ else s.next 8
def countV (s : RS) (most : Int) : Int := if (countS s most).e = 0 then intV s else 0
def leftV (s : RS) : Nat := if s.e = 0 then s.rest.length else 0
def endV (s : RS) : Nat := if s.e = 0 ∧ 0 < s.rest.length then 50 else s.e
theorem rdEnd (g : Nat) (gb : Option Nat) (s : RS) (w : World) (hr : RefAt w g gb s) :
  Calls Tryz.prog 68 #[.pointer (some ⟨g, 0, none⟩)] w fun e w' => e = .returned (.int .i64 (endV s : Int)) ∧ ∃ q, w' = w.drewN q := by
 obtain ⟨A, n, c, k, x0, x1, x2, _, hkn, hn, hl, he50⟩ := hr.cells
 have HV : Hid (endV s = if s.e = 0 ∧ 0 < s.rest.length then 50 else s.e) := rfl
 rw [hl] at HV
 clear hr hl
 by_cases he : (s.e : Int) = 0
 ·rw [he] at x2
  have HE0 : Hid (s.e = 0) := by (show _ = _); omega
  by_cases h2 : (k : Int) < (n : Int)
  ·have h1 : Hid (endV s = 50) := by (show _ = _); rw [HV.out, if_pos ⟨by omega, by omega⟩]
   go_enter Tryz.func68, Tryz.ntmps68
   go_wp2
   go_quiet (fail)
   go_wp2
   go_ret
   exact ⟨by rw [h1.out]; rfl, _, rfl⟩
  ·have h1 : Hid (endV s = 0) := by (show _ = _); rw [HV.out, if_neg (by omega)]; exact HE0.out
   go_enter Tryz.func68, Tryz.ntmps68
   go_wp2
   go_quiet (fail)
   go_wp2
   go_ret
   exact ⟨by rw [h1.out]; rfl, _, rfl⟩
 ·have h1 : Hid (endV s = s.e) := by (show _ = _); rw [HV.out, if_neg (by omega)]
  have hne : ((s.e : Int) == 0) = false := by simp; omega
  go_enter Tryz.func68, Tryz.ntmps68
  go_wp2
  go_quiet (fail)
  go_wp2
  go_ret
  exact ⟨by rw [h1.out]; rfl, _, rfl⟩
end
section
open Go.RowKit
structure Took (s : RS) (form : List UInt8) (s' : RS) : Prop where
 e : s.e = 0
 e' : s'.e = 0
 r : s.rest = form ++ s'.rest
theorem Took.trans {a b c : RS} {f g : List UInt8} (h : Took a f b) (h' : Took b g c) : Took a (f ++ g) c := ⟨h.e, h'.e', by rw [h.r, h'.r, List.append_assoc]⟩
theorem rs_eta {s : RS} {t : List UInt8} (h : s.rest = t) (he : s.e = 0) : s = ⟨t, 0⟩ := by cases s; cases h; cases he; rfl
theorem rs_next {s : RS} {n : Nat} (h : (s.next n).e = 0) : s.e = 0 ∧ n ≤ s.rest.length ∧ s.next n = ⟨s.rest.drop n, 0⟩ ∧ s.numb n = numOf (s.rest.take n) := by
 have hok : s.ok n = true := by
  by_cases hh : s.ok n = true
  ·exact hh
  ·unfold RS.next at h
   rw [if_neg hh] at h
   by_cases he : s.e = 0
   ·rw [if_pos he] at h; cases h
   ·rw [if_neg he] at h; exact absurd h he
 have h2 := hok
 unfold RS.ok at h2
 rw [Bool.and_eq_true, decide_eq_true_eq, decide_eq_true_eq] at h2
 exact ⟨h2.1, h2.2, by unfold RS.next; rw [if_pos hok], by unfold RS.numb; rw [if_pos hok]⟩
theorem rs_take {s : RS} {n : Nat} (h : (s.next n).e = 0) : Took s (s.rest.take n) (s.next n) := by
 obtain ⟨h1, h2, h3, _⟩ := rs_next h
 exact ⟨h1, h, by rw [h3]; exact (List.take_append_drop n s.rest).symm⟩
theorem rs_app {b tl : List UInt8} {n : Nat} (h : b.length = n) : (⟨b ++ tl, 0⟩ : RS).ok n = true ∧ (⟨b ++ tl, 0⟩ : RS).next n = ⟨tl, 0⟩ ∧ (⟨b ++ tl, 0⟩ : RS).numb n = numOf b ∧ (⟨b ++ tl, 0⟩ : RS).got n = b := by
 have hok : (⟨b ++ tl, 0⟩ : RS).ok n = true := by
  unfold RS.ok
  rw [decide_eq_true rfl, decide_eq_true (by rw [List.length_append]; omega)]; rfl
 refine ⟨hok, ?_, ?_, ?_⟩
 ·unfold RS.next
  rw [if_pos hok]
  simp only [RS.mk.injEq, and_true]
  exact List.drop_left' h
 ·unfold RS.numb
  rw [if_pos hok]
  show numOf ((b ++ tl).take n) = _
  rw [List.take_left' h]
 ·unfold RS.got
  rw [if_pos hok]
  exact List.take_left' h
theorem numOf_small {l : List UInt8} (h : l.length = 4 ∨ l.length = 8 ∨ l.length = 1) : numOf l = num l := by unfold numOf; rw [if_neg (by omega)]
theorem numOf_encT {y n : Nat} (hn : n = 4 ∨ n = 8) (hy : y < 256 ^ n) : numOf (enc y n) = y := by
 rw [numOf_small (by rw [enc_len]; omega), num_enc, Nat.mod_eq_of_lt hy]
theorem enc_numOf {l : List UInt8} {n : Nat} (hl : l.length = n) (hn : n = 4 ∨ n = 8) : enc (numOf l) n = l := by
 subst hl
 rw [numOf_small (by omega), enc_num]
theorem wrap_u64 {n : Int} (h1 : -9223372036854775808 ≤ n) (h2 : n ≤ 9223372036854775807) : wrap64 (u64N n : Int) = n := by
 rw [← u64N_eq]
 unfold wrap64
 omega
theorem u64_wrap (n : Nat) (h : n < 18446744073709551616) : u64N (wrap64 (n : Int)) = n := by
 have h1 := u64N_eq (wrap64 (n : Int))
 unfold wrap64 at h1 ⊢
 omega
theorem wrap64_in (x : Int) : -9223372036854775808 ≤ wrap64 x ∧ wrap64 x ≤ 9223372036854775807 := by unfold wrap64; omega
theorem u64_nat {n : Nat} (h : n < 18446744073709551616) : u64N (n : Int) = n := by have := u64N_eq (n : Int); omega
structure Codec {α : Type} (V : RS → α) (S : RS → RS) (B : α → List UInt8) (Ok : α → Prop) : Prop where
 whole : ∀ s, (S s).e = 0 → Took s (B (V s)) (S s) ∧ Ok (V s)
 back : ∀ x t, Ok x → V ⟨B x ++ t, 0⟩ = x ∧ S ⟨B x ++ t, 0⟩ = ⟨t, 0⟩
def inI (x : Int) : Prop := -9223372036854775808 ≤ x ∧ x ≤ 9223372036854775807
theorem codec_int : Codec intV (·.next 8) (fun x => enc (u64N x) 8) inI := by
 refine ⟨fun s h => ?_, fun x t h => ?_⟩
 ·have hT := rs_take h
  obtain ⟨h1, h2, h3, h4⟩ := rs_next h
  have hl : (s.rest.take 8).length = 8 := by simp; omega
  have e := enc_numOf hl (.inr rfl)
  have hlt : numOf (s.rest.take 8) < 18446744073709551616 := by
   rw [numOf_small (by omega)]
   have := num_lt (s.rest.take 8)
   rw [hl] at this
   omega
  refine ⟨?_, by unfold intV; exact wrap64_in _⟩
  show Took s (enc (u64N (intV s)) 8) _
  unfold intV
  rw [h4, u64_wrap _ hlt, e]
  exact hT
 ·obtain ⟨_, a2, a3, _⟩ := rs_app (b := enc (u64N x) 8) (tl := t) (enc_len _ _)
  refine ⟨?_, a2⟩
  unfold intV
  rw [a3, numOf_encT (.inr rfl) (u64N_lt x), wrap_u64 h.1 h.2]
theorem codec_flag : Codec (fun s => decide (s.numb 1 = 1)) flagS (fun b => [flagB b]) (fun _ => True) := by
 have one : ∀ x : UInt8, numOf [x] = x.toNat := fun x => by rw [numOf_small (by simp)]; simp [num]
 refine ⟨fun s h => ⟨?_, trivial⟩, fun b t _ => ?_⟩
 ·unfold flagS at h ⊢
  by_cases h1 : 1 < s.numb 1
  ·rw [if_pos h1] at h; cases h
  ·rw [if_neg h1] at h ⊢
   have hT := rs_take h
   obtain ⟨g1, g2, g3, g4⟩ := rs_next h
   match hr : s.rest, g2 with
   | x :: tl, _ =>
    rw [hr] at hT g4
    have e : s.numb 1 = x.toNat := by rw [g4]; exact one x
    have ex : flagB (decide (s.numb 1 = 1)) = x := by
     rw [e] at h1 ⊢
     have hx := UInt8.ofNat_toNat (x := x)
     rcases (show x.toNat = 0 ∨ x.toNat = 1 by omega) with h0 | h0
     ·rw [h0] at hx ⊢; rw [← hx]; rfl
     ·rw [h0] at hx ⊢; rw [← hx]; rfl
    show Took s [flagB (decide (s.numb 1 = 1))] _
    rw [ex]
    exact hT
 ·obtain ⟨_, a2, a3, _⟩ := rs_app (b := [flagB b]) (tl := t) (n := 1) rfl
  have e : (⟨[flagB b] ++ t, 0⟩ : RS).numb 1 = (flagB b).toNat := by rw [a3, one]
  refine ⟨?_, ?_⟩
  ·show decide ((⟨[flagB b] ++ t, 0⟩ : RS).numb 1 = 1) = b
   rw [e]; cases b <;> rfl
  ·unfold flagS
   rw [e, if_neg (by cases b <;> decide), a2]
theorem codec_bytes : Codec bytesV bytesS (fun b => enc b.length 4 ++ b) (fun b => b.length ≤ 65536) := by
 refine ⟨fun s h => ?_, fun b t hb => ?_⟩
 ·unfold bytesS at h ⊢
  unfold bytesV
  by_cases h1 : 65536 < s.numb 4
  ·rw [if_pos h1] at h; cases h
  ·rw [if_neg h1] at h ⊢
   rw [if_neg h1]
   obtain ⟨g1, g2, g3, g4⟩ := rs_next h
   have hT := rs_take g1
   obtain ⟨k1, k2, k3, k4⟩ := rs_next g1
   have hl : (s.rest.take 4).length = 4 := by simp; omega
   have hgot : (s.next 4).got (s.numb 4) = (s.next 4).rest.take (s.numb 4) := by
    unfold RS.got RS.ok
    rw [decide_eq_true g1, decide_eq_true g2]; rfl
   have hlen : ((s.next 4).rest.take (s.numb 4)).length = s.numb 4 := by simp; omega
   rw [hgot, hlen]
   refine ⟨?_, by omega⟩
   have e4 : enc (s.numb 4) 4 = s.rest.take 4 := by rw [k4]; exact enc_numOf hl (.inl rfl)
   rw [e4]
   exact hT.trans (rs_take h)
 ·have hlt : b.length < 256 ^ 4 := by omega
  have ea : (enc b.length 4 ++ b) ++ t = enc b.length 4 ++ (b ++ t) := List.append_assoc _ _ _
  show bytesV ⟨(enc b.length 4 ++ b) ++ t, 0⟩ = b ∧ bytesS ⟨(enc b.length 4 ++ b) ++ t, 0⟩ = ⟨t, 0⟩
  rw [ea]
  obtain ⟨_, a2, a3, _⟩ := rs_app (b := enc b.length 4) (tl := b ++ t) (enc_len _ _)
  obtain ⟨_, b2, _, b4⟩ := rs_app (b := b) (tl := t) rfl
  have e : (⟨enc b.length 4 ++ (b ++ t), 0⟩ : RS).numb 4 = b.length := by rw [a3, numOf_encT (.inl rfl) hlt]
  unfold bytesV bytesS
  rw [e, if_neg (by omega), if_neg (by omega), a2]
  exact ⟨b4, b2⟩
theorem Codec.pair {α β : Type} {V : RS → α} {S : RS → RS} {B : α → List UInt8} {Ok : α → Prop} {V' : RS → β} {S' : RS → RS} {B' : β → List UInt8} {Ok' : β → Prop} (h : Codec V S B Ok) (h' : Codec V' S' B' Ok') :
  Codec (fun s => (V s, V' (S s))) (fun s => S' (S s)) (fun p => B p.1 ++ B' p.2) (fun p => Ok p.1 ∧ Ok' p.2) := by
 refine ⟨fun s hs => ?_, fun p t hp => ?_⟩
 ·obtain ⟨a, b⟩ := h'.whole _ hs
  obtain ⟨a', b'⟩ := h.whole _ a.e
  exact ⟨a'.trans a, b', b⟩
 ·obtain ⟨a, b⟩ := h.back p.1 (B' p.2 ++ t) hp.1
  obtain ⟨a', b'⟩ := h'.back p.2 t hp.2
  have ea : (B p.1 ++ B' p.2) ++ t = B p.1 ++ (B' p.2 ++ t) := List.append_assoc _ _ _
  show (V ⟨(B p.1 ++ B' p.2) ++ t, 0⟩, V' (S ⟨(B p.1 ++ B' p.2) ++ t, 0⟩)) = p ∧ S' (S ⟨(B p.1 ++ B' p.2) ++ t, 0⟩) = ⟨t, 0⟩
  rw [ea, a, b, a', b']
  exact ⟨rfl, rfl⟩
theorem Codec.map {α β : Type} {V : RS → α} {S : RS → RS} {B : α → List UInt8} {Ok : α → Prop} (h : Codec V S B Ok) (f : α → β) (g : β → α) (hfg : ∀ x, f (g x) = x) (hgf : ∀ x, g (f x) = x) :
  Codec (fun s => f (V s)) S (fun y => B (g y)) (fun y => Ok (g y)) := by
 refine ⟨fun s hs => ?_, fun y t hy => ?_⟩
 ·obtain ⟨a, b⟩ := h.whole s hs
  show Took s (B (g (f (V s)))) _ ∧ Ok (g (f (V s)))
  rw [hgf]
  exact ⟨a, b⟩
 ·obtain ⟨a, b⟩ := h.back (g y) t hy
  show f (V ⟨B (g y) ++ t, 0⟩) = y ∧ _
  rw [a, b, hfg]
  exact ⟨rfl, rfl⟩
theorem Codec.is {α : Type} {V V' : RS → α} {S S' : RS → RS} {B B' : α → List UInt8} {Ok Ok' : α → Prop} (h : Codec V S B Ok) (hV : ∀ s, V' s = V s) (hS : ∀ s, S' s = S s) (hB : ∀ x, B' x = B x) (hO : ∀ x, Ok' x ↔ Ok x) : Codec V' S' B' Ok' := by
 obtain rfl : V' = V := funext hV
 obtain rfl : S' = S := funext hS
 obtain rfl : B' = B := funext hB
 exact ⟨fun s hs => ⟨(h.whole s hs).1, (hO _).2 (h.whole s hs).2⟩, fun x t hx => h.back x t ((hO _).1 hx)⟩
theorem codec_tag : Codec tagV (·.next 32) (fun t => t) (fun t => t.length = 32) := by
 refine ⟨fun s h => ?_, fun t u h => ?_⟩
 ·obtain ⟨h1, h2, h3, h4⟩ := rs_next h
  have hok : s.ok 32 = true := by unfold RS.ok; rw [decide_eq_true h1, decide_eq_true h2]; rfl
  refine ⟨?_, tagV_len s⟩
  unfold tagV
  rw [if_pos hok]
  exact rs_take h
 ·obtain ⟨a1, a2, _, _⟩ := rs_app (b := t) (tl := u) h
  refine ⟨?_, a2⟩
  unfold tagV
  rw [if_pos a1]
  exact List.take_left' h
theorem codec_byteC : Codec byteV (·.next 1) (fun x => [x]) (fun _ => True) := by
 have one : ∀ x : UInt8, numOf [x] = x.toNat := fun x => by rw [numOf_small (by simp)]; simp [num]
 refine ⟨fun s h => ⟨?_, trivial⟩, fun b t _ => ?_⟩
 ·have hT := rs_take h
  obtain ⟨g1, g2, g3, g4⟩ := rs_next h
  show Took s [byteV s] _
  unfold byteV
  rw [g4]
  match hr : s.rest, g2 with
  | x :: tl, _ =>
   rw [hr] at hT
   rw [show (x :: tl).take 1 = [x] from rfl, one, UInt8.ofNat_toNat]
   exact hT
 ·obtain ⟨_, a2, a3, _⟩ := rs_app (b := [b]) (tl := t) (n := 1) rfl
  refine ⟨?_, a2⟩
  unfold byteV
  rw [a3, one, UInt8.ofNat_toNat]
end
end Go.Proofs.YtffdjnhhmfpkgaaGreat