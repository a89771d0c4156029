/- Contracts of the document's own reader (citadelref05.Reader): its fields. -/
import Derived.Test.YtmhknpkiddgcpaaRefRd
namespace Go.Proofs.Ytmhknpkiddgcpaa
open Go.RowKit
set_option linter.unusedVariables false
set_option linter.unusedSimpArgs false

theorem RefAt.put2 {w : World} {g : Nat} {gb : Option Nat} {s : RS} (h : RefAt w g gb s) : RefAt (w.setCell ⟨g, 2, none⟩ (.int .i64 50)) g gb ⟨s.rest, 50⟩ := by
  obtain ⟨A, n, c, k, bs, h1, h2, h3, h4, h5, h6, h7, h8, h9⟩ := h
  refine ⟨A, n, c, k, bs, set3_2 h1, ?_, h3, h4, h5, h6, h7, h8, Nat.le_refl _⟩
  exact h2.kept (R := (· = g)) ((Keep.refl _ w).setCell _ _ rfl) (fun hn b o e h => by
    obtain ⟨b', o', e', _, hne⟩ := h3 hn
    rw [e] at e'
    injection e' with e'; injection e' with e1 _
    exact hne (e1.symm.trans h))
theorem RefAt.drewN {w : World} {g : Nat} {gb : Option Nat} {s : RS} (h : RefAt w g gb s) (q : Nat) : RefAt (w.drewN q) g gb s := h
/-- Its cells. -/
theorem RefAt.cells {w : World} {g : Nat} {gb : Option Nat} {s : RS} (h : RefAt w g gb s) : ∃ A n c k, w.cell? ⟨g, 0, none⟩ = some (.slice A n c) ∧ w.cell? ⟨g, 1, none⟩ = some (.int .i64 ((k : Nat) : Int)) ∧ w.cell? ⟨g, 2, none⟩ = some (.int .i64 (s.e : Int)) ∧
    w.frozen? ⟨g, 2, none⟩ = false ∧ k ≤ n ∧ n ≤ 65536 ∧ s.rest.length = n - k ∧ s.e ≤ 50 := by
  obtain ⟨A, n, c, k, bs, h1, h2, h3, h4, h5, h6, h7, h8, h9⟩ := h
  obtain ⟨x0, x1, x2, _, _, y2⟩ := cells3 h1
  exact ⟨A, n, c, k, x0, x1, x2, y2, h4, h7, by rw [← h8, List.length_drop, h2.1], h9⟩
theorem RefAt.lt {w : World} {g : Nat} {gb : Option Nat} {s : RS} (h : RefAt w g gb s) : g < w.heap.size := by
  obtain ⟨A, n, c, k, bs, h1, _⟩ := h
  exact heap_at_lt h1

set_option maxRecDepth 100000 in
set_option maxHeartbeats 1000000 in
theorem rdNumber (g : Nat) (gb : Option Nat) (s : RS) (m : Nat) (w : World) (hr : RefAt w g gb s) (hm : m ≤ 65536) :
    Calls Try.prog 81 #[.pointer (some ⟨g, 0, none⟩), .int .i64 (m : Int)] w fun e w' => e = .returned (.int .u64 (s.numb m : Int)) ∧ RefAt w' g gb (s.next m) ∧ Keep (· = g) w w' := by
  have HN : Hid (s.numb m = if s.ok m then numOf (s.rest.take m) else 0) := rfl
  have HG : Hid (s.got m = if s.ok m then s.rest.take m else []) := rfl
  go_enter Try.func81, Try.ntmps81
  go_wp2_with fail
  refine (rdNext g gb s m w hr hm).mono ?_
  have HGL := Lib.hid (RS.got_len (s := s) (n := m))
  obtain ⟨ok, hok⟩ : ∃ b, s.ok m = b := ⟨_, rfl⟩
  rw [hok] at HN HG
  have HOK := Lib.hid hok
  clear hok hr
  rintro e w1 ⟨A1, n1, c1, rfl, ho, hr1, hk⟩
  rw [HOK.out]
  have O := Lib.hid ho
  have R := Lib.hid hr1
  have K := Lib.hid hk
  clear ho hr1 hk
  cases ok
  · go_wp2_with fail
    go_ret
    rw [HN.out]
    exact ⟨rfl, R.out, K.out⟩
  · go_wp2_with fail
    refine (refNumber A1 n1 c1 w1.heap.size (s.got m) w1 O.out.1 (by have := O.out.1.1; have := HGL.out; omega)).mono ?_
    rintro e w2 ⟨rfl, rfl⟩
    go_wp2_with fail
    go_ret
    rw [HN.out]
    refine ⟨?_, R.out, K.out⟩
    rw [HG.out]
    rfl

def byteV (s : RS) : UInt8 := UInt8.ofNat (s.numb 1)
def intV (s : RS) : Int := wrap64 (s.numb 8 : Int)

set_option maxRecDepth 100000 in
set_option maxHeartbeats 1000000 in
theorem rdByte (g : Nat) (gb : Option Nat) (s : RS) (w : World) (hr : RefAt w g gb s) :
    Calls Try.prog 53 #[.pointer (some ⟨g, 0, none⟩)] w fun e w' => e = .returned (.int .u8 ((byteV s).toNat : Int)) ∧ RefAt w' g gb (s.next 1) ∧ Keep (· = g) w w' := by
  have HV : Hid (((s.numb 1 : Nat) : Int) % 256 = ((byteV s).toNat : Int)) := u8_mod _
  go_enter Try.func53, Try.ntmps53
  go_wp2_with fail
  refine (rdNumber g gb s 1 w hr (by decide)).mono ?_
  rintro e w1 ⟨rfl, hr1, hk⟩
  have R := Lib.hid hr1
  have K := Lib.hid hk
  clear hr hr1 hk
  go_wp2_with fail
  go_ret
  refine ⟨?_, R.out, K.out⟩
  rw [← HV.out]
  rfl

set_option maxRecDepth 100000 in
set_option maxHeartbeats 1000000 in
theorem rdInt (g : Nat) (gb : Option Nat) (s : RS) (w : World) (hr : RefAt w g gb s) :
    Calls Try.prog 54 #[.pointer (some ⟨g, 0, none⟩)] w fun e w' => e = .returned (.int .i64 (intV s)) ∧ RefAt w' g gb (s.next 8) ∧ Keep (· = g) w w' := by
  go_enter Try.func54, Try.ntmps54
  go_wp2_with fail
  refine (rdNumber g gb s 8 w hr (by decide)).mono ?_
  rintro e w1 ⟨rfl, hr1, hk⟩
  have R := Lib.hid hr1
  have K := Lib.hid hk
  clear hr hr1 hk
  go_wp2_with fail
  go_ret
  exact ⟨rfl, R.out, K.out⟩

def flagS (s : RS) : RS := if 1 < s.numb 1 then ⟨(s.next 1).rest, 50⟩ else s.next 1
set_option maxRecDepth 100000 in
set_option maxHeartbeats 1000000 in
theorem rdFlag (g : Nat) (gb : Option Nat) (s : RS) (w : World) (hr : RefAt w g gb s) :
    Calls Try.prog 55 #[.pointer (some ⟨g, 0, none⟩)] w fun e w' => e = .returned (.bool (decide (s.numb 1 = 1))) ∧ RefAt w' g gb (flagS s) ∧ Keep (· = g) w w' := by
  have HF : Hid (flagS s = if 1 < s.numb 1 then ⟨(s.next 1).rest, 50⟩ else s.next 1) := rfl
  go_enter Try.func55, Try.ntmps55
  go_wp2_with fail
  refine (rdNumber g gb s 1 w hr (by decide)).mono ?_
  rintro e w1 ⟨rfl, hr1, hk⟩
  have R := Lib.hid hr1
  have K := Lib.hid hk
  obtain ⟨x, hx⟩ : ∃ x, s.numb 1 = x := ⟨_, rfl⟩
  rw [hx] at HF ⊢
  have HX := Lib.hid hx
  obtain ⟨_, _, _, _, _, _, hc2, hfz, _⟩ := hr1.cells
  have he1 : ((x : Int) == 1) = decide (x = 1) := by rw [Bool.eq_iff_iff]; simp; omega
  clear hr hr1 hk hx
  by_cases h1 : (1 : Int) < (x : Int)
  · go_wp2_with fail
    go_ret
    rw [HX.out, HF.out, if_pos (by omega)]
    exact ⟨by rw [← he1]; rfl, R.out.put2, K.out.setCell _ _ rfl⟩
  · go_wp2_with fail
    go_ret
    rw [HX.out, HF.out, if_neg (by omega)]
    exact ⟨by rw [← he1]; rfl, R.out, K.out⟩

def bytesV (s : RS) : List UInt8 := if 65536 < s.numb 4 then [] else (s.next 4).got (s.numb 4)
def bytesS (s : RS) : RS := if 65536 < s.numb 4 then ⟨(s.next 4).rest, 50⟩ else (s.next 4).next (s.numb 4)
set_option maxRecDepth 100000 in
set_option maxHeartbeats 1000000 in
theorem rdBytes (g : Nat) (gb : Option Nat) (s : RS) (w : World) (hr : RefAt w g gb s) :
    Calls Try.prog 56 #[.pointer (some ⟨g, 0, none⟩)] w fun e w' => ∃ A n c, e = .returned (.slice A n c) ∧ OwR w' w.heap.size A n (bytesV s) ∧ RefAt w' g gb (bytesS s) ∧ Keep (· = g) w w' := by
  have HV : Hid (bytesV s = if 65536 < s.numb 4 then [] else (s.next 4).got (s.numb 4)) := rfl
  have HF : Hid (bytesS s = if 65536 < s.numb 4 then ⟨(s.next 4).rest, 50⟩ else (s.next 4).next (s.numb 4)) := rfl
  go_enter Try.func56, Try.ntmps56
  go_wp2_with fail
  refine (rdNumber g gb s 4 w hr (by decide)).mono ?_
  rintro e w1 ⟨rfl, hr1, hk⟩
  have R := Lib.hid hr1
  have K := Lib.hid hk
  obtain ⟨x, hx⟩ : ∃ x, s.numb 4 = x := ⟨_, rfl⟩
  rw [hx] at HF HV ⊢
  obtain ⟨_, _, _, _, _, _, hc2, hfz, _⟩ := hr1.cells
  clear hr hr1 hk hx
  by_cases h1 : (65536 : Int) < (x : Int)
  · go_wp2_with fail
    go_ret
    rw [HV.out, HF.out, if_pos (by omega), if_pos (by omega)]
    exact ⟨_, _, _, rfl, ⟨Rd.nil _ _ _, fun h => absurd h (Nat.lt_irrefl 0)⟩, R.out.put2, K.out.setCell _ _ rfl⟩
  · have hwk : IntKind.i64.wrap (x : Int) = (x : Int) := IntWalk.i64_in _ (by omega)
    go_wp2_with fail
    refine (rdNext g gb (s.next 4) x w1 R.out (by omega)).mono ?_
    rintro e w2 ⟨A2, n2, c2, rfl, ho, hr2, hk⟩
    have O := Lib.hid (ho.mono K.out.size)
    have R2 := Lib.hid hr2
    have K2 := Lib.hid (K.out.trans hk)
    generalize (s.next 4).ok x = ok at *
    clear ho hr2 hk
    go_wp2_with fail
    go_ret
    rw [HV.out, HF.out, if_neg (by omega), if_neg (by omega)]
    exact ⟨_, _, _, rfl, O.out, R2.out, K2.out⟩
end Go.Proofs.Ytmhknpkiddgcpaa
