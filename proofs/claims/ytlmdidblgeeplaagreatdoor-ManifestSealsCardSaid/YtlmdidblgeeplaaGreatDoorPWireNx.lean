/- Several texts in one (a claim has 60 files at most): WireT, WireM, WireN. -/
import Derived.Test.YtlmdidblgeeplaaGreatDoorTz
import Derived.Test.YtlmdidblgeeplaaGreatDoorPWireRy
namespace Go.Proofs.YtlmdidblgeeplaaGreatDoor
set_option maxRecDepth 1000000
set_option maxHeartbeats 8000000
set_option linter.unusedVariables false
set_option linter.unusedSimpArgs false
section
open Go.RowKit
theorem slice_hh {P : Program} {T U : TypeId} (L : U8 P T U) (A : Option Addr) {n c h : Nat} (h2 : h ≤ n) (hc : n ≤ c) :
  ∀ (k k' : IntKind) (w : World), (Instr.slice T (.slice A n c) none (some (.int k (h : Int))) (some (.int k' (h : Int)))).run P w = .ok (.slice A h h) w := by
 intro k k' w
 rw [run_slice_hm (ht := by rw [u8_elem L]; exact L.ul) (kh := k) (km := k') (h := (h : Int)) (m := (h : Int)) (h0 := by omega) (h2 := by omega) (h3 := by omega), u8_elem L, u8_size L]
 simp only [Result.andThen, sliced]
 congr 1
 cases A with
 | none => simp
 | some a => simp [addr_add_zero]
theorem slice_lb {P : Program} {T U : TypeId} (L : U8 P T U) (A : Option Addr) {n c l : Nat} (h2 : l ≤ n) (hc : n ≤ c) :
  ∃ A' c', (∀ (k : IntKind) (w : World), (Instr.slice T (.slice A n c) (some (.int k (l : Int))) none none).run P w = .ok (.slice A' (n - l) c') w) ∧
   (∀ (w : World) (B : Nat) (bs : List UInt8), Rd w B A n bs → Rd w B A' (n - l) (bs.drop l)) ∧ n - l ≤ c' ∧ c' ≤ c ∧ (∀ b o, A = some ⟨b, o, none⟩ → ∃ o', A' = some ⟨b, o', none⟩) := by
 refine ⟨if c = l then A else A.map (·.add l), c - l, fun k w => ?_, fun w B bs hr => ?_, by omega, by omega, fun b o e => ?_⟩
 ·rw [run_slice_l (ht := by rw [u8_elem L]; exact L.ul) (kl := k) (l := (l : Int)) (h0 := by omega) (h1 := by omega), u8_elem L, u8_size L]
  simp [Result.andThen, sliced]
 ·refine ⟨by simp [hr.1], fun h0 => ?_⟩
  obtain ⟨b, o, rfl, hb, _⟩ := hr.2 (by omega)
  have := hr.cut (l := l) (k := n) h2 (Nat.le_refl _)
  rw [List.take_of_length_le (by rw [hr.1]; exact Nat.le_refl _)] at this
  obtain ⟨b', o', e, hb', hc'⟩ := this.2 h0
  refine ⟨b', o', ?_, hb', hc'⟩
  rw [if_neg (by omega), ← e]
  simp [Addr.add]
 ·subst e
  split
  ·exact ⟨o, rfl⟩
  ·exact ⟨o + l, by simp [Addr.add]⟩
structure TakeOf (s : RS) (w : World) (i j : FuncId) (cap : Array Value) (z : Nat) (ok : Bool) (V : World → Ending → World → Prop) : Prop where
 ci : ∀ (args : Array Value) (w : World), (callFunc i args).run Tryz.prog w = .ok (.enter i args) w
 cj : ∀ (args : Array Value) (w : World), (callFunc j args).run Tryz.prog w = .ok (.enter j args) w
 size : ∀ A n c, Rd w w.heap.size A n s.rest → n ≤ c → c ≤ 9223372036854775807 → Calls Tryz.prog i (#[.slice A n c] ++ cap) w fun e w' => e = .returned (.tuple #[.int .i64 (z : Int), .bool ok]) ∧ Below w.heap.size w w'
 value : ok = true → z ≤ s.rest.length → ∀ w1 A, w.heap.size ≤ w1.heap.size → Rd w1 w1.heap.size A z (s.rest.take z) → Calls Tryz.prog j #[.slice A z z] w1 fun e w' => (∃ v, e = .returned v) ∧ V w1 e w'
def TookR (w : World) (g : Nat) (F : Nat → Prop) (s : RS) (z : Nat) (ok : Bool) (zero : Value) (V : World → Ending → World → Prop) (e : Ending) (w' : World) : Prop :=
 (ok = true ∧ z ≤ s.rest.length ∧ ∃ w1, PrAt w1 g F ⟨s.rest.drop z, 0⟩ ∧ Keep F w w1 ∧ V w1 e w') ∨ ((ok = false ∨ s.rest.length < z) ∧ e = .returned zero ∧ PrAt w' g F ⟨s.rest, 50⟩ ∧ Keep F w w')
theorem takeInt_ok (g : Nat) (F : Nat → Prop) (s : RS) (w : World) (i j : FuncId) (cap : Array Value) (z : Nat) (ok : Bool) (V : World → Ending → World → Prop) (h : PrAt w g F s) (he : s.e = 0) (hz : z ≤ 1000000) (hT : TakeOf s w i j cap z ok V) :
  Calls Tryz.prog 90 #[.pointer (some ⟨g, 0, none⟩), .func (.func i) #[] cap, .func (.func j) #[] #[]] w (TookR w g F s z ok (.int .i64 0) V) := by
 have hci := hT.ci
 have hcj := hT.cj
 have HS := qH hT.size
 have HV := qH hT.value
 have HE := qH h.err
 rw [he] at HE
 obtain ⟨A, n, c, bs, h1, h2, h3, h4, h5, hnc, hc, h8, h9, h10⟩ := h
 obtain rfl := h9 he
 have HB := qH h1
 have HR := qH h2
 have HFG := qH h3
 have HBL := qH h4
 have HLT := qH h5
 have HLEN := qH h2.1
 have HGL := qH (heap_at_lt h1)
 obtain ⟨x0, x1, x2, y0, y1, y2⟩ := cells3 h1
 rw [he] at HB x2
 have HOFF : Hid (Off A n (· = g)) := fun hn b o e h => by
  obtain ⟨b', o', e', _, hne⟩ := h4 hn
  rw [e] at e'
  injection e' with e'; injection e' with e1 _
  exact hne (e1.symm.trans h)
 clear hT h1 h2 h3 h4 h5 h9 h10 he
 go_enter Tryz.func90, Tryz.ntmps90
 go_wp2_with fail
 refine (HE.out).mono ?_
 rintro e w1 ⟨rfl, rfl⟩
 go_wp2_with fail
 refine (HS.out A n c HR.out hnc hc).mono ?_
 rintro e w1 ⟨rfl, hb⟩
 replace HB := qH ((hb.block g HGL.out).trans HB.out)
 replace HR := qH (HR.out.to hb)
 have HLT1 : Hid (∀ k, F k → k < w1.heap.size) := fun k hk => Nat.lt_of_lt_of_le (HLT.out k hk) hb.size
 have HK1 : Hid (Keep F w w1) := Keep.of_below hb
 have HSZ1 : Hid (w.heap.size ≤ w1.heap.size) := hb.size
 clear hb x0 x1 x2 y0 y1 y2
 obtain ⟨x0, x1, x2, y0, y1, y2⟩ := cells3 HB.out
 cases ok with
 | false =>
  have HN : Hid (false = false ∨ s.rest.length < z) := .inl rfl
  go_wp2_with fail
  go_ret
  have HB1 := set3_1 (v := .slice none 0 0) HB.out
  have HB2 := set3_2 (v := .int .i64 50) HB1
  refine .inr ⟨?_, rfl, ⟨none, 0, 0, [], HB2, Rd.nil _ _ _, HFG.out, fun h => absurd h (Nat.lt_irrefl 0), fun k hk => by simpa using HLT1.out k hk, by decide, by decide, by decide, fun h => by simp at h, Nat.le_refl 50⟩, (HK1.out.setCell _ _ HFG.out).setCell _ _ HFG.out⟩
  first | exact HN.out | (have hn := HN.out; simp at hn; simp; exact hn) | simp
 | true =>
  by_cases hbig : (z : Int) > (n : Int)
  ·have HN : Hid (true = false ∨ s.rest.length < z) := .inr (by rw [HLEN.out]; omega)
   go_wp2_with fail
   go_ret
   have HB1 := set3_1 (v := .slice none 0 0) HB.out
   have HB2 := set3_2 (v := .int .i64 50) HB1
   refine .inr ⟨?_, rfl, ⟨none, 0, 0, [], HB2, Rd.nil _ _ _, HFG.out, fun h => absurd h (Nat.lt_irrefl 0), fun k hk => by simpa using HLT1.out k hk, by decide, by decide, by decide, fun h => by simp at h, Nat.le_refl 50⟩, (HK1.out.setCell _ _ HFG.out).setCell _ _ HFG.out⟩
   first | exact HN.out | (have hn := HN.out; simp at hn; simp; exact hn) | simp
  ·have hzn : z ≤ n := by omega
   have hsl := slice_hh isU8 A (h := z) hzn hnc
   obtain ⟨A2, c2, hsl2, hrd2, hc2, hc2', hbk2⟩ := slice_lb isU8 A (l := z) hzn hnc
   have HR2 := qH (hrd2 _ _ _ HR.out)
   have HRF := qH (HR.out.front hzn)
   have HSUB : Hid (0 < n - z → ∃ b o, A2 = some ⟨b, o, none⟩ ∧ F b ∧ b ≠ g) := fun h0 => by
    obtain ⟨b, o, e, hF, hne⟩ := HBL.out (by omega)
    obtain ⟨o', e'⟩ := hbk2 b o e
    exact ⟨b, o', e', hF, hne⟩
   have HC2 : Hid (n - z ≤ c2 ∧ c2 ≤ 9223372036854775807 ∧ n - z ≤ 65536) := ⟨hc2, by omega, by omega⟩
   clear hrd2 hbig hbk2 hc2 hc2'
   go_wp2_with fail
   have K3 : Hid (Keep F w (w1.setCell ⟨g, 1, none⟩ (.slice A2 (n - z) c2))) := HK1.out.setCell _ _ HFG.out
   have K3g : Hid (Keep (· = g) w1 (w1.setCell ⟨g, 1, none⟩ (.slice A2 (n - z) c2))) := (Keep.refl _ w1).setCell _ _ rfl
   have HB3 := qH (set3_1 (v := .slice A2 (n - z) c2) HB.out)
   have HSZ : Hid ((w1.setCell ⟨g, 1, none⟩ (.slice A2 (n - z) c2)).heap.size = w1.heap.size) := by (show _ = _); simp
   generalize w1.setCell ⟨g, 1, none⟩ (.slice A2 (n - z) c2) = w3 at *
   have HF3 : Hid (Rd w3 w3.heap.size A z (s.rest.take z)) := HRF.out.kept K3g.out (fun h0 b o e h => HOFF.out (by omega) b o e h)
   have HR3 : Hid (Rd w3 w3.heap.size A2 (n - z) (s.rest.drop z)) := HR2.out.kept K3g.out (fun h0 b o e h => by
    obtain ⟨b', o', e', _, hne⟩ := HSUB.out h0
    rw [e] at e'
    injection e' with e'; injection e' with e1 _
    exact hne (e1.symm.trans h))
   have HOK : Hid (z ≤ s.rest.length) := by (show _ ≤ _); rw [HLEN.out]; exact hzn
   have HP3 : Hid (PrAt w3 g F ⟨s.rest.drop z, 0⟩) := ⟨A2, n - z, c2, s.rest.drop z, HB3.out, HR3.out, HFG.out, HSUB.out, fun k hk => by rw [HSZ.out]; exact HLT1.out k hk, HC2.out.1, HC2.out.2.1, HC2.out.2.2, fun _ => rfl, Nat.zero_le _⟩
   refine (HV.out (by first | rfl | trivial) HOK.out w3 A (by rw [HSZ.out]; exact HSZ1.out) HF3.out).mono ?_
   rintro e w4 ⟨⟨v, rfl⟩, hv⟩
   have HVV := qH hv
   clear hv
   go_wp2_with fail
   go_ret
   refine .inl ⟨?_, HOK.out, w3, HP3.out, K3.out, HVV.out⟩
   first | rfl | trivial
theorem takeBool_ok (g : Nat) (F : Nat → Prop) (s : RS) (w : World) (i j : FuncId) (cap : Array Value) (z : Nat) (ok : Bool) (V : World → Ending → World → Prop) (h : PrAt w g F s) (he : s.e = 0) (hz : z ≤ 1000000) (hT : TakeOf s w i j cap z ok V) :
  Calls Tryz.prog 157 #[.pointer (some ⟨g, 0, none⟩), .func (.func i) #[] cap, .func (.func j) #[] #[]] w (TookR w g F s z ok (.bool false) V) := by
 have hci := hT.ci
 have hcj := hT.cj
 have HS := qH hT.size
 have HV := qH hT.value
 have HE := qH h.err
 rw [he] at HE
 obtain ⟨A, n, c, bs, h1, h2, h3, h4, h5, hnc, hc, h8, h9, h10⟩ := h
 obtain rfl := h9 he
 have HB := qH h1
 have HR := qH h2
 have HFG := qH h3
 have HBL := qH h4
 have HLT := qH h5
 have HLEN := qH h2.1
 have HGL := qH (heap_at_lt h1)
 obtain ⟨x0, x1, x2, y0, y1, y2⟩ := cells3 h1
 rw [he] at HB x2
 have HOFF : Hid (Off A n (· = g)) := fun hn b o e h => by
  obtain ⟨b', o', e', _, hne⟩ := h4 hn
  rw [e] at e'
  injection e' with e'; injection e' with e1 _
  exact hne (e1.symm.trans h)
 clear hT h1 h2 h3 h4 h5 h9 h10 he
 go_enter Tryz.func157, Tryz.ntmps157
 go_wp2_with fail
 refine (HE.out).mono ?_
 rintro e w1 ⟨rfl, rfl⟩
 go_wp2_with fail
 refine (HS.out A n c HR.out hnc hc).mono ?_
 rintro e w1 ⟨rfl, hb⟩
 replace HB := qH ((hb.block g HGL.out).trans HB.out)
 replace HR := qH (HR.out.to hb)
 have HLT1 : Hid (∀ k, F k → k < w1.heap.size) := fun k hk => Nat.lt_of_lt_of_le (HLT.out k hk) hb.size
 have HK1 : Hid (Keep F w w1) := Keep.of_below hb
 have HSZ1 : Hid (w.heap.size ≤ w1.heap.size) := hb.size
 clear hb x0 x1 x2 y0 y1 y2
 obtain ⟨x0, x1, x2, y0, y1, y2⟩ := cells3 HB.out
 cases ok with
 | false =>
  have HN : Hid (false = false ∨ s.rest.length < z) := .inl rfl
  go_wp2_with fail
  go_ret
  have HB1 := set3_1 (v := .slice none 0 0) HB.out
  have HB2 := set3_2 (v := .int .i64 50) HB1
  refine .inr ⟨?_, rfl, ⟨none, 0, 0, [], HB2, Rd.nil _ _ _, HFG.out, fun h => absurd h (Nat.lt_irrefl 0), fun k hk => by simpa using HLT1.out k hk, by decide, by decide, by decide, fun h => by simp at h, Nat.le_refl 50⟩, (HK1.out.setCell _ _ HFG.out).setCell _ _ HFG.out⟩
  first | exact HN.out | (have hn := HN.out; simp at hn; simp; exact hn) | simp
 | true =>
  by_cases hbig : (z : Int) > (n : Int)
  ·have HN : Hid (true = false ∨ s.rest.length < z) := .inr (by rw [HLEN.out]; omega)
   go_wp2_with fail
   go_ret
   have HB1 := set3_1 (v := .slice none 0 0) HB.out
   have HB2 := set3_2 (v := .int .i64 50) HB1
   refine .inr ⟨?_, rfl, ⟨none, 0, 0, [], HB2, Rd.nil _ _ _, HFG.out, fun h => absurd h (Nat.lt_irrefl 0), fun k hk => by simpa using HLT1.out k hk, by decide, by decide, by decide, fun h => by simp at h, Nat.le_refl 50⟩, (HK1.out.setCell _ _ HFG.out).setCell _ _ HFG.out⟩
   first | exact HN.out | (have hn := HN.out; simp at hn; simp; exact hn) | simp
  ·have hzn : z ≤ n := by omega
   have hsl := slice_hh isU8 A (h := z) hzn hnc
   obtain ⟨A2, c2, hsl2, hrd2, hc2, hc2', hbk2⟩ := slice_lb isU8 A (l := z) hzn hnc
   have HR2 := qH (hrd2 _ _ _ HR.out)
   have HRF := qH (HR.out.front hzn)
   have HSUB : Hid (0 < n - z → ∃ b o, A2 = some ⟨b, o, none⟩ ∧ F b ∧ b ≠ g) := fun h0 => by
    obtain ⟨b, o, e, hF, hne⟩ := HBL.out (by omega)
    obtain ⟨o', e'⟩ := hbk2 b o e
    exact ⟨b, o', e', hF, hne⟩
   have HC2 : Hid (n - z ≤ c2 ∧ c2 ≤ 9223372036854775807 ∧ n - z ≤ 65536) := ⟨hc2, by omega, by omega⟩
   clear hrd2 hbig hbk2 hc2 hc2'
   go_wp2_with fail
   have K3 : Hid (Keep F w (w1.setCell ⟨g, 1, none⟩ (.slice A2 (n - z) c2))) := HK1.out.setCell _ _ HFG.out
   have K3g : Hid (Keep (· = g) w1 (w1.setCell ⟨g, 1, none⟩ (.slice A2 (n - z) c2))) := (Keep.refl _ w1).setCell _ _ rfl
   have HB3 := qH (set3_1 (v := .slice A2 (n - z) c2) HB.out)
   have HSZ : Hid ((w1.setCell ⟨g, 1, none⟩ (.slice A2 (n - z) c2)).heap.size = w1.heap.size) := by (show _ = _); simp
   generalize w1.setCell ⟨g, 1, none⟩ (.slice A2 (n - z) c2) = w3 at *
   have HF3 : Hid (Rd w3 w3.heap.size A z (s.rest.take z)) := HRF.out.kept K3g.out (fun h0 b o e h => HOFF.out (by omega) b o e h)
   have HR3 : Hid (Rd w3 w3.heap.size A2 (n - z) (s.rest.drop z)) := HR2.out.kept K3g.out (fun h0 b o e h => by
    obtain ⟨b', o', e', _, hne⟩ := HSUB.out h0
    rw [e] at e'
    injection e' with e'; injection e' with e1 _
    exact hne (e1.symm.trans h))
   have HOK : Hid (z ≤ s.rest.length) := by (show _ ≤ _); rw [HLEN.out]; exact hzn
   have HP3 : Hid (PrAt w3 g F ⟨s.rest.drop z, 0⟩) := ⟨A2, n - z, c2, s.rest.drop z, HB3.out, HR3.out, HFG.out, HSUB.out, fun k hk => by rw [HSZ.out]; exact HLT1.out k hk, HC2.out.1, HC2.out.2.1, HC2.out.2.2, fun _ => rfl, Nat.zero_le _⟩
   refine (HV.out (by first | rfl | trivial) HOK.out w3 A (by rw [HSZ.out]; exact HSZ1.out) HF3.out).mono ?_
   rintro e w4 ⟨⟨v, rfl⟩, hv⟩
   have HVV := qH hv
   clear hv
   go_wp2_with fail
   go_ret
   refine .inl ⟨?_, HOK.out, w3, HP3.out, K3.out, HVV.out⟩
   first | rfl | trivial
theorem takeBytes_ok (g : Nat) (F : Nat → Prop) (s : RS) (w : World) (i j : FuncId) (cap : Array Value) (z : Nat) (ok : Bool) (V : World → Ending → World → Prop) (h : PrAt w g F s) (he : s.e = 0) (hz : z ≤ 1000000) (hT : TakeOf s w i j cap z ok V) :
  Calls Tryz.prog 102 #[.pointer (some ⟨g, 0, none⟩), .func (.func i) #[] cap, .func (.func j) #[] #[]] w (TookR w g F s z ok (.slice none 0 0) V) := by
 have hci := hT.ci
 have hcj := hT.cj
 have HS := qH hT.size
 have HV := qH hT.value
 have HE := qH h.err
 rw [he] at HE
 obtain ⟨A, n, c, bs, h1, h2, h3, h4, h5, hnc, hc, h8, h9, h10⟩ := h
 obtain rfl := h9 he
 have HB := qH h1
 have HR := qH h2
 have HFG := qH h3
 have HBL := qH h4
 have HLT := qH h5
 have HLEN := qH h2.1
 have HGL := qH (heap_at_lt h1)
 obtain ⟨x0, x1, x2, y0, y1, y2⟩ := cells3 h1
 rw [he] at HB x2
 have HOFF : Hid (Off A n (· = g)) := fun hn b o e h => by
  obtain ⟨b', o', e', _, hne⟩ := h4 hn
  rw [e] at e'
  injection e' with e'; injection e' with e1 _
  exact hne (e1.symm.trans h)
 clear hT h1 h2 h3 h4 h5 h9 h10 he
 go_enter Tryz.func102, Tryz.ntmps102
 go_wp2_with fail
 refine (HE.out).mono ?_
 rintro e w1 ⟨rfl, rfl⟩
 go_wp2_with fail
 refine (HS.out A n c HR.out hnc hc).mono ?_
 rintro e w1 ⟨rfl, hb⟩
 replace HB := qH ((hb.block g HGL.out).trans HB.out)
 replace HR := qH (HR.out.to hb)
 have HLT1 : Hid (∀ k, F k → k < w1.heap.size) := fun k hk => Nat.lt_of_lt_of_le (HLT.out k hk) hb.size
 have HK1 : Hid (Keep F w w1) := Keep.of_below hb
 have HSZ1 : Hid (w.heap.size ≤ w1.heap.size) := hb.size
 clear hb x0 x1 x2 y0 y1 y2
 obtain ⟨x0, x1, x2, y0, y1, y2⟩ := cells3 HB.out
 cases ok with
 | false =>
  have HN : Hid (false = false ∨ s.rest.length < z) := .inl rfl
  go_wp2_with fail
  go_ret
  have HB1 := set3_1 (v := .slice none 0 0) HB.out
  have HB2 := set3_2 (v := .int .i64 50) HB1
  refine .inr ⟨?_, rfl, ⟨none, 0, 0, [], HB2, Rd.nil _ _ _, HFG.out, fun h => absurd h (Nat.lt_irrefl 0), fun k hk => by simpa using HLT1.out k hk, by decide, by decide, by decide, fun h => by simp at h, Nat.le_refl 50⟩, (HK1.out.setCell _ _ HFG.out).setCell _ _ HFG.out⟩
  first | exact HN.out | (have hn := HN.out; simp at hn; simp; exact hn) | simp
 | true =>
  by_cases hbig : (z : Int) > (n : Int)
  ·have HN : Hid (true = false ∨ s.rest.length < z) := .inr (by rw [HLEN.out]; omega)
   go_wp2_with fail
   go_ret
   have HB1 := set3_1 (v := .slice none 0 0) HB.out
   have HB2 := set3_2 (v := .int .i64 50) HB1
   refine .inr ⟨?_, rfl, ⟨none, 0, 0, [], HB2, Rd.nil _ _ _, HFG.out, fun h => absurd h (Nat.lt_irrefl 0), fun k hk => by simpa using HLT1.out k hk, by decide, by decide, by decide, fun h => by simp at h, Nat.le_refl 50⟩, (HK1.out.setCell _ _ HFG.out).setCell _ _ HFG.out⟩
   first | exact HN.out | (have hn := HN.out; simp at hn; simp; exact hn) | simp
  ·have hzn : z ≤ n := by omega
   have hsl := slice_hh isU8 A (h := z) hzn hnc
   obtain ⟨A2, c2, hsl2, hrd2, hc2, hc2', hbk2⟩ := slice_lb isU8 A (l := z) hzn hnc
   have HR2 := qH (hrd2 _ _ _ HR.out)
   have HRF := qH (HR.out.front hzn)
   have HSUB : Hid (0 < n - z → ∃ b o, A2 = some ⟨b, o, none⟩ ∧ F b ∧ b ≠ g) := fun h0 => by
    obtain ⟨b, o, e, hF, hne⟩ := HBL.out (by omega)
    obtain ⟨o', e'⟩ := hbk2 b o e
    exact ⟨b, o', e', hF, hne⟩
   have HC2 : Hid (n - z ≤ c2 ∧ c2 ≤ 9223372036854775807 ∧ n - z ≤ 65536) := ⟨hc2, by omega, by omega⟩
   clear hrd2 hbig hbk2 hc2 hc2'
   go_wp2_with fail
   have K3 : Hid (Keep F w (w1.setCell ⟨g, 1, none⟩ (.slice A2 (n - z) c2))) := HK1.out.setCell _ _ HFG.out
   have K3g : Hid (Keep (· = g) w1 (w1.setCell ⟨g, 1, none⟩ (.slice A2 (n - z) c2))) := (Keep.refl _ w1).setCell _ _ rfl
   have HB3 := qH (set3_1 (v := .slice A2 (n - z) c2) HB.out)
   have HSZ : Hid ((w1.setCell ⟨g, 1, none⟩ (.slice A2 (n - z) c2)).heap.size = w1.heap.size) := by (show _ = _); simp
   generalize w1.setCell ⟨g, 1, none⟩ (.slice A2 (n - z) c2) = w3 at *
   have HF3 : Hid (Rd w3 w3.heap.size A z (s.rest.take z)) := HRF.out.kept K3g.out (fun h0 b o e h => HOFF.out (by omega) b o e h)
   have HR3 : Hid (Rd w3 w3.heap.size A2 (n - z) (s.rest.drop z)) := HR2.out.kept K3g.out (fun h0 b o e h => by
    obtain ⟨b', o', e', _, hne⟩ := HSUB.out h0
    rw [e] at e'
    injection e' with e'; injection e' with e1 _
    exact hne (e1.symm.trans h))
   have HOK : Hid (z ≤ s.rest.length) := by (show _ ≤ _); rw [HLEN.out]; exact hzn
   have HP3 : Hid (PrAt w3 g F ⟨s.rest.drop z, 0⟩) := ⟨A2, n - z, c2, s.rest.drop z, HB3.out, HR3.out, HFG.out, HSUB.out, fun k hk => by rw [HSZ.out]; exact HLT1.out k hk, HC2.out.1, HC2.out.2.1, HC2.out.2.2, fun _ => rfl, Nat.zero_le _⟩
   refine (HV.out (by first | rfl | trivial) HOK.out w3 A (by rw [HSZ.out]; exact HSZ1.out) HF3.out).mono ?_
   rintro e w4 ⟨⟨v, rfl⟩, hv⟩
   have HVV := qH hv
   clear hv
   go_wp2_with fail
   go_ret
   refine .inl ⟨?_, HOK.out, w3, HP3.out, K3.out, HVV.out⟩
   first | rfl | trivial
end
section
open Go.RowKit
theorem call_enter {P : Program} {f : FuncId} {fn : Func} {c : Code} (hf : P.funcs[f]? = some fn) (hname : (fn.name == "runtime.NumGoroutine") = false) (hb : fn.body = some c) (args : Array Value) (w : World) :
  (callFunc f args).run P w = .ok (.enter f args) w := by
 have h1 : fn.name ≠ "runtime.NumGoroutine" := by simpa using hname
 simp [callFunc, hf, h1, hb]
theorem PrTo.after {w0 w w' : World} {g : Nat} {F : Nat → Prop} {s : RS} (hb : Below w0.heap.size w0 w) (h : PrTo w g F s w') : PrTo w0 g F s w' := by
 obtain ⟨F', h1, h2, h3⟩ := h
 exact ⟨F', h1, fun k hf => (h2 k hf).imp id (Nat.le_trans hb.size), (Keep.of_below hb).trans h3⟩
theorem PrTo.upto {w w1 w' : World} {g : Nat} {F : Nat → Prop} {s : RS} (h : PrTo w g F s w1) (hb : Below w1.heap.size w1 w') : PrTo w g F s w' := by
 obtain ⟨F', h1, h2, h3⟩ := h
 exact ⟨F', h1.to hb, h2, h3.trans (Keep.of_below hb)⟩
theorem TookR.pure {w w' : World} {g : Nat} {F : Nat → Prop} {s : RS} {z : Nat} {ok : Bool} {zero x : Value} {e : Ending} (h : TookR w g F s z ok zero (fun w1 e w' => e = .returned x ∧ Below w1.heap.size w1 w') e w') :
  (ok = true ∧ z ≤ s.rest.length ∧ e = .returned x ∧ PrTo w g F ⟨s.rest.drop z, 0⟩ w') ∨ ((ok = false ∨ s.rest.length < z) ∧ e = .returned zero ∧ PrTo w g F ⟨s.rest, 50⟩ w') := by
 rcases h with ⟨h1, h2, w1, h3, h4, h5, h6⟩ | ⟨h1, h2, h3, h4⟩
 ·exact .inl ⟨h1, h2, h5, PrTo.upto ⟨F, h3, fun k h => .inl h, h4⟩ h6⟩
 ·exact .inr ⟨h1, h2, F, h3, fun k h => .inl h, h4⟩
theorem numOf_single (x : UInt8) : numOf [x] = x.toNat := by
 unfold numOf
 rw [if_neg (by simp)]
 simp [num]
theorem take_one {l : List UInt8} (h : 1 ≤ l.length) : l.take 1 = [l.getD 0 0] := by
 match l, h with
 | x :: xs, _ => simp
theorem numb_one {s : RS} (he : s.e = 0) (h : 1 ≤ s.rest.length) : s.numb 1 = nth s.rest 0 := by
 unfold RS.numb RS.ok
 rw [decide_eq_true he, decide_eq_true h]
 show numOf (s.rest.take 1) = _
 rw [take_one h, numOf_single]; rfl
theorem next_yes {s : RS} {z : Nat} (he : s.e = 0) (h : z ≤ s.rest.length) : s.next z = ⟨s.rest.drop z, 0⟩ := by
 unfold RS.next RS.ok
 rw [decide_eq_true he, decide_eq_true h]; rfl
theorem next_no {s : RS} {z : Nat} (he : s.e = 0) (h : s.rest.length < z) : s.next z = ⟨s.rest, 50⟩ := by
 unfold RS.next RS.ok
 rw [decide_eq_false (show ¬ z ≤ s.rest.length by omega), Bool.and_false, if_neg (by simp), if_pos he]
theorem next_bad {s : RS} {z : Nat} (he : s.e ≠ 0) : s.next z = s := by
 unfold RS.next RS.ok
 rw [decide_eq_false he, Bool.false_and, if_neg (by simp), if_neg he]
theorem numb_no {s : RS} {z : Nat} (h : s.e ≠ 0 ∨ s.rest.length < z) : s.numb z = 0 := by
 unfold RS.numb RS.ok
 rw [if_neg]
 rcases h with h | h
 ·simp [h]
 ·simp; omega
theorem numb_yes {s : RS} {z : Nat} (he : s.e = 0) (h : z ≤ s.rest.length) : s.numb z = numOf (s.rest.take z) := by
 unfold RS.numb RS.ok
 rw [decide_eq_true he, decide_eq_true h]; rfl
theorem vFlag (A : Option Addr) (n c : Nat) (bs : List UInt8) (w : World) (ha : Rd w w.heap.size A n bs) (hn : 0 < n) : Calls Tryz.prog 158 #[.slice A n c] w fun e w' => e = .returned (.bool (decide (nth bs 0 = 1))) ∧ w = w' := by
 obtain ⟨b, o, rfl, hb, hc⟩ := ha.2 hn
 have hcell := hc 0 hn
 rw [Nat.add_zero] at hcell
 obtain ⟨x, hx⟩ : ∃ x, nth bs 0 = x := ⟨_, rfl⟩
 rw [hx] at hcell ⊢
 have he1 : ((x : Int) == 1) = decide (x = 1) := by rw [Bool.eq_iff_iff]; simp; omega
 clear ha hc hx
 go_enter Tryz.func158, Tryz.ntmps158
 go_wp2_with fail
 go_ret
 exact ⟨by first | rfl | (rw [← he1]; rfl), rfl⟩
theorem vBytes (A : Option Addr) (n c : Nat) (bs : List UInt8) (w : World) (ha : Rd w w.heap.size A n bs) (h4 : 4 ≤ n) (hn : n ≤ c) (hc : c ≤ 1000000) : Calls Tryz.prog 104 #[.slice A n c] w fun e w' => RetB 5 w (bs.drop 4) e w' := by
 obtain ⟨A2, c2, hsl2, hrd2, hc2, hc2'⟩ := slice_l isU8 A (l := 4) h4 hn
 have hr2 := hrd2 _ _ _ ha
 have hm : n - 4 ≤ 1000000 := by omega
 obtain ⟨n2, hn2⟩ : ∃ n2, n - 4 = n2 := ⟨_, rfl⟩
 rw [hn2] at hsl2 hr2 hc2 hm
 have hsl3 : ∀ (w : World), (Instr.slice 31 (.slice A n c) (some (.int .i64 4)) none none).run Tryz.prog w = .ok (.slice A2 n2 c2) w := fun w => hsl2 .i64 w
 have HR2 := qH hr2
 clear hrd2 ha hn2 hr2 hsl2
 go_enter Tryz.func104, Tryz.ntmps104
 go_wp2_with fail
 refine (wCat1 A2 n2 c2 (bs.drop 4) w HR2.out (by omega)).mono ?_
 rintro e w1 h
 have H := qH h
 obtain ⟨A1, n1, c1, rfl, _, _⟩ := h
 go_wp2_with fail
 go_ret
 exact H.out
end
section
open Go.RowKit
theorem alwaysSize (s : RS) (w : World) (h z : Nat) (hc : w.cell? ⟨h, 0, none⟩ = some (.int .i64 (z : Int))) (A : Option Addr) (n c : Nat) :
  Calls Tryz.prog 153 (#[.slice A n c] ++ #[.pointer (some ⟨h, 0, none⟩)]) w fun e w' => e = .returned (.tuple #[.int .i64 (z : Int), .bool true]) ∧ Below w.heap.size w w' := by
 refine (wAlways1 (.slice A n c) h (z : Int) w hc).mono ?_
 rintro e w' ⟨rfl, rfl⟩
 exact ⟨rfl, Below.refl _ _⟩
theorem not_le {s : RS} {z : Nat} {b : Bool} (h : b = false ∨ s.rest.length < z) (hb : b = true) : s.rest.length < z := by
 rcases h with h | h
 ·rw [hb] at h; cases h
 ·exact h
theorem intV_yes {s : RS} (he : s.e = 0) (h : 8 ≤ s.rest.length) : intV s = wrap64 (loadOf (s.rest.take 8) 0 8 : Int) := by
 unfold intV
 rw [numb_yes he h, (loadOf_zero (bs := s.rest.take 8) (k := 8) (by simp; omega) (by decide) (by decide)).1, List.take_take]; rfl
theorem intV_no {s : RS} (h : s.e ≠ 0 ∨ s.rest.length < 8) : intV s = 0 := by
 unfold intV
 rw [numb_no h]; simp [wrap64]
theorem tkInt (g : Nat) (F : Nat → Prop) (s : RS) (h : Nat) (w : World) (hp : PrAt w g F s) (hc : w.cell? ⟨h, 0, none⟩ = some (.int .i64 ((8 : Nat) : Int))) :
  Calls Tryz.prog 90 #[.pointer (some ⟨g, 0, none⟩), .func (.func 153) #[] #[.pointer (some ⟨h, 0, none⟩)], .func (.func 92) #[] #[]] w fun e w' => e = .returned (.int .i64 (intV s)) ∧ PrTo w g F (s.next 8) w' := by
 by_cases he : s.e = 0
 ·have T : TakeOf s w 153 92 #[.pointer (some ⟨h, 0, none⟩)] 8 true (fun w1 e w' => e = .returned (.int .i64 (wrap64 (loadOf (s.rest.take 8) 0 8 : Int))) ∧ Below w1.heap.size w1 w') := by
   refine ⟨call_enter Tryz.func153 (by kernel_rfl) rfl, call_enter Tryz.func92 (by kernel_rfl) rfl, fun A n c _ _ _ => alwaysSize s w h 8 hc A n c, fun _ hz w1 A hsz hr => ?_⟩
   refine (wNumbr A 8 8 _ w1 hr (by decide) (by decide)).mono ?_
   rintro e w' ⟨rfl, rfl⟩
   exact ⟨⟨_, rfl⟩, rfl, Below.refl _ _⟩
  refine (takeInt_ok g F s w _ _ _ 8 true _ hp he (by decide) T).mono ?_
  intro e w' hh
  rcases hh.pure with ⟨_, hz, rfl, hto⟩ | ⟨hz, rfl, hto⟩
  ·rw [next_yes he hz, intV_yes he hz]; exact ⟨rfl, hto⟩
  ·have hz' := not_le hz rfl
   rw [next_no he hz', intV_no (.inr hz')]; exact ⟨rfl, hto⟩
 ·refine (takeInt_bad _ _ _ s.e w hp.err he).mono ?_
  rintro e w' ⟨rfl, rfl⟩
  rw [next_bad he, intV_no (.inl he)]
  exact ⟨rfl, PrTo.of_below hp (Below.refl _ _) rfl (fun _ => rfl)⟩
theorem pInt (g : Nat) (F : Nat → Prop) (s : RS) (w : World) (h : PrAt w g F s) : Calls Tryz.prog 38 #[.pointer (some ⟨g, 0, none⟩)] w fun e w' => e = .returned (.int .i64 (intV s)) ∧ PrTo w g F (s.next 8) w' := by
 have H := qH h
 obtain ⟨x, hx⟩ : ∃ x, intV s = x := ⟨_, rfl⟩
 rw [hx]
 have HX := qH hx
 clear h hx
 go_enter Tryz.func38, Tryz.ntmps38
 go_wp2_with fail
 refine (wAlways 8 w).mono ?_
 rintro e w1 ⟨rfl, hc, _, hb⟩
 have B := qH hb
 have C := qH hc
 clear hb hc
 go_wp2_with fail
 refine (tkInt g F s _ w1 (H.out.to B.out) C.out).mono ?_
 rw [HX.out]
 rintro e w2 ⟨rfl, hto⟩
 have T := qH (hto.after B.out)
 clear hto
 go_wp2_with fail
 go_ret
 exact ⟨rfl, T.out⟩
theorem wFlag1 (A : Option Addr) (n c : Nat) (bs : List UInt8) (w : World) (ha : Rd w w.heap.size A n bs) :
  Calls Tryz.prog 156 #[.slice A n c] w fun e w' => e = .returned (.tuple #[.int .i64 1, .bool (decide (0 < bs.length ∧ nth bs 0 ≤ 1))]) ∧ Below w.heap.size w w' := by
 have HL := qH ha.1
 by_cases h0 : (0 : Int) < (n : Int)
 ·obtain ⟨b, o, rfl, hb, hc⟩ := ha.2 (by omega)
  have hcell := hc 0 (by omega)
  rw [Nat.add_zero] at hcell
  have HLB := qH (nth_lt bs 0)
  have d0 : decide (0 < n) = true := decide_eq_true (by omega)
  obtain ⟨x, hx⟩ : ∃ x, nth bs 0 = x := ⟨_, rfl⟩
  rw [hx] at hcell HLB ⊢
  clear ha hc hx
  by_cases h1 : (x : Int) ≤ 1
  ·have d1 : decide (x ≤ 1) = true := decide_eq_true (by omega)
   have HD : Hid (decide (0 < bs.length ∧ x ≤ 1) = true) := decide_eq_true ⟨by rw [HL.out]; omega, by omega⟩
   go_enter Tryz.func156, Tryz.ntmps156
   go_wp2
   go_region_held (fun w' => w'.cell? ⟨b, o, none⟩ = some (.int .u8 (x : Int))) (go_keep) (fail)
   go_wp2
   go_ret2
   rw [HD.out]
   exact ⟨rfl, below_drewN (Below.refl _ _) _⟩
  ·have d1 : decide (x ≤ 1) = false := decide_eq_false (by omega)
   have HD : Hid (decide (0 < bs.length ∧ x ≤ 1) = false) := decide_eq_false (fun h => h1 (by omega))
   go_enter Tryz.func156, Tryz.ntmps156
   go_wp2
   go_region_held (fun w' => w'.cell? ⟨b, o, none⟩ = some (.int .u8 (x : Int))) (go_keep) (fail)
   go_wp2
   go_ret2
   rw [HD.out]
   have e1 : decide ((x : Int) ≤ 1) = false := decide_eq_false (by omega)
   simp only [e1]
   exact ⟨rfl, below_drewN (Below.refl _ _) _⟩
 ·have HD : Hid (decide (0 < bs.length ∧ nth bs 0 ≤ 1) = false) := decide_eq_false (fun h => by have := h.1; rw [HL.out] at this; omega)
  obtain rfl : n = 0 := by omega
  clear ha h0
  go_enter Tryz.func156, Tryz.ntmps156
  go_wp2
  refine wp_region_held_drew (S := (fun _ => True)) (by kernel_rfl) (trivial) (fun hHeld => ?_)
  refine tk 0 ?_
  simp only [pR]
  refine tk 1 ?_
  simp only [pR]
  refine tk 2 ?_
  simp only [pR]
  refine tk 3 ?_
  simp only [pR]
  refine sk 4 ?_
  simp only [pR]
  refine sk 5 ?_
  simp only [pR]
  refine sk 6 ?_
  simp only [pR]
  refine sk 7 ?_
  simp only [pR]
  refine tk 8 ?_
  simp only [pR]
  refine tk 9 ?_
  simp only [pR]
  refine tk 10 ?_
  simp only [pR]
  refine wpAnyH_done (by kernel_rfl) ?_ _
  go_wp2
  go_ret2
  rw [HD.out]
  exact ⟨rfl, below_drewN (Below.refl _ _) _⟩
theorem flagS_no {s : RS} (h : s.e ≠ 0 ∨ s.rest.length < 1) : flagS s = s.next 1 ∧ decide (s.numb 1 = 1) = false := by
 unfold flagS
 rw [numb_no h]
 exact ⟨rfl, rfl⟩
theorem tkFlag (g : Nat) (F : Nat → Prop) (s : RS) (w : World) (hp : PrAt w g F s) :
  Calls Tryz.prog 157 #[.pointer (some ⟨g, 0, none⟩), .func (.func 156) #[] #[], .func (.func 158) #[] #[]] w fun e w' => e = .returned (.bool (decide (s.numb 1 = 1))) ∧ PrTo w g F (flagS s) w' := by
 by_cases he : s.e = 0
 ·have T : TakeOf s w 156 158 #[] 1 (decide (0 < s.rest.length ∧ nth s.rest 0 ≤ 1)) (fun w1 e w' => e = .returned (.bool (decide (nth (s.rest.take 1) 0 = 1))) ∧ Below w1.heap.size w1 w') := by
   refine ⟨call_enter Tryz.func156 (by kernel_rfl) rfl, call_enter Tryz.func158 (by kernel_rfl) rfl, fun A n c hr _ _ => wFlag1 A n c s.rest w hr, fun _ hz w1 A hsz hr => ?_⟩
   refine (vFlag A 1 1 _ w1 hr (by decide)).mono ?_
   rintro e w' ⟨rfl, rfl⟩
   exact ⟨⟨_, rfl⟩, rfl, Below.refl _ _⟩
  refine (takeBool_ok g F s w _ _ _ 1 _ _ hp he (by decide) T).mono ?_
  intro e w' hh
  rcases hh.pure with ⟨hd, hz, rfl, hto⟩ | ⟨hz, rfl, hto⟩
  ·have h2 := (of_decide_eq_true hd).2
   have e1 : nth (s.rest.take 1) 0 = nth s.rest 0 := by rw [take_one hz]; rfl
   have e2 := numb_one he hz
   unfold flagS
   rw [e2, if_neg (by omega), next_yes he hz]
   rw [e1] 
   exact ⟨rfl, hto⟩
  ·by_cases hlen : s.rest.length < 1
   ·obtain ⟨h1, h2⟩ := flagS_no (.inr hlen)
    rw [h1, h2, next_no he hlen]; exact ⟨rfl, hto⟩
   ·have hz1 : 1 ≤ s.rest.length := by omega
    have hd : ¬ (0 < s.rest.length ∧ nth s.rest 0 ≤ 1) := by
     rcases hz with h | h
     ·exact of_decide_eq_false h
     ·omega
    have hn : ¬ nth s.rest 0 ≤ 1 := fun h => hd ⟨by omega, h⟩
    have e2 := numb_one he hz1
    unfold flagS
    rw [e2, if_pos (by omega), decide_eq_false (by omega)]
    obtain ⟨F', h1, h2, h3⟩ := hto
    exact ⟨rfl, F', h1.as rfl (fun h => by cases h), h2, h3⟩
 ·obtain ⟨h1, h2⟩ := flagS_no (.inl he)
  refine (takeBool_bad _ _ _ s.e w hp.err he).mono ?_
  rintro e w' ⟨rfl, rfl⟩
  rw [h1, h2, next_bad he]
  exact ⟨rfl, PrTo.of_below hp (Below.refl _ _) rfl (fun _ => rfl)⟩
theorem pFlag (g : Nat) (F : Nat → Prop) (s : RS) (w : World) (h : PrAt w g F s) : Calls Tryz.prog 99 #[.pointer (some ⟨g, 0, none⟩)] w fun e w' => e = .returned (.bool (decide (s.numb 1 = 1))) ∧ PrTo w g F (flagS s) w' := by
 have H := qH h
 obtain ⟨x, hx⟩ : ∃ x, decide (s.numb 1 = 1) = x := ⟨_, rfl⟩
 rw [hx]
 have HX := qH hx
 clear h hx
 go_enter Tryz.func99, Tryz.ntmps99
 go_wp2_with fail
 refine (tkFlag g F s w H.out).mono ?_
 rw [HX.out]
 rintro e w2 ⟨rfl, hto⟩
 have T := qH hto
 clear hto
 go_wp2_with fail
 go_ret
 exact ⟨rfl, T.out⟩
end
end Go.Proofs.YtlmdidblgeeplaaGreatDoor