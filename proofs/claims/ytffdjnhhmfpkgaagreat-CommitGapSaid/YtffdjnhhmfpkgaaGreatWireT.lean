/- The program's generic take (wire), of a reader that is whole: whatever size and value are. -/
import Derived.Test.YtffdjnhhmfpkgaaGreatTz
import Derived.Test.YtffdjnhhmfpkgaaGreatWireR
namespace Go.Proofs.YtffdjnhhmfpkgaaGreat
set_option maxRecDepth 1000000
set_option maxHeartbeats 8000000
open Go.RowKit
set_option linter.unusedVariables false
set_option linter.unusedSimpArgs false
theorem slice_hh {P : Program} {T U : TypeId} (L : U8 P T U) (A : Option Addr) {n c h : Nat} (h2 : h ≤ n) (hc : n ≤ c) :
  ∀ (k k' : IntKind) (w : World), (Instr.slice T (.slice A n c) none (some (.int k (h : Int))) (some (.int k' (h : Int)))).run P w = .ok (.slice A h h) w := by
 intro k k' w
 rw [run_slice_hm (ht := by rw [u8_elem L]; exact L.ul) (kh := k) (km := k') (h := (h : Int)) (m := (h : Int)) (h0 := by omega) (h2 := by omega) (h3 := by omega), u8_elem L, u8_size L]
 simp only [Result.andThen, sliced]
 congr 1
 cases A with
 | none => simp
 | some a => simp [addr_add_zero]
theorem slice_lb {P : Program} {T U : TypeId} (L : U8 P T U) (A : Option Addr) {n c l : Nat} (h2 : l ≤ n) (hc : n ≤ c) :
  ∃ A' c', (∀ (k : IntKind) (w : World), (Instr.slice T (.slice A n c) (some (.int k (l : Int))) none none).run P w = .ok (.slice A' (n - l) c') w) ∧
   (∀ (w : World) (B : Nat) (bs : List UInt8), Rd w B A n bs → Rd w B A' (n - l) (bs.drop l)) ∧ n - l ≤ c' ∧ c' ≤ c ∧ (∀ b o, A = some ⟨b, o, none⟩ → ∃ o', A' = some ⟨b, o', none⟩) := by
 refine ⟨if c = l then A else A.map (·.add l), c - l, fun k w => ?_, fun w B bs hr => ?_, by omega, by omega, fun b o e => ?_⟩
 ·rw [run_slice_l (ht := by rw [u8_elem L]; exact L.ul) (kl := k) (l := (l : Int)) (h0 := by omega) (h1 := by omega), u8_elem L, u8_size L]
  simp [Result.andThen, sliced]
 ·refine ⟨by simp [hr.1], fun h0 => ?_⟩
  obtain ⟨b, o, rfl, hb, _⟩ := hr.2 (by omega)
  have := hr.cut (l := l) (k := n) h2 (Nat.le_refl _)
  rw [List.take_of_length_le (by rw [hr.1]; exact Nat.le_refl _)] at this
  obtain ⟨b', o', e, hb', hc'⟩ := this.2 h0
  refine ⟨b', o', ?_, hb', hc'⟩
  rw [if_neg (by omega), ← e]
  simp [Addr.add]
 ·subst e
  split
  ·exact ⟨o, rfl⟩
  ·exact ⟨o + l, by simp [Addr.add]⟩
structure TakeOf (s : RS) (w : World) (i j : FuncId) (cap : Array Value) (z : Nat) (ok : Bool) (V : World → Ending → World → Prop) : Prop where
 ci : ∀ (args : Array Value) (w : World), (callFunc i args).run Tryz.prog w = .ok (.enter i args) w
 cj : ∀ (args : Array Value) (w : World), (callFunc j args).run Tryz.prog w = .ok (.enter j args) w
 size : ∀ A n c, Rd w w.heap.size A n s.rest → n ≤ c → c ≤ 9223372036854775807 → Calls Tryz.prog i (#[.slice A n c] ++ cap) w fun e w' => e = .returned (.tuple #[.int .i64 (z : Int), .bool ok]) ∧ Below w.heap.size w w'
 value : ok = true → z ≤ s.rest.length → ∀ w1 A, w.heap.size ≤ w1.heap.size → Rd w1 w1.heap.size A z (s.rest.take z) → Calls Tryz.prog j #[.slice A z z] w1 fun e w' => (∃ v, e = .returned v) ∧ V w1 e w'
def TookR (w : World) (g : Nat) (F : Nat → Prop) (s : RS) (z : Nat) (ok : Bool) (zero : Value) (V : World → Ending → World → Prop) (e : Ending) (w' : World) : Prop :=
 (ok = true ∧ z ≤ s.rest.length ∧ ∃ w1, PrAt w1 g F ⟨s.rest.drop z, 0⟩ ∧ Keep F w w1 ∧ V w1 e w') ∨ ((ok = false ∨ s.rest.length < z) ∧ e = .returned zero ∧ PrAt w' g F ⟨s.rest, 50⟩ ∧ Keep F w w')
theorem takeByte_ok (g : Nat) (F : Nat → Prop) (s : RS) (w : World) (i j : FuncId) (cap : Array Value) (z : Nat) (ok : Bool) (V : World → Ending → World → Prop) (h : PrAt w g F s) (he : s.e = 0) (hz : z ≤ 1000000) (hT : TakeOf s w i j cap z ok V) :
  Calls Tryz.prog 105 #[.pointer (some ⟨g, 0, none⟩), .func (.func i) #[] cap, .func (.func j) #[] #[]] w (TookR w g F s z ok (.int .u8 0) V) := by
 have hci := hT.ci
 have hcj := hT.cj
 have HS := qH hT.size
 have HV := qH hT.value
 have HE := qH h.err
 rw [he] at HE
 obtain ⟨A, n, c, bs, h1, h2, h3, h4, h5, hnc, hc, h8, h9, h10⟩ := h
 obtain rfl := h9 he
 have HB := qH h1
 have HR := qH h2
 have HFG := qH h3
 have HBL := qH h4
 have HLT := qH h5
 have HLEN := qH h2.1
 have HGL := qH (heap_at_lt h1)
 obtain ⟨x0, x1, x2, y0, y1, y2⟩ := cells3 h1
 rw [he] at HB x2
 have HOFF : Hid (Off A n (· = g)) := fun hn b o e h => by
  obtain ⟨b', o', e', _, hne⟩ := h4 hn
  rw [e] at e'
  injection e' with e'; injection e' with e1 _
  exact hne (e1.symm.trans h)
 clear hT h1 h2 h3 h4 h5 h9 h10 he
 go_enter Tryz.func105, Tryz.ntmps105
 go_wp2_with fail
 refine (HE.out).mono ?_
 rintro e w1 ⟨rfl, rfl⟩
 go_wp2_with fail
 refine (HS.out A n c HR.out hnc hc).mono ?_
 rintro e w1 ⟨rfl, hb⟩
 replace HB := qH ((hb.block g HGL.out).trans HB.out)
 replace HR := qH (HR.out.to hb)
 have HLT1 : Hid (∀ k, F k → k < w1.heap.size) := fun k hk => Nat.lt_of_lt_of_le (HLT.out k hk) hb.size
 have HK1 : Hid (Keep F w w1) := Keep.of_below hb
 have HSZ1 : Hid (w.heap.size ≤ w1.heap.size) := hb.size
 clear hb x0 x1 x2 y0 y1 y2
 obtain ⟨x0, x1, x2, y0, y1, y2⟩ := cells3 HB.out
 cases ok with
 | false =>
  have HN : Hid (false = false ∨ s.rest.length < z) := .inl rfl
  go_wp2_with fail
  go_ret
  have HB1 := set3_1 (v := .slice none 0 0) HB.out
  have HB2 := set3_2 (v := .int .i64 50) HB1
  refine .inr ⟨?_, rfl, ⟨none, 0, 0, [], HB2, Rd.nil _ _ _, HFG.out, fun h => absurd h (Nat.lt_irrefl 0), fun k hk => by simpa using HLT1.out k hk, by decide, by decide, by decide, fun h => by simp at h, Nat.le_refl 50⟩, (HK1.out.setCell _ _ HFG.out).setCell _ _ HFG.out⟩
  first | exact HN.out | (have hn := HN.out; simp at hn; simp; exact hn) | simp
 | true =>
  by_cases hbig : (z : Int) > (n : Int)
  ·have HN : Hid (true = false ∨ s.rest.length < z) := .inr (by rw [HLEN.out]; omega)
   go_wp2_with fail
   go_ret
   have HB1 := set3_1 (v := .slice none 0 0) HB.out
   have HB2 := set3_2 (v := .int .i64 50) HB1
   refine .inr ⟨?_, rfl, ⟨none, 0, 0, [], HB2, Rd.nil _ _ _, HFG.out, fun h => absurd h (Nat.lt_irrefl 0), fun k hk => by simpa using HLT1.out k hk, by decide, by decide, by decide, fun h => by simp at h, Nat.le_refl 50⟩, (HK1.out.setCell _ _ HFG.out).setCell _ _ HFG.out⟩
   first | exact HN.out | (have hn := HN.out; simp at hn; simp; exact hn) | simp
  ·have hzn : z ≤ n := by omega
   have hsl := slice_hh isU8 A (h := z) hzn hnc
   obtain ⟨A2, c2, hsl2, hrd2, hc2, hc2', hbk2⟩ := slice_lb isU8 A (l := z) hzn hnc
   have HR2 := qH (hrd2 _ _ _ HR.out)
   have HRF := qH (HR.out.front hzn)
   have HSUB : Hid (0 < n - z → ∃ b o, A2 = some ⟨b, o, none⟩ ∧ F b ∧ b ≠ g) := fun h0 => by
    obtain ⟨b, o, e, hF, hne⟩ := HBL.out (by omega)
    obtain ⟨o', e'⟩ := hbk2 b o e
    exact ⟨b, o', e', hF, hne⟩
   have HC2 : Hid (n - z ≤ c2 ∧ c2 ≤ 9223372036854775807 ∧ n - z ≤ 65536) := ⟨hc2, by omega, by omega⟩
   clear hrd2 hbig hbk2 hc2 hc2'
   go_wp2_with fail
   have K3 : Hid (Keep F w (w1.setCell ⟨g, 1, none⟩ (.slice A2 (n - z) c2))) := HK1.out.setCell _ _ HFG.out
   have K3g : Hid (Keep (· = g) w1 (w1.setCell ⟨g, 1, none⟩ (.slice A2 (n - z) c2))) := (Keep.refl _ w1).setCell _ _ rfl
   have HB3 := qH (set3_1 (v := .slice A2 (n - z) c2) HB.out)
   have HSZ : Hid ((w1.setCell ⟨g, 1, none⟩ (.slice A2 (n - z) c2)).heap.size = w1.heap.size) := by (show _ = _); simp
   generalize w1.setCell ⟨g, 1, none⟩ (.slice A2 (n - z) c2) = w3 at *
   have HF3 : Hid (Rd w3 w3.heap.size A z (s.rest.take z)) := HRF.out.kept K3g.out (fun h0 b o e h => HOFF.out (by omega) b o e h)
   have HR3 : Hid (Rd w3 w3.heap.size A2 (n - z) (s.rest.drop z)) := HR2.out.kept K3g.out (fun h0 b o e h => by
    obtain ⟨b', o', e', _, hne⟩ := HSUB.out h0
    rw [e] at e'
    injection e' with e'; injection e' with e1 _
    exact hne (e1.symm.trans h))
   have HOK : Hid (z ≤ s.rest.length) := by (show _ ≤ _); rw [HLEN.out]; exact hzn
   have HP3 : Hid (PrAt w3 g F ⟨s.rest.drop z, 0⟩) := ⟨A2, n - z, c2, s.rest.drop z, HB3.out, HR3.out, HFG.out, HSUB.out, fun k hk => by rw [HSZ.out]; exact HLT1.out k hk, HC2.out.1, HC2.out.2.1, HC2.out.2.2, fun _ => rfl, Nat.zero_le _⟩
   refine (HV.out (by first | rfl | trivial) HOK.out w3 A (by rw [HSZ.out]; exact HSZ1.out) HF3.out).mono ?_
   rintro e w4 ⟨⟨v, rfl⟩, hv⟩
   have HVV := qH hv
   clear hv
   go_wp2_with fail
   go_ret
   refine .inl ⟨?_, HOK.out, w3, HP3.out, K3.out, HVV.out⟩
   first | rfl | trivial
theorem takeInt_ok (g : Nat) (F : Nat → Prop) (s : RS) (w : World) (i j : FuncId) (cap : Array Value) (z : Nat) (ok : Bool) (V : World → Ending → World → Prop) (h : PrAt w g F s) (he : s.e = 0) (hz : z ≤ 1000000) (hT : TakeOf s w i j cap z ok V) :
  Calls Tryz.prog 102 #[.pointer (some ⟨g, 0, none⟩), .func (.func i) #[] cap, .func (.func j) #[] #[]] w (TookR w g F s z ok (.int .i64 0) V) := by
 have hci := hT.ci
 have hcj := hT.cj
 have HS := qH hT.size
 have HV := qH hT.value
 have HE := qH h.err
 rw [he] at HE
 obtain ⟨A, n, c, bs, h1, h2, h3, h4, h5, hnc, hc, h8, h9, h10⟩ := h
 obtain rfl := h9 he
 have HB := qH h1
 have HR := qH h2
 have HFG := qH h3
 have HBL := qH h4
 have HLT := qH h5
 have HLEN := qH h2.1
 have HGL := qH (heap_at_lt h1)
 obtain ⟨x0, x1, x2, y0, y1, y2⟩ := cells3 h1
 rw [he] at HB x2
 have HOFF : Hid (Off A n (· = g)) := fun hn b o e h => by
  obtain ⟨b', o', e', _, hne⟩ := h4 hn
  rw [e] at e'
  injection e' with e'; injection e' with e1 _
  exact hne (e1.symm.trans h)
 clear hT h1 h2 h3 h4 h5 h9 h10 he
 go_enter Tryz.func102, Tryz.ntmps102
 go_wp2_with fail
 refine (HE.out).mono ?_
 rintro e w1 ⟨rfl, rfl⟩
 go_wp2_with fail
 refine (HS.out A n c HR.out hnc hc).mono ?_
 rintro e w1 ⟨rfl, hb⟩
 replace HB := qH ((hb.block g HGL.out).trans HB.out)
 replace HR := qH (HR.out.to hb)
 have HLT1 : Hid (∀ k, F k → k < w1.heap.size) := fun k hk => Nat.lt_of_lt_of_le (HLT.out k hk) hb.size
 have HK1 : Hid (Keep F w w1) := Keep.of_below hb
 have HSZ1 : Hid (w.heap.size ≤ w1.heap.size) := hb.size
 clear hb x0 x1 x2 y0 y1 y2
 obtain ⟨x0, x1, x2, y0, y1, y2⟩ := cells3 HB.out
 cases ok with
 | false =>
  have HN : Hid (false = false ∨ s.rest.length < z) := .inl rfl
  go_wp2_with fail
  go_ret
  have HB1 := set3_1 (v := .slice none 0 0) HB.out
  have HB2 := set3_2 (v := .int .i64 50) HB1
  refine .inr ⟨?_, rfl, ⟨none, 0, 0, [], HB2, Rd.nil _ _ _, HFG.out, fun h => absurd h (Nat.lt_irrefl 0), fun k hk => by simpa using HLT1.out k hk, by decide, by decide, by decide, fun h => by simp at h, Nat.le_refl 50⟩, (HK1.out.setCell _ _ HFG.out).setCell _ _ HFG.out⟩
  first | exact HN.out | (have hn := HN.out; simp at hn; simp; exact hn) | simp
 | true =>
  by_cases hbig : (z : Int) > (n : Int)
  ·have HN : Hid (true = false ∨ s.rest.length < z) := .inr (by rw [HLEN.out]; omega)
   go_wp2_with fail
   go_ret
   have HB1 := set3_1 (v := .slice none 0 0) HB.out
   have HB2 := set3_2 (v := .int .i64 50) HB1
   refine .inr ⟨?_, rfl, ⟨none, 0, 0, [], HB2, Rd.nil _ _ _, HFG.out, fun h => absurd h (Nat.lt_irrefl 0), fun k hk => by simpa using HLT1.out k hk, by decide, by decide, by decide, fun h => by simp at h, Nat.le_refl 50⟩, (HK1.out.setCell _ _ HFG.out).setCell _ _ HFG.out⟩
   first | exact HN.out | (have hn := HN.out; simp at hn; simp; exact hn) | simp
  ·have hzn : z ≤ n := by omega
   have hsl := slice_hh isU8 A (h := z) hzn hnc
   obtain ⟨A2, c2, hsl2, hrd2, hc2, hc2', hbk2⟩ := slice_lb isU8 A (l := z) hzn hnc
   have HR2 := qH (hrd2 _ _ _ HR.out)
   have HRF := qH (HR.out.front hzn)
   have HSUB : Hid (0 < n - z → ∃ b o, A2 = some ⟨b, o, none⟩ ∧ F b ∧ b ≠ g) := fun h0 => by
    obtain ⟨b, o, e, hF, hne⟩ := HBL.out (by omega)
    obtain ⟨o', e'⟩ := hbk2 b o e
    exact ⟨b, o', e', hF, hne⟩
   have HC2 : Hid (n - z ≤ c2 ∧ c2 ≤ 9223372036854775807 ∧ n - z ≤ 65536) := ⟨hc2, by omega, by omega⟩
   clear hrd2 hbig hbk2 hc2 hc2'
   go_wp2_with fail
   have K3 : Hid (Keep F w (w1.setCell ⟨g, 1, none⟩ (.slice A2 (n - z) c2))) := HK1.out.setCell _ _ HFG.out
   have K3g : Hid (Keep (· = g) w1 (w1.setCell ⟨g, 1, none⟩ (.slice A2 (n - z) c2))) := (Keep.refl _ w1).setCell _ _ rfl
   have HB3 := qH (set3_1 (v := .slice A2 (n - z) c2) HB.out)
   have HSZ : Hid ((w1.setCell ⟨g, 1, none⟩ (.slice A2 (n - z) c2)).heap.size = w1.heap.size) := by (show _ = _); simp
   generalize w1.setCell ⟨g, 1, none⟩ (.slice A2 (n - z) c2) = w3 at *
   have HF3 : Hid (Rd w3 w3.heap.size A z (s.rest.take z)) := HRF.out.kept K3g.out (fun h0 b o e h => HOFF.out (by omega) b o e h)
   have HR3 : Hid (Rd w3 w3.heap.size A2 (n - z) (s.rest.drop z)) := HR2.out.kept K3g.out (fun h0 b o e h => by
    obtain ⟨b', o', e', _, hne⟩ := HSUB.out h0
    rw [e] at e'
    injection e' with e'; injection e' with e1 _
    exact hne (e1.symm.trans h))
   have HOK : Hid (z ≤ s.rest.length) := by (show _ ≤ _); rw [HLEN.out]; exact hzn
   have HP3 : Hid (PrAt w3 g F ⟨s.rest.drop z, 0⟩) := ⟨A2, n - z, c2, s.rest.drop z, HB3.out, HR3.out, HFG.out, HSUB.out, fun k hk => by rw [HSZ.out]; exact HLT1.out k hk, HC2.out.1, HC2.out.2.1, HC2.out.2.2, fun _ => rfl, Nat.zero_le _⟩
   refine (HV.out (by first | rfl | trivial) HOK.out w3 A (by rw [HSZ.out]; exact HSZ1.out) HF3.out).mono ?_
   rintro e w4 ⟨⟨v, rfl⟩, hv⟩
   have HVV := qH hv
   clear hv
   go_wp2_with fail
   go_ret
   refine .inl ⟨?_, HOK.out, w3, HP3.out, K3.out, HVV.out⟩
   first | rfl | trivial
theorem takeBool_ok (g : Nat) (F : Nat → Prop) (s : RS) (w : World) (i j : FuncId) (cap : Array Value) (z : Nat) (ok : Bool) (V : World → Ending → World → Prop) (h : PrAt w g F s) (he : s.e = 0) (hz : z ≤ 1000000) (hT : TakeOf s w i j cap z ok V) :
  Calls Tryz.prog 108 #[.pointer (some ⟨g, 0, none⟩), .func (.func i) #[] cap, .func (.func j) #[] #[]] w (TookR w g F s z ok (.bool false) V) := by
 have hci := hT.ci
 have hcj := hT.cj
 have HS := qH hT.size
 have HV := qH hT.value
 have HE := qH h.err
 rw [he] at HE
 obtain ⟨A, n, c, bs, h1, h2, h3, h4, h5, hnc, hc, h8, h9, h10⟩ := h
 obtain rfl := h9 he
 have HB := qH h1
 have HR := qH h2
 have HFG := qH h3
 have HBL := qH h4
 have HLT := qH h5
 have HLEN := qH h2.1
 have HGL := qH (heap_at_lt h1)
 obtain ⟨x0, x1, x2, y0, y1, y2⟩ := cells3 h1
 rw [he] at HB x2
 have HOFF : Hid (Off A n (· = g)) := fun hn b o e h => by
  obtain ⟨b', o', e', _, hne⟩ := h4 hn
  rw [e] at e'
  injection e' with e'; injection e' with e1 _
  exact hne (e1.symm.trans h)
 clear hT h1 h2 h3 h4 h5 h9 h10 he
 go_enter Tryz.func108, Tryz.ntmps108
 go_wp2_with fail
 refine (HE.out).mono ?_
 rintro e w1 ⟨rfl, rfl⟩
 go_wp2_with fail
 refine (HS.out A n c HR.out hnc hc).mono ?_
 rintro e w1 ⟨rfl, hb⟩
 replace HB := qH ((hb.block g HGL.out).trans HB.out)
 replace HR := qH (HR.out.to hb)
 have HLT1 : Hid (∀ k, F k → k < w1.heap.size) := fun k hk => Nat.lt_of_lt_of_le (HLT.out k hk) hb.size
 have HK1 : Hid (Keep F w w1) := Keep.of_below hb
 have HSZ1 : Hid (w.heap.size ≤ w1.heap.size) := hb.size
 clear hb x0 x1 x2 y0 y1 y2
 obtain ⟨x0, x1, x2, y0, y1, y2⟩ := cells3 HB.out
 cases ok with
 | false =>
  have HN : Hid (false = false ∨ s.rest.length < z) := .inl rfl
  go_wp2_with fail
  go_ret
  have HB1 := set3_1 (v := .slice none 0 0) HB.out
  have HB2 := set3_2 (v := .int .i64 50) HB1
  refine .inr ⟨?_, rfl, ⟨none, 0, 0, [], HB2, Rd.nil _ _ _, HFG.out, fun h => absurd h (Nat.lt_irrefl 0), fun k hk => by simpa using HLT1.out k hk, by decide, by decide, by decide, fun h => by simp at h, Nat.le_refl 50⟩, (HK1.out.setCell _ _ HFG.out).setCell _ _ HFG.out⟩
  first | exact HN.out | (have hn := HN.out; simp at hn; simp; exact hn) | simp
 | true =>
  by_cases hbig : (z : Int) > (n : Int)
  ·have HN : Hid (true = false ∨ s.rest.length < z) := .inr (by rw [HLEN.out]; omega)
   go_wp2_with fail
   go_ret
   have HB1 := set3_1 (v := .slice none 0 0) HB.out
   have HB2 := set3_2 (v := .int .i64 50) HB1
   refine .inr ⟨?_, rfl, ⟨none, 0, 0, [], HB2, Rd.nil _ _ _, HFG.out, fun h => absurd h (Nat.lt_irrefl 0), fun k hk => by simpa using HLT1.out k hk, by decide, by decide, by decide, fun h => by simp at h, Nat.le_refl 50⟩, (HK1.out.setCell _ _ HFG.out).setCell _ _ HFG.out⟩
   first | exact HN.out | (have hn := HN.out; simp at hn; simp; exact hn) | simp
  ·have hzn : z ≤ n := by omega
   have hsl := slice_hh isU8 A (h := z) hzn hnc
   obtain ⟨A2, c2, hsl2, hrd2, hc2, hc2', hbk2⟩ := slice_lb isU8 A (l := z) hzn hnc
   have HR2 := qH (hrd2 _ _ _ HR.out)
   have HRF := qH (HR.out.front hzn)
   have HSUB : Hid (0 < n - z → ∃ b o, A2 = some ⟨b, o, none⟩ ∧ F b ∧ b ≠ g) := fun h0 => by
    obtain ⟨b, o, e, hF, hne⟩ := HBL.out (by omega)
    obtain ⟨o', e'⟩ := hbk2 b o e
    exact ⟨b, o', e', hF, hne⟩
   have HC2 : Hid (n - z ≤ c2 ∧ c2 ≤ 9223372036854775807 ∧ n - z ≤ 65536) := ⟨hc2, by omega, by omega⟩
   clear hrd2 hbig hbk2 hc2 hc2'
   go_wp2_with fail
   have K3 : Hid (Keep F w (w1.setCell ⟨g, 1, none⟩ (.slice A2 (n - z) c2))) := HK1.out.setCell _ _ HFG.out
   have K3g : Hid (Keep (· = g) w1 (w1.setCell ⟨g, 1, none⟩ (.slice A2 (n - z) c2))) := (Keep.refl _ w1).setCell _ _ rfl
   have HB3 := qH (set3_1 (v := .slice A2 (n - z) c2) HB.out)
   have HSZ : Hid ((w1.setCell ⟨g, 1, none⟩ (.slice A2 (n - z) c2)).heap.size = w1.heap.size) := by (show _ = _); simp
   generalize w1.setCell ⟨g, 1, none⟩ (.slice A2 (n - z) c2) = w3 at *
   have HF3 : Hid (Rd w3 w3.heap.size A z (s.rest.take z)) := HRF.out.kept K3g.out (fun h0 b o e h => HOFF.out (by omega) b o e h)
   have HR3 : Hid (Rd w3 w3.heap.size A2 (n - z) (s.rest.drop z)) := HR2.out.kept K3g.out (fun h0 b o e h => by
    obtain ⟨b', o', e', _, hne⟩ := HSUB.out h0
    rw [e] at e'
    injection e' with e'; injection e' with e1 _
    exact hne (e1.symm.trans h))
   have HOK : Hid (z ≤ s.rest.length) := by (show _ ≤ _); rw [HLEN.out]; exact hzn
   have HP3 : Hid (PrAt w3 g F ⟨s.rest.drop z, 0⟩) := ⟨A2, n - z, c2, s.rest.drop z, HB3.out, HR3.out, HFG.out, HSUB.out, fun k hk => by rw [HSZ.out]; exact HLT1.out k hk, HC2.out.1, HC2.out.2.1, HC2.out.2.2, fun _ => rfl, Nat.zero_le _⟩
   refine (HV.out (by first | rfl | trivial) HOK.out w3 A (by rw [HSZ.out]; exact HSZ1.out) HF3.out).mono ?_
   rintro e w4 ⟨⟨v, rfl⟩, hv⟩
   have HVV := qH hv
   clear hv
   go_wp2_with fail
   go_ret
   refine .inl ⟨?_, HOK.out, w3, HP3.out, K3.out, HVV.out⟩
   first | rfl | trivial
end Go.Proofs.YtffdjnhhmfpkgaaGreat