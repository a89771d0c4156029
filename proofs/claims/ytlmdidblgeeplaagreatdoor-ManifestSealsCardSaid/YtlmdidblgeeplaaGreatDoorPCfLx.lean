/- Several texts in one (a claim has 60 files at most): CfK, CfL. -/
import Derived.Test.YtlmdidblgeeplaaGreatDoorTz
import Derived.Test.YtlmdidblgeeplaaGreatDoorPCfJy
namespace Go.Proofs.YtlmdidblgeeplaaGreatDoor
set_option maxRecDepth 1000000
set_option maxHeartbeats 8000000
set_option linter.unusedVariables false
set_option linter.unusedSimpArgs false
section
open Go.RowKit
theorem wListW (A : Option Addr) (n c : Nat) (l : List Reg) (w0 w : World) (g gb : Nat) (F : Nat → Prop) (form : List UInt8) (h : WSt w0 w g gb F form) (hR : RdG w0 w0.heap.size A n l) (hn : n ≤ 12) (hl : form.length ≤ 20000) :
  Calls Tryz.prog 132 #[.pointer (some ⟨g, 0, none⟩), .slice A n c, .func (.func 133) #[] #[.pointer (some ⟨gb, 0, none⟩)]] w fun e w' => e = .returned (.tuple #[]) ∧ ∃ F', WSt w0 w' g gb F' (form ++ wsB l n) := by
 have H := qH h
 have R := qH hR
 have HN := qH hn
 have HL := qH hl
 have LL : Hid (l.length = n) := hR.1
 clear h hR hn hl
 go_enter Tryz.func132, Tryz.ntmps132
 go_wp2_with fail
 refine (wInt g F form false (n : Int) w H.out.wr).mono ?_
 intro e w1 ht
 obtain ⟨rfl, F1, hw, _⟩ := H.out.ends (len_ok (k := 8) HL.out (enc8_le _) (by decide)) ht
 rw [show enc (u64N (n : Int)) 8 = wsB l 0 by rw [wsB_zero, LL.out]; rfl] at hw
 have HR : Hid (∃ F, WSt w0 w1 g gb F (form ++ wsB l 0)) := ⟨F1, hw⟩
 clear ht hw H
 go_wp2_with fail
 go_loopw [7, 14] (fun s7 s14 wr => ∃ k : Nat, k ≤ n ∧ s14 = .int .i64 (k : Int) ∧ ∃ F, WSt w0 wr g gb F (form ++ wsB l k)) (fun _ s14 _ => n - (intOf s14).toNat)
 case atStart => exact ⟨0, Nat.zero_le _, rfl, HR.out⟩
 case round =>
  clear HR
  obtain ⟨k, hk, rfl, F2, hw⟩ := hrel
  have H := qH hw
  have HK := qH hk
  clear hw hk
  by_cases hlt : k < n
  ·have hltI : (k : Int) < (n : Int) := by omega
   have hwk : IntKind.i64.wrap ((k : Int) + 1) = (k : Int) + 1 := by have := HN.out; rw [IntKind.wrap_i64]; omega
   have HLT : Hid (k < n) := hlt
   have HS := qH (wsB_snoc (l := l) (k := k) (by rw [LL.out]; exact hlt))
   have HLE : Hid ((form ++ wsB l k).length ≤ 60000) := by
    (show _ ≤ _)
    have := wsB_le l k (by rw [LL.out]; exact HN.out)
    have := HL.out
    rw [List.length_append]; omega
   obtain ⟨bb, o, hA, _, hc⟩ := (R.out.below H.out.bel).2 (by omega)
   obtain ⟨y0, y1⟩ := hc k hlt
   subst hA
   clear hc hlt
   generalize hp : rat l k = p at *
   replace hp := qH hp
   go_wp2_with fail
   have HB := qH (H.out.to ((Below.refl wr.heap.size wr).alloc (Nat.le_refl _) (.cells #[.int .i64 p.1, .int .i64 p.2] 82)))
   refine (cWin p.1 p.2 w0 _ g gb F2 _ HB.out HLE.out).mono ?_
   rintro e w2 ⟨rfl, F3, hw3⟩
   have H3 := qH hw3
   clear hw3 HB
   go_wp2_with fail
   go_roundw
   case rel => exact ⟨k + 1, HLT.out, by go_num, F3, by rw [HS.out, ← List.append_assoc]; exact H3.out⟩
   case measure => simp [intOf]; omega
  ·obtain rfl : k = n := by have := HK.out; omega
   go_wp2_with fail
   exact bodyPost_end (results_none rfl _ _ _) rfl ⟨rfl, F2, H.out⟩
theorem wListC (A : Option Addr) (n c : Nat) (l : List Ch) (w0 w : World) (g gb : Nat) (F : Nat → Prop) (form : List UInt8) (h : WSt w0 w g gb F form) (hR : RdC w0 w0.heap.size A n l) (hn : n ≤ 8) (hl : form.length ≤ 20000) :
  Calls Tryz.prog 137 #[.pointer (some ⟨g, 0, none⟩), .slice A n c, .func (.func 138) #[] #[.pointer (some ⟨gb, 0, none⟩)]] w fun e w' => e = .returned (.tuple #[]) ∧ ∃ F', WSt w0 w' g gb F' (form ++ csB l n) := by
 have H := qH h
 have R := qH hR
 have HN := qH hn
 have HL := qH hl
 have LL : Hid (l.length = n) := hR.1
 clear h hR hn hl
 go_enter Tryz.func137, Tryz.ntmps137
 go_wp2_with fail
 refine (wInt g F form false (n : Int) w H.out.wr).mono ?_
 intro e w1 ht
 obtain ⟨rfl, F1, hw, _⟩ := H.out.ends (len_ok (k := 8) HL.out (enc8_le _) (by decide)) ht
 rw [show enc (u64N (n : Int)) 8 = csB l 0 by rw [csB_zero, LL.out]; rfl] at hw
 have HR : Hid (∃ F, WSt w0 w1 g gb F (form ++ csB l 0)) := ⟨F1, hw⟩
 clear ht hw H
 go_wp2_with fail
 go_loopw [7, 14] (fun s7 s14 wr => ∃ k : Nat, k ≤ n ∧ s14 = .int .i64 (k : Int) ∧ ∃ F, WSt w0 wr g gb F (form ++ csB l k)) (fun _ s14 _ => n - (intOf s14).toNat)
 case atStart => exact ⟨0, Nat.zero_le _, rfl, HR.out⟩
 case round =>
  clear HR
  obtain ⟨k, hk, rfl, F2, hw⟩ := hrel
  have H := qH hw
  have HK := qH hk
  clear hw hk
  by_cases hlt : k < n
  ·have hltI : (k : Int) < (n : Int) := by omega
   have hwk : IntKind.i64.wrap ((k : Int) + 1) = (k : Int) + 1 := by have := HN.out; rw [IntKind.wrap_i64]; omega
   have HLT : Hid (k < n) := hlt
   have HS := qH (csB_snoc (l := l) (k := k) (by rw [LL.out]; exact hlt))
   have HLE : Hid ((form ++ csB l k).length ≤ 60000) := by
    (show _ ≤ _)
    have := csB_le l k (by rw [LL.out]; exact HN.out)
    have := HL.out
    rw [List.length_append]; omega
   obtain ⟨bb, o, hA, y0, y1, y2, y3, y4⟩ := (R.out.below H.out.bel).at_ hlt
   subst hA
   clear hlt
   generalize hp : chAt l k = p at *
   replace hp := qH hp
   go_wp2_with fail
   have HB := qH (H.out.to ((Below.refl wr.heap.size wr).alloc (Nat.le_refl _) (.cells #[.int .i64 p.id, .int .i64 p.fr, .int .i64 p.dst, .int .i64 p.cap, .int .i64 p.size] 130)))
   refine (cCh p.id p.fr p.dst p.cap p.size w0 _ g gb F2 _ HB.out HLE.out).mono ?_
   rintro e w2 ⟨rfl, F3, hw3⟩
   have H3 := qH hw3
   clear hw3 HB
   go_wp2_with fail
   go_roundw
   case rel => exact ⟨k + 1, HLT.out, by go_num, F3, by rw [HS.out, ← List.append_assoc]; exact H3.out⟩
   case measure => simp [intOf]; omega
  ·obtain rfl : k = n := by have := HK.out; omega
   go_wp2_with fail
   exact bodyPost_end (results_none rfl _ _ _) rfl ⟨rfl, F2, H.out⟩
theorem wListP (A : Option Addr) (n c : Nat) (l : List Pt) (w0 w : World) (g gb : Nat) (F : Nat → Prop) (form : List UInt8) (h : WSt w0 w g gb F form) (hR : RdP w0 w0.heap.size A n l) (hn : n ≤ 6) (hl : form.length ≤ 20000) (hi : ∀ p ∈ l, p.img.length ≤ 512) :
  Calls Tryz.prog 134 #[.pointer (some ⟨g, 0, none⟩), .slice A n c, .func (.func 135) #[] #[.pointer (some ⟨gb, 0, none⟩)]] w fun e w' => e = .returned (.tuple #[]) ∧ ∃ F', WSt w0 w' g gb F' (form ++ psB l n) := by
 have H := qH h
 have R := qH hR
 have HN := qH hn
 have HL := qH hl
 have LL : Hid (l.length = n) := hR.1
 have HI := qH hi
 clear hi
 clear h hR hn hl
 go_enter Tryz.func134, Tryz.ntmps134
 go_wp2_with fail
 refine (wInt g F form false (n : Int) w H.out.wr).mono ?_
 intro e w1 ht
 obtain ⟨rfl, F1, hw, _⟩ := H.out.ends (len_ok (k := 8) HL.out (enc8_le _) (by decide)) ht
 rw [show enc (u64N (n : Int)) 8 = psB l 0 by rw [psB_zero, LL.out]; rfl] at hw
 have HR : Hid (∃ F, WSt w0 w1 g gb F (form ++ psB l 0)) := ⟨F1, hw⟩
 clear ht hw H
 go_wp2_with fail
 go_loopw [7, 14] (fun s7 s14 wr => ∃ k : Nat, k ≤ n ∧ s14 = .int .i64 (k : Int) ∧ ∃ F, WSt w0 wr g gb F (form ++ psB l k)) (fun _ s14 _ => n - (intOf s14).toNat)
 case atStart => exact ⟨0, Nat.zero_le _, rfl, HR.out⟩
 case round =>
  clear HR
  obtain ⟨k, hk, rfl, F2, hw⟩ := hrel
  have H := qH hw
  have HK := qH hk
  clear hw hk
  by_cases hlt : k < n
  ·have hltI : (k : Int) < (n : Int) := by omega
   have hwk : IntKind.i64.wrap ((k : Int) + 1) = (k : Int) + 1 := by have := HN.out; rw [IntKind.wrap_i64]; omega
   have HLT : Hid (k < n) := hlt
   have HS := qH (psB_snoc (l := l) (k := k) (by rw [LL.out]; exact hlt))
   have HLE : Hid ((form ++ psB l k).length ≤ 60000) := by
    (show _ ≤ _)
    have := psB_le l k (by rw [LL.out]; exact HN.out) HI.out
    have := HL.out
    rw [List.length_append]; omega
   have hc5 := R.out.at_ hlt
   obtain ⟨bb, o, A', m, c', hA, y0, y1, y2, y3, y4, hrd, hmc, hcc, hm7⟩ := hc5
   obtain ⟨_, _, _, _, _, hA', x0, x1, x2, x3, x4, _⟩ := (R.out.below H.out.bel).at_ hlt
   rw [hA] at hA'
   injection hA' with hA'; injection hA' with e1 e2
   subst e1; subst e2
   have z4 := (H.out.bel.cell (p := ⟨bb, _, none⟩) (cell_block y4)).trans y4
   have hm : m ≤ 512 := by rw [← hrd.1, ptAt_lt (by rw [LL.out]; exact hlt)]; exact HI.out _ (List.getElem_mem _)
   have RD := qH hrd
   have HM := qH hm
   have HC := qH (And.intro hmc hcc)
   subst hA
   clear hlt hrd hm hmc hcc hm7 y0 y1 y2 y3 y4 x4
   generalize hp : ptAt l k = p at *
   replace hp := qH hp
   go_wp2_with fail
   have HB := qH (H.out.to ((Below.refl wr.heap.size wr).alloc (Nat.le_refl _) (.cells #[.int .i64 p.id, .int .i64 p.base, .int .i64 p.size, .bool p.keep, .slice A' m c'] 58)))
   refine (cPt p.id p.base p.size p.keep A' m c' p.img w0 _ g gb F2 _ HB.out HLE.out RD.out HM.out HC.out).mono ?_
   rintro e w2 ⟨rfl, F3, hw3⟩
   have H3 := qH hw3
   clear hw3 HB
   go_wp2_with fail
   go_roundw
   case rel => exact ⟨k + 1, HLT.out, by go_num, F3, by rw [HS.out, ← List.append_assoc]; exact H3.out⟩
   case measure => simp [intOf]; omega
  ·obtain rfl : k = n := by have := HK.out; omega
   go_wp2_with fail
   exact bodyPost_end (results_none rfl _ _ _) rfl ⟨rfl, F2, H.out⟩
end
section
open Go.RowKit
def prB (c : Cf) : List UInt8 := if canC c = true then formC c else []
def prE (c : Cf) : Int := if canC c = true then 0 else 2
theorem pr_yes {c : Cf} (h : canC c = true) : prB c = formC c ∧ prE c = 0 := by unfold prB prE; rw [if_pos h, if_pos h]; exact ⟨rfl, rfl⟩
theorem pr_no {c : Cf} (h : canC c = false) : prB c = [] ∧ prE c = 2 := by unfold prB prE; rw [h]; exact ⟨rfl, rfl⟩
theorem res_two {fn : Func} {p q : Tmp} (h : fn.results = #[.tmp p, .tmp q]) (tmps : Array Value) (w : World) (u v : Value) (hp : tmps.getD p undef = u) (hq : tmps.getD q undef = v) : (results fn tmps).run Tryz.prog w = .ok (.tuple #[u, v]) w := by
 have hp' : tmps[p]?.getD undef = u := by simpa using hp
 have hq' : tmps[q]?.getD undef = v := by simpa using hq
 simp [results, h, hp', hq']
theorem wPrint (v : CV) (c : Cf) (w : World) (h : RdCf w w.heap.size v c) (hp : v.np ≤ 1000) :
  Calls Tryz.prog 70 #[.agg #[.slice v.aw v.nw v.kw, .slice v.ap v.np v.kp, .slice v.ac v.nc v.kc]] w fun e w' => ∃ A n k, e = .returned (.tuple #[.slice A n k, .int .i64 (prE c)]) ∧ OwR w' w.heap.size A n (prB c) ∧ n ≤ k ∧ k ≤ 9223372036854775807 ∧ Below w.heap.size w w' := by
 have hb := (Below.refl w.heap.size w).alloc (Nat.le_refl _) (.cells #[.slice v.aw v.nw v.kw, .slice v.ap v.np v.kp, .slice v.ac v.nc v.kc] 28)
 have B := qH hb
 have X := qH (Cfx.new w v 28)
 have R := qH (h.to hb)
 have HN := qH hp
 clear h hb hp
 go_enter Tryz.func70, Tryz.ntmps70
 obtain ⟨x0, x1, x2, _⟩ := X.out
 go_wp2_with fail
 generalize w.alloc (.cells #[.slice v.aw v.nw v.kw, .slice v.ap v.np v.kp, .slice v.ac v.nc v.kc] 28) = w1 at *
 refine (pCanOf v c w1 R.out HN.out).mono ?_
 rintro e w2 ⟨rfl, hb2⟩
 replace X := qH (X.out.to hb2)
 replace R := qH (R.out.to hb2)
 replace B := qH (B.out.trans (hb2.mono B.out.size))
 clear hb2 x0 x1 x2
 cases hcan : canC c
 ·have HC := qH (pr_no hcan)
  clear hcan
  go_wp2_with fail
  refine bodyPost_ret (res_two rfl _ _ (.slice none 0 0) (.int .i64 2) rfl rfl) rfl ⟨none, 0, 0, by rw [HC.out.2], by rw [HC.out.1]; exact ⟨Rd.nil _ _ _, fun h => absurd h (Nat.lt_irrefl 0)⟩, Nat.le_refl _, by decide, B.out⟩
 ·have HC := qH (pr_yes hcan)
  obtain ⟨ci, cw, cp, cc⟩ := canC_iff.1 hcan
  have HI := qH ci
  have HNW : Hid (v.nw ≤ 12) := by (show _ ≤ _); rw [← R.out.ww.1]; exact cw
  have HNP : Hid (v.np ≤ 6) := by (show _ ≤ _); rw [← R.out.pp.1]; exact cp
  have HNC : Hid (v.nc ≤ 8) := by (show _ ≤ _); rw [← R.out.cc.1]; exact cc
  have HCW := qH cw
  have HCP := qH cp
  have HCC := qH cc
  clear hcan ci cw cp cc
  go_wp2_with fail
  refine (wNew w2).mono ?_
  rintro e w3 ⟨g, F, rfl, hwr, hF, hb3⟩
  have HW : Hid (WSt w2 (w3.alloc (.cells #[.pointer (some ⟨g, 0, none⟩)] 60)) g w3.heap.size F []) := by
   have hal := (Below.refl w3.heap.size w3).alloc (Nat.le_refl _) (.cells #[.pointer (some ⟨g, 0, none⟩)] 60)
   exact ⟨hwr.to hal, fun hh => by have := hwr.lt _ hh; omega, by simp, hF, hb3.size, hb3.trans (hal.mono hb3.size)⟩
  clear hwr hF hb3
  obtain ⟨x0, _, _, _⟩ := X.out.to HW.out.bel
  go_wp2_with fail
  refine (wListW v.aw v.nw v.kw c.ws w2 _ g w3.heap.size F [] HW.out R.out.ww HNW.out (by decide)).mono ?_
  rintro e w4 ⟨rfl, F4, hw4⟩
  have H4 := qH hw4
  clear hw4 x0 HW
  obtain ⟨_, x1, _, _⟩ := X.out.to H4.out.bel
  have b4 := H4.out.box
  have L4 : Hid ((([] : List UInt8) ++ wsB c.ws v.nw).length ≤ 20000) := by (show _ ≤ _); have := wsB_le c.ws v.nw HCW.out; rw [List.nil_append]; omega
  go_wp2_with fail
  refine (wListP v.ap v.np v.kp c.ps w2 w4 g w3.heap.size F4 _ H4.out R.out.pp HNP.out L4.out HI.out).mono ?_
  rintro e w5 ⟨rfl, F5, hw5⟩
  have H5 := qH hw5
  clear hw5 x1 b4 H4
  obtain ⟨_, _, x2, _⟩ := X.out.to H5.out.bel
  have b5 := H5.out.box
  have L5 : Hid ((([] : List UInt8) ++ wsB c.ws v.nw ++ psB c.ps v.np).length ≤ 20000) := by (show _ ≤ _); have := wsB_le c.ws v.nw HCW.out; have := psB_le c.ps v.np HCP.out HI.out; rw [List.nil_append, List.length_append]; omega
  go_wp2_with fail
  refine (wListC v.ac v.nc v.kc c.cs w2 w5 g w3.heap.size F5 _ H5.out R.out.cc HNC.out L5.out).mono ?_
  rintro e w6 ⟨rfl, F6, hw6⟩
  have H6 := qH hw6
  clear hw6 x2 b5 H5
  have b6 := H6.out.box
  go_wp2_with fail
  refine (wDone g F6 _ false w6 H6.out.wr).mono ?_
  rintro e w7 ⟨A, n, k, rfl, ho, hk1, hk2, hb7⟩
  have O := qH ho
  have K1 := qH hk1
  have K2 := qH hk2
  have B7 := qH ((B.out.trans (H6.out.bel.mono B.out.size)).trans (hb7.mono (Nat.le_trans B.out.size H6.out.bel.size)))
  have HS := qH (Nat.le_trans B.out.size H6.out.bel.size)
  have HF : Hid (([] : List UInt8) ++ wsB c.ws v.nw ++ psB c.ps v.np ++ csB c.cs v.nc = formC c) := by
   (show _ = _)
   unfold formC
   rw [List.nil_append, R.out.ww.1, R.out.pp.1, R.out.cc.1]
  clear ho hk1 hk2 hb7 b6 H6
  go_wp2_with fail
  refine bodyPost_ret (res_two rfl _ _ (.slice A n k) (.int .i64 0) rfl rfl) rfl ⟨A, n, k, by rw [HC.out.2], ?_, K1.out, K2.out, B7.out⟩
  rw [HC.out.1, ← HF.out]
  exact O.out.mono HS.out
end
end Go.Proofs.YtlmdidblgeeplaaGreatDoor