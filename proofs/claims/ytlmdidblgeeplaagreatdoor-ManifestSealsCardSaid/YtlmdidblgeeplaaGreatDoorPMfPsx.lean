/- Several texts in one (a claim has 60 files at most): CfD, CfE, CfF, MfPs. -/
import Derived.Test.YtlmdidblgeeplaaGreatDoorTz
import Derived.Test.YtlmdidblgeeplaaGreatDoorPCfTy
import Derived.Deep.Cut
import Derived.Test.YtlmdidblgeeplaaGreatDoorPMfXx
import Derived.Test.YtlmdidblgeeplaaGreatDoorPPadx
import Derived.Test.YtlmdidblgeeplaaGreatDoorPInvRx
import Derived.Test.YtlmdidblgeeplaaGreatDoorPMfPdx
namespace Go.Proofs.YtlmdidblgeeplaaGreatDoor
set_option maxRecDepth 1000000
set_option maxHeartbeats 8000000
set_option linter.unusedVariables false
set_option linter.unusedSimpArgs false
section
open Go.RowKit
theorem wEqualW (A A' : Option Addr) (n n' c c' : Nat) (l l' : List Reg) (w : World) (hS : RdG w w.heap.size A n l) (hS' : RdG w w.heap.size A' n' l') (hn : n ≤ 1000) :
  Calls Tryz.prog 121 #[.slice A n c, .slice A' n' c'] w fun e w' => e = .returned (.bool (decide (l = l'))) ∧ ∃ q, w' = w.drewN q := by
 have S := qH hS
 have S' := qH hS'
 have HN := qH hn
 clear hS hS' hn
 by_cases hne : n = n'
 ·subst hne
  have heI : ((n : Int) != (n : Int)) = false := by simp
  go_enter Tryz.func121, Tryz.ntmps121
  go_wp2_with fail
  go_loopw [5, 13] (fun s5 s13 wr => ∃ (k q : Nat), k ≤ n ∧ s13 = .int .i64 (k : Int) ∧ l.take k = l'.take k ∧ wr = w.drewN q) (fun _ s13 _ => n - (intOf s13).toNat)
  case atStart => exact ⟨0, 0, Nat.zero_le _, rfl, by simp, rfl⟩
  case round =>
   obtain ⟨k, q, hk, rfl, ht, rfl⟩ := hrel
   have HT := qH ht
   clear ht
   by_cases hlt : k < n
   ·have hltI : (k : Int) < (n : Int) := by omega
    have HLT : Hid (k < n) := hlt
    have hwk : IntKind.i64.wrap ((k : Int) + 1) = (k : Int) + 1 := by have := HN.out; rw [IntKind.wrap_i64]; omega
    obtain ⟨b1, o1, rfl, _, hr1⟩ := S.out.2 (by omega)
    obtain ⟨p0, p1⟩ := hr1 k hlt
    obtain ⟨b2, o2, rfl, _, hr2⟩ := S'.out.2 (by omega)
    obtain ⟨q0, q1⟩ := hr2 k hlt
    clear hr1 hr2
    clear hk hlt
    have hgd := cfWin_guard
    have heq := cfWin_eq
    go_wp2_with fail
    refine wp_region_held_drew (S := (fun w' => (w'.cell? ⟨b1, o1 + k * 2, none⟩ = some (.int .i64 (rat l k).1) ∧ w'.cell? ⟨b1, o1 + k * 2 + 1, none⟩ = some (.int .i64 (rat l k).2)) ∧ (w'.cell? ⟨b2, o2 + k * 2, none⟩ = some (.int .i64 (rat l' k).1) ∧ w'.cell? ⟨b2, o2 + k * 2 + 1, none⟩ = some (.int .i64 (rat l' k).2)))) (by kernel_rfl) (⟨⟨p0, p1⟩, q0, q1⟩) (fun hHeld => ?_)
    refine tk 0 ?_
    simp only [pR]
    refine tk 1 ?_
    simp only [pR]
    refine tk 2 ?_
    simp only [pR]
    refine tk 3 ?_
    simp only [pR]
    refine tk 4 ?_
    simp only [pR]
    refine tk 5 ?_
    simp only [pR]
    refine tk 6 ?_
    simp only [pR]
    refine tk 7 ?_
    simp only [pR]
    refine tk 8 ?_
    simp only [pR]
    refine wpAnyH_done (by kernel_rfl) ?_ _
    clear hHeld p0 p1 q0 q1 hgd heq
    have e9 : (w.drewN q).drew = w.drewN (q + 1) := rfl
    rw [e9]
    have hk1 : k < l.length := by rw [S.out.1]; exact HLT.out
    have hk2 : k < l'.length := by rw [S'.out.1]; exact HLT.out
    obtain ⟨z, hz⟩ : ∃ z, eqR ((rat l k).1, (rat l k).2) ((rat l' k).1, (rat l' k).2) = z := ⟨_, rfl⟩
    rw [hz]
    have HZ : Hid (eqR l[k] l'[k] = z) := by (show _ = _); rw [← rat_lt hk1, ← rat_lt hk2]; exact hz
    clear hz
    cases z
    ·have HF : Hid (false = decide (l = l')) := by
      (show _ = _)
      refine (decide_eq_false (fun e => ?_)).symm
      have h1 := HZ.out
      subst e
      rw [eqR_iff.2 rfl] at h1
      cases h1
     clear HZ hk1 hk2
     go_wp2_with fail
     go_ret
     exact ⟨ret_bool HF.out, q + 1, rfl⟩
    ·have HT2 := qH (takeS hk1 hk2 HT.out (eqR_iff.1 HZ.out))
     clear HZ hk1 hk2
     go_wp2_with fail
     go_roundw
     case rel => exact ⟨k + 1, q + 1, HLT.out, by go_num, HT2.out, rfl⟩
     case measure => have := HLT.out; simp [intOf]; omega
   ·obtain rfl : k = n := by omega
    have hltI : ¬ (k : Int) < (k : Int) := by omega
    have HE : Hid (true = decide (l = l')) := by
     (show _ = _)
     have := HT.out
     rw [List.take_of_length_le (by rw [S.out.1]; exact Nat.le_refl _), List.take_of_length_le (by rw [S'.out.1]; exact Nat.le_refl _)] at this
     rw [decide_eq_true this]
    clear hk hlt
    go_wp2_with fail
    go_ret
    exact ⟨ret_bool HE.out, q, rfl⟩
 ·have heI : ((n : Int) != (n' : Int)) = true := by simp; omega
  have HE : Hid (false = decide (l = l')) := by
   (show _ = _)
   rw [decide_eq_false (fun e => hne (by rw [← S.out.1, ← S'.out.1, e]))]
  clear hne
  go_enter Tryz.func121, Tryz.ntmps121
  go_wp2_with fail
  go_ret
  exact ⟨ret_bool HE.out, 0, rfl⟩
theorem wEqualC (A A' : Option Addr) (n n' c c' : Nat) (l l' : List Ch) (w : World) (hS : RdC w w.heap.size A n l) (hS' : RdC w w.heap.size A' n' l') (hn : n ≤ 1000) :
  Calls Tryz.prog 124 #[.slice A n c, .slice A' n' c'] w fun e w' => e = .returned (.bool (decide (l = l'))) ∧ ∃ q, w' = w.drewN q := by
 have S := qH hS
 have S' := qH hS'
 have HN := qH hn
 clear hS hS' hn
 by_cases hne : n = n'
 ·subst hne
  have heI : ((n : Int) != (n : Int)) = false := by simp
  go_enter Tryz.func124, Tryz.ntmps124
  go_wp2_with fail
  go_loopw [5, 13] (fun s5 s13 wr => ∃ (k q : Nat), k ≤ n ∧ s13 = .int .i64 (k : Int) ∧ l.take k = l'.take k ∧ wr = w.drewN q) (fun _ s13 _ => n - (intOf s13).toNat)
  case atStart => exact ⟨0, 0, Nat.zero_le _, rfl, by simp, rfl⟩
  case round =>
   obtain ⟨k, q, hk, rfl, ht, rfl⟩ := hrel
   have HT := qH ht
   clear ht
   by_cases hlt : k < n
   ·have hltI : (k : Int) < (n : Int) := by omega
    have HLT : Hid (k < n) := hlt
    have hwk : IntKind.i64.wrap ((k : Int) + 1) = (k : Int) + 1 := by have := HN.out; rw [IntKind.wrap_i64]; omega
    obtain ⟨b1, o1, rfl, p0, p1, p2, p3, p4⟩ := S.out.at_ hlt
    obtain ⟨b2, o2, rfl, q0, q1, q2, q3, q4⟩ := S'.out.at_ hlt
    clear hk hlt
    have hgd := cfCh_guard
    have heq := cfCh_eq
    go_wp2_with fail
    refine wp_region_held_drew (S := (fun w' => (w'.cell? ⟨b1, o1 + k * 5, none⟩ = some (.int .i64 (chAt l k).id) ∧ w'.cell? ⟨b1, o1 + k * 5 + 1, none⟩ = some (.int .i64 (chAt l k).fr) ∧ w'.cell? ⟨b1, o1 + k * 5 + 2, none⟩ = some (.int .i64 (chAt l k).dst) ∧ w'.cell? ⟨b1, o1 + k * 5 + 3, none⟩ = some (.int .i64 (chAt l k).cap) ∧ w'.cell? ⟨b1, o1 + k * 5 + 4, none⟩ = some (.int .i64 (chAt l k).size)) ∧ (w'.cell? ⟨b2, o2 + k * 5, none⟩ = some (.int .i64 (chAt l' k).id) ∧ w'.cell? ⟨b2, o2 + k * 5 + 1, none⟩ = some (.int .i64 (chAt l' k).fr) ∧ w'.cell? ⟨b2, o2 + k * 5 + 2, none⟩ = some (.int .i64 (chAt l' k).dst) ∧ w'.cell? ⟨b2, o2 + k * 5 + 3, none⟩ = some (.int .i64 (chAt l' k).cap) ∧ w'.cell? ⟨b2, o2 + k * 5 + 4, none⟩ = some (.int .i64 (chAt l' k).size)))) (by kernel_rfl) (⟨⟨p0, p1, p2, p3, p4⟩, q0, q1, q2, q3, q4⟩) (fun hHeld => ?_)
    refine tk 0 ?_
    simp only [pR]
    refine tk 1 ?_
    simp only [pR]
    refine tk 2 ?_
    simp only [pR]
    refine tk 3 ?_
    simp only [pR]
    refine tk 4 ?_
    simp only [pR]
    refine tk 5 ?_
    simp only [pR]
    refine tk 6 ?_
    simp only [pR]
    refine tk 7 ?_
    simp only [pR]
    refine tk 8 ?_
    simp only [pR]
    refine wpAnyH_done (by kernel_rfl) ?_ _
    clear hHeld p0 p1 p2 p3 p4 q0 q1 q2 q3 q4 hgd heq
    have e9 : (w.drewN q).drew = w.drewN (q + 1) := rfl
    rw [e9]
    have hk1 : k < l.length := by rw [S.out.1]; exact HLT.out
    have hk2 : k < l'.length := by rw [S'.out.1]; exact HLT.out
    obtain ⟨z, hz⟩ : ∃ z, eqCh ⟨(chAt l k).id, (chAt l k).fr, (chAt l k).dst, (chAt l k).cap, (chAt l k).size⟩ ⟨(chAt l' k).id, (chAt l' k).fr, (chAt l' k).dst, (chAt l' k).cap, (chAt l' k).size⟩ = z := ⟨_, rfl⟩
    rw [hz]
    have HZ : Hid (eqCh l[k] l'[k] = z) := by (show _ = _); rw [← chAt_lt hk1, ← chAt_lt hk2]; exact hz
    clear hz
    cases z
    ·have HF : Hid (false = decide (l = l')) := by
      (show _ = _)
      refine (decide_eq_false (fun e => ?_)).symm
      have h1 := HZ.out
      subst e
      rw [eqCh_iff.2 rfl] at h1
      cases h1
     clear HZ hk1 hk2
     go_wp2_with fail
     go_ret
     exact ⟨ret_bool HF.out, q + 1, rfl⟩
    ·have HT2 := qH (takeS hk1 hk2 HT.out (eqCh_iff.1 HZ.out))
     clear HZ hk1 hk2
     go_wp2_with fail
     go_roundw
     case rel => exact ⟨k + 1, q + 1, HLT.out, by go_num, HT2.out, rfl⟩
     case measure => have := HLT.out; simp [intOf]; omega
   ·obtain rfl : k = n := by omega
    have hltI : ¬ (k : Int) < (k : Int) := by omega
    have HE : Hid (true = decide (l = l')) := by
     (show _ = _)
     have := HT.out
     rw [List.take_of_length_le (by rw [S.out.1]; exact Nat.le_refl _), List.take_of_length_le (by rw [S'.out.1]; exact Nat.le_refl _)] at this
     rw [decide_eq_true this]
    clear hk hlt
    go_wp2_with fail
    go_ret
    exact ⟨ret_bool HE.out, q, rfl⟩
 ·have heI : ((n : Int) != (n' : Int)) = true := by simp; omega
  have HE : Hid (false = decide (l = l')) := by
   (show _ = _)
   rw [decide_eq_false (fun e => hne (by rw [← S.out.1, ← S'.out.1, e]))]
  clear hne
  go_enter Tryz.func124, Tryz.ntmps124
  go_wp2_with fail
  go_ret
  exact ⟨ret_bool HE.out, 0, rfl⟩
end
section
open Go.RowKit
theorem wSamePt (i b s i' b' s' : Int) (k k' : Bool) (A A' : Option Addr) (m c m' c' : Nat) (im im' : List UInt8) (w : World) (h : Rd w w.heap.size A m im) (h' : Rd w w.heap.size A' m' im') :
  Calls Tryz.prog 123 #[.agg #[.int .i64 i, .int .i64 b, .int .i64 s, .bool k, .slice A m c], .agg #[.int .i64 i', .int .i64 b', .int .i64 s', .bool k', .slice A' m' c']] w fun x w' =>
   x = .returned (.bool (samePt ⟨i, b, s, k, im⟩ ⟨i', b', s', k', im'⟩)) ∧ Below w.heap.size w w' := by
 have hgd := cfReg_guard
 have heq := cfReg_eq
 have B1 := (Below.refl w.heap.size w).alloc (Nat.le_refl _) (.cells #[.int .i64 i, .int .i64 b, .int .i64 s, .bool k, .slice A m c] 58)
 have P1 := Ptx.new w i b s k A m c 58
 have S1 : (w.alloc (.cells #[.int .i64 i, .int .i64 b, .int .i64 s, .bool k, .slice A m c] 58)).heap.size = w.heap.size + 1 := by simp
 generalize hw1 : (w.alloc (.cells #[.int .i64 i, .int .i64 b, .int .i64 s, .bool k, .slice A m c] 58)) = w1 at *
 have B2 := B1.alloc B1.size (.cells #[.int .i64 i', .int .i64 b', .int .i64 s', .bool k', .slice A' m' c'] 58)
 have P2 := Ptx.new w1 i' b' s' k' A' m' c' 58
 have P12 := P1.to ((Below.refl _ _).alloc (Nat.le_refl _) (.cells #[.int .i64 i', .int .i64 b', .int .i64 s', .bool k', .slice A' m' c'] 58))
 rw [S1] at P2
 have P := qH P12
 have Q := qH P2
 have R := qH (h.to B2)
 have R' := qH (h'.to B2)
 have B := qH B2
 have HW1 := qH hw1
 clear B1 P1 S1 B2 P2 P12 h h' hw1
 go_enter Tryz.func123, Tryz.ntmps123
 go_upto_region 1 with (fail)
 rw [HW1.out]
 generalize (w1.alloc (.cells #[.int .i64 i', .int .i64 b', .int .i64 s', .bool k', .slice A' m' c'] 58)) = w2 at *
 clear HW1
 obtain ⟨x0, x1, x2, x3, x4, _⟩ := P.out
 obtain ⟨y0, y1, y2, y3, y4, _⟩ := Q.out
 by_cases hi : i = i'
 rotate_left 1
 ·have HF : Hid (false = samePt ⟨i, b, s, k, im⟩ ⟨i', b', s', k', im'⟩) := by show _ = _; unfold samePt; rw [decide_eq_false (fun e => hi (by injection e))]
  go_wp2_with fail
  go_ret
  exact ⟨ret_bool HF.out, B.out⟩
 subst hi
 cases hr : eqR (b, s) (b', s')
 ·have HF : Hid (false = samePt ⟨i, b, s, k, im⟩ ⟨i, b', s', k', im'⟩) := by
   show _ = _
   unfold samePt
   rw [decide_eq_false (fun e => ?_)]
   injection e with _ e1 e2 _ _
   have := eqR_iff.2 (show (b, s) = (b', s') by rw [e1, e2])
   rw [hr] at this; cases this
  go_wp2_with fail
  go_ret
  exact ⟨ret_bool HF.out, B.out⟩
 have HR := qH (eqR_iff.1 hr)
 by_cases hk : k = k'
 rotate_left 1
 ·have HF : Hid (false = samePt ⟨i, b, s, k, im⟩ ⟨i, b', s', k', im'⟩) := by show _ = _; unfold samePt; rw [decide_eq_false (fun e => hk (by injection e))]
  have hkb : (k == k') = false := by simpa using hk
  clear hk
  go_wp2_with fail
  go_ret
  exact ⟨ret_bool HF.out, B.out⟩
 subst hk
 have HF : Hid (decide (im = im') = samePt ⟨i, b, s, k, im⟩ ⟨i, b', s', k, im'⟩) := by
  (show _ = _)
  have := HR.out
  simp only [Prod.mk.injEq] at this
  unfold samePt
  rw [this.1, this.2]
  by_cases he : im = im' <;> simp [he]
 go_wp2_with fail
 refine (bEqual A A' m m' c c' w2.heap.size im im' w2 R.out R'.out).mono ?_
 rintro e w3 ⟨rfl, rfl⟩
 obtain ⟨z, hz⟩ : ∃ z, samePt ⟨i, b, s, k, im⟩ ⟨i, b', s', k, im'⟩ = z := ⟨_, rfl⟩
 rw [HF.out, hz]
 replace hz := qH hz
 clear HF
 go_wp2_with fail
 go_ret
 exact ⟨ret_bool hz.out.symm, B.out⟩
theorem wEqualP (A A' : Option Addr) (n n' c c' : Nat) (l l' : List Pt) (w : World) (hS : RdP w w.heap.size A n l) (hS' : RdP w w.heap.size A' n' l') (hn : n ≤ 1000) :
  Calls Tryz.prog 122 #[.slice A n c, .slice A' n' c', .func (.func 123) #[] #[]] w fun e w' => e = .returned (.bool (decide (l = l'))) ∧ Below w.heap.size w w' := by
 have S := qH hS
 have S' := qH hS'
 have HN := qH hn
 clear hS hS' hn
 by_cases hne : n = n'
 ·subst hne
  have heI : ((n : Int) != (n : Int)) = false := by simp
  go_enter Tryz.func122, Tryz.ntmps122
  go_wp2_with fail
  go_loopw [7, 8, 9, 17] (fun _ _ _ s17 wr => ∃ k : Nat, k ≤ n ∧ s17 = .int .i64 (k : Int) ∧ l.take k = l'.take k ∧ Below w.heap.size w wr) (fun _ _ _ s17 _ => n - (intOf s17).toNat)
  case atStart => exact ⟨0, Nat.zero_le _, rfl, by simp, Below.refl _ _⟩
  case round =>
   obtain ⟨k, hk, rfl, ht, hb⟩ := hrel
   have HT := qH ht
   have B := qH hb
   clear ht hb
   by_cases hlt : k < n
   ·have hltI : (k : Int) < (n : Int) := by omega
    have HLT : Hid (k < n) := hlt
    have hwk : IntKind.i64.wrap ((k : Int) + 1) = (k : Int) + 1 := by have := HN.out; rw [IntKind.wrap_i64]; omega
    obtain ⟨b1, o1, A1, m1, c1, rfl, p0, p1, p2, p3, p4, hr1, _⟩ := (S.out.to B.out).at_ hlt
    obtain ⟨b2, o2, A2, m2, c2, rfl, q0, q1, q2, q3, q4, hr2, _⟩ := (S'.out.to B.out).at_ hlt
    have hk1 : k < l.length := by rw [S.out.1]; exact hlt
    have hk2 : k < l'.length := by rw [S'.out.1]; exact hlt
    have HK1 := qH hk1
    have HK2 := qH hk2
    obtain ⟨p, hp⟩ : ∃ p, ptAt l k = p := ⟨_, rfl⟩
    obtain ⟨q, hq⟩ : ∃ q, ptAt l' k = q := ⟨_, rfl⟩
    rw [hp] at p0 p1 p2 p3 hr1
    rw [hq] at q0 q1 q2 q3 hr2
    have HP : Hid (ptAt l k = p) := hp
    have HQ : Hid (ptAt l' k = q) := hq
    have BA := (Below.refl wr.heap.size wr).alloc (Nat.le_refl _) (.cells #[.int .i64 p.id, .int .i64 p.base, .int .i64 p.size, .bool p.keep, .slice A1 m1 c1] 58)
    obtain ⟨wa, hwa⟩ : ∃ wa, wr.alloc (.cells #[.int .i64 p.id, .int .i64 p.base, .int .i64 p.size, .bool p.keep, .slice A1 m1 c1] 58) = wa := ⟨_, rfl⟩
    rw [hwa] at BA
    have r0 := Below.kept BA q0
    have r1 := Below.kept BA q1
    have r2 := Below.kept BA q2
    have r3 := Below.kept BA q3
    have r4 := Below.kept BA q4
    have R1 := qH (hr1.to BA)
    have R2 := qH (hr2.to BA)
    have BA' := qH (B.out.trans (BA.mono B.out.size))
    have X1 : Hid (Bx wa wr.heap.size 58 [.int .i64 p.id, .int .i64 p.base, .int .i64 p.size, .bool p.keep, .slice A1 m1 c1]) := by (show Bx _ _ _ _); rw [← hwa]; exact Bx.new wr _ [.int .i64 p.id, .int .i64 p.base, .int .i64 p.size, .bool p.keep, .slice A1 m1 c1]
    replace hwa := qH hwa
    clear hp hq hk hlt hr1 hr2 BA q0 q1 q2 q3 q4 hk1 hk2
    go_upto_region 6 with (fail)
    rw [hwa.out]
    clear p0 p1 p2 p3 p4
    go_upto_region 7 with (fail)
    have BB := (Below.refl wa.heap.size wa).alloc (Nat.le_refl _) (.cells #[.int .i64 q.id, .int .i64 q.base, .int .i64 q.size, .bool q.keep, .slice A2 m2 c2] 58)
    have X2 : Bx (wa.alloc (.cells #[.int .i64 q.id, .int .i64 q.base, .int .i64 q.size, .bool q.keep, .slice A2 m2 c2] 58)) wa.heap.size 58 [.int .i64 q.id, .int .i64 q.base, .int .i64 q.size, .bool q.keep, .slice A2 m2 c2] := Bx.new wa _ [.int .i64 q.id, .int .i64 q.base, .int .i64 q.size, .bool q.keep, .slice A2 m2 c2]
    generalize wa.alloc (.cells #[.int .i64 q.id, .int .i64 q.base, .int .i64 q.size, .bool q.keep, .slice A2 m2 c2] 58) = wb at *
    clear r0 r1 r2 r3 r4
    replace X1 := X1.out.to BB
    have s0 := X1.at (j := 0) rfl
    have s1 := X1.at (j := 1) rfl
    have s2 := X1.at (j := 2) rfl
    have s3 := X1.at (j := 3) rfl
    have s4 := X1.at (j := 4) rfl
    have t0 := X2.at (j := 0) rfl
    have t1 := X2.at (j := 1) rfl
    have t2 := X2.at (j := 2) rfl
    have t3 := X2.at (j := 3) rfl
    have t4 := X2.at (j := 4) rfl
    replace R1 := qH (R1.out.to BB)
    replace R2 := qH (R2.out.to BB)
    replace BA' := qH (BA'.out.trans (BB.mono BA'.out.size))
    clear BB X1 X2
    go_wp2_with fail
    refine (wSamePt p.id p.base p.size q.id q.base q.size p.keep q.keep A1 A2 m1 c1 m2 c2 p.img q.img wb R1.out R2.out).mono ?_
    rintro e w9 ⟨rfl, hb9⟩
    have B9 := qH (BA'.out.trans (hb9.mono BA'.out.size))
    clear hb9 s0 s1 s2 s3 s4 t0 t1 t2 t3 t4
    obtain ⟨z, hz⟩ : ∃ z, samePt ⟨p.id, p.base, p.size, p.keep, p.img⟩ ⟨q.id, q.base, q.size, q.keep, q.img⟩ = z := ⟨_, rfl⟩
    rw [hz]
    have HZ : Hid (samePt p q = z) := hz
    clear hz
    cases z
    ·have HF : Hid (false = decide (l = l')) := by
      (show _ = _)
      refine (decide_eq_false (fun e => ?_)).symm
      have h1 := HZ.out
      subst e
      rw [samePt_iff.2 (HP.out.symm.trans HQ.out)] at h1
      cases h1
     go_wp2_with fail
     go_ret
     exact ⟨ret_bool HF.out, B9.out⟩
    ·have HT2 := qH (takeS HK1.out HK2.out HT.out (by rw [← ptAt_lt HK1.out, ← ptAt_lt HK2.out, HP.out, HQ.out]; exact samePt_iff.1 HZ.out))
     go_wp2_with fail
     go_roundw
     case rel => exact ⟨k + 1, HLT.out, by go_num, HT2.out, B9.out⟩
     case measure => have := HLT.out; simp [intOf]; omega
   ·obtain rfl : k = n := by omega
    have hltI : ¬ (k : Int) < (k : Int) := by omega
    have HE : Hid (true = decide (l = l')) := by
     (show _ = _)
     have := HT.out
     rw [List.take_of_length_le (by rw [S.out.1]; exact Nat.le_refl _), List.take_of_length_le (by rw [S'.out.1]; exact Nat.le_refl _)] at this
     rw [decide_eq_true this]
    clear hk hlt
    go_wp2_with fail
    go_ret
    exact ⟨ret_bool HE.out, B.out⟩
 ·have heI : ((n : Int) != (n' : Int)) = true := by simp; omega
  have HE : Hid (false = decide (l = l')) := by
   (show _ = _)
   rw [decide_eq_false (fun e => hne (by rw [← S.out.1, ← S'.out.1, e]))]
  clear hne
  go_enter Tryz.func122, Tryz.ntmps122
  go_wp2_with fail
  go_ret
  exact ⟨ret_bool HE.out, Below.refl _ _⟩
end
section
open Go.RowKit
theorem sameCf_parts (c c' : Cf) : sameCf c c' = (decide (c.ws = c'.ws) && decide (c.ps = c'.ps) && decide (c.cs = c'.cs)) := by
 obtain ⟨a, b, d⟩ := c
 obtain ⟨a', b', d'⟩ := c'
 unfold sameCf
 rw [Bool.eq_iff_iff]
 simp [and_assoc]
theorem wSameCf (v v' : CV) (c c' : Cf) (w : World) (h : RdCf w w.heap.size v c) (h' : RdCf w w.heap.size v' c') (hw : v.nw ≤ 1000) (hp : v.np ≤ 1000) (hc : v.nc ≤ 1000) :
  Calls Tryz.prog 57 #[.agg #[.slice v.aw v.nw v.kw, .slice v.ap v.np v.kp, .slice v.ac v.nc v.kc], .agg #[.slice v'.aw v'.nw v'.kw, .slice v'.ap v'.np v'.kp, .slice v'.ac v'.nc v'.kc]] w fun x w' =>
   x = .returned (.bool (sameCf c c')) ∧ Below w.heap.size w w' := by
 obtain ⟨w2, hw2, hx, hy, hb⟩ := two_cfgs w v v'
 have R := qH (h.to hb)
 have R' := qH (h'.to hb)
 have X := qH hx
 have Y := qH hy
 have B := qH hb
 have HW2 := qH hw2
 have HNW := qH hw
 have HNP := qH hp
 have HNC := qH hc
 have SC := qH (sameCf_parts c c')
 clear h h' hw hp hc hw2 hx hy hb
 go_enter Tryz.func57, Tryz.ntmps57
 go_upto_region 1 with (fail)
 rw [HW2.out]
 clear HW2
 obtain ⟨x0, x1, x2, _⟩ := X.out
 obtain ⟨y0, y1, y2, _⟩ := Y.out
 have eg : ∀ args w, (callFunc 123 args).run Tryz.prog w = .ok (.enter 123 args) w := enter_of Tryz.func123 (by kernel_rfl) rfl
 go_wp2_with fail
 refine (wEqualW v.aw v'.aw v.nw v'.nw v.kw v'.kw c.ws c'.ws w2 R.out.ww R'.out.ww HNW.out).mono ?_
 rintro e w3 ⟨rfl, q, rfl⟩
 have B1 : Hid (Below w.heap.size w (w2.drewN q)) := below_drewN B.out q
 have R1 : Hid (RdP (w2.drewN q) (w2.drewN q).heap.size v.ap v.np c.ps) := R.out.pp
 have R1' : Hid (RdP (w2.drewN q) (w2.drewN q).heap.size v'.ap v'.np c'.ps) := R'.out.pp
 have R2 : Hid (RdC (w2.drewN q) (w2.drewN q).heap.size v.ac v.nc c.cs) := R.out.cc
 have R2' : Hid (RdC (w2.drewN q) (w2.drewN q).heap.size v'.ac v'.nc c'.cs) := R'.out.cc
 have X1 : Hid (Cfx (w2.drewN q) w.heap.size v) := X.out.to (below_drewN (Below.refl _ w2) q)
 have Y1 : Hid (Cfx (w2.drewN q) (w.heap.size + 1) v') := Y.out.to (below_drewN (Below.refl _ w2) q)
 generalize w2.drewN q = wd at *
 clear x0 x1 x2 y0 y1 y2 R R' X Y B
 obtain ⟨x0, x1, x2, _⟩ := X1.out
 obtain ⟨y0, y1, y2, _⟩ := Y1.out
 by_cases e1 : c.ws = c'.ws
 rotate_left 1
 ·rw [decide_eq_false e1]
  have HF : Hid (false = sameCf c c') := by (show _ = _); rw [SC.out, decide_eq_false e1]; rfl
  clear e1
  go_wp2_with fail
  go_ret
  exact ⟨ret_bool HF.out, B1.out⟩
 rw [decide_eq_true e1]
 replace SC : Hid (sameCf c c' = (decide (c.ps = c'.ps) && decide (c.cs = c'.cs))) := by (show _ = _); rw [SC.out, decide_eq_true e1]; rfl
 clear e1
 go_wp2_with fail
 refine (wEqualP v.ap v'.ap v.np v'.np v.kp v'.kp c.ps c'.ps wd R1.out R1'.out HNP.out).mono ?_
 rintro e w3 ⟨rfl, hb3⟩
 have B3 := qH (B1.out.trans (hb3.mono B1.out.size))
 replace R2 := qH (R2.out.to hb3)
 replace R2' := qH (R2'.out.to hb3)
 replace X1 := qH (X1.out.to hb3)
 replace Y1 := qH (Y1.out.to hb3)
 clear hb3 x0 x1 x2 y0 y1 y2 R1 R1' B1
 obtain ⟨x0, x1, x2, _⟩ := X1.out
 obtain ⟨y0, y1, y2, _⟩ := Y1.out
 by_cases e1 : c.ps = c'.ps
 rotate_left 1
 ·rw [decide_eq_false e1]
  have HF : Hid (false = sameCf c c') := by (show _ = _); rw [SC.out, decide_eq_false e1]; rfl
  clear e1
  go_wp2_with fail
  go_ret
  exact ⟨ret_bool HF.out, B3.out⟩
 rw [decide_eq_true e1]
 replace SC : Hid (decide (c.cs = c'.cs) = sameCf c c') := by (show _ = _); rw [SC.out, decide_eq_true e1]; rfl
 clear e1
 go_wp2_with fail
 refine (wEqualC v.ac v'.ac v.nc v'.nc v.kc v'.kc c.cs c'.cs w3 R2.out R2'.out HNC.out).mono ?_
 rintro e w4 ⟨rfl, q, rfl⟩
 have B4 : Hid (Below w.heap.size w (w3.drewN q)) := below_drewN B3.out q
 generalize w3.drewN q = w4 at *
 clear x0 x1 x2 y0 y1 y2
 go_wp2_with fail
 go_ret
 exact ⟨ret_bool SC.out, B4.out⟩
end
section
open Go.RowKit
theorem wSameM (v v' : CV) (a b : Mf) (w : World) (ha : RdM w w.heap.size v a) (hb : RdM w w.heap.size v' b) (da : Bd v) (db : Bd v') :
  Calls Tryz.prog 23 #[.agg (mfL a v).toArray, .agg (mfL b v').toArray] w fun x w' => x = .returned (.bool (sameM a b)) ∧ Below w.heap.size w w' := by
 obtain ⟨w2, hw2, hb2, hx, hy, hr, hs⟩ := mf_two w ha hb
 have M := qH hx
 have Q := qH hy
 have RA := qH hr
 have RB := qH hs
 have B := qH hb2
 have HW := qH hw2
 have DA := qH da
 have DB := qH db
 have TA := qH ha.t
 have TB := qH hb.t
 have HV := qH (sameM_eq a b)
 have LA1 := qH (tag_sizeL ha.t.prev)
 have LA2 := qH (tag_sizeL ha.t.tag)
 have LB1 := qH (tag_sizeL hb.t.prev)
 have LB2 := qH (tag_sizeL hb.t.tag)
 clear ha hb da db hw2 hb2 hx hy hr hs
 go_enter Tryz.func23, Tryz.ntmps23
 go_upto_region 1 with (fail)
 rw [show (w.alloc (.cells (mfL a v).toArray 30)).alloc (.cells (mfL b v').toArray 30) = w2 from HW.out]
 clear HW
 obtain ⟨x0, x1, x2, x3, x4⟩ := M.out.cells
 obtain ⟨y0, y1, y2, y3, y4⟩ := Q.out.cells
 have P1 := qH M.out.prev
 have P2 := qH Q.out.prev
 have P3 := qH M.out.tag
 have P4 := qH Q.out.tag
 have hu := Tryz.underlying23
 have heq := tag_eql a.prev b.prev TA.out.prev TB.out.prev
 have heq2 := tag_eql a.tag b.tag TA.out.tag TB.out.tag
 have hgd := tag_gd
 by_cases c1 : a.ver = b.ver
 rotate_left 1
 ·have HF : Hid (false = sameM a b) := by (show _ = _); rw [HV.out, decide_eq_false c1]; rfl
  have e1 : (a.ver == b.ver) = false := by simpa using c1
  clear HV c1
  generalize a.ver = va at *
  generalize b.ver = vb at *
  go_wp2_with (first | (refine wpList_load_midG (by rfl) 23 _ rfl w.heap.size 1 rfl (a.prev.map bval) _ P1.out hu rfl LA1.out ?_) | (refine wpList_load_midG (by rfl) 23 _ rfl (w.heap.size + 1) 1 rfl (b.prev.map bval) _ P2.out hu rfl LB1.out ?_) | (refine wpList_load_midG (by rfl) 23 _ rfl w.heap.size 37 rfl (a.tag.map bval) _ P3.out hu rfl LA2.out ?_) | (refine wpList_load_midG (by rfl) 23 _ rfl (w.heap.size + 1) 37 rfl (b.tag.map bval) _ P4.out hu rfl LB2.out ?_))
  go_ret
  exact ⟨ret_bool HF.out, B.out⟩
 have e1 : (a.ver == b.ver) = true := by simpa using c1
 rw [decide_eq_true c1, Bool.true_and] at HV
 clear c1
 generalize a.ver = va at *
 generalize b.ver = vb at *
 by_cases c2 : a.prev = b.prev
 rotate_left 1
 ·have HF : Hid (false = sameM a b) := by (show _ = _); rw [HV.out, decide_eq_false c2]; rfl
  rw [decide_eq_false c2] at heq
  clear HV c2
  go_wp2_with (first | (refine wpList_load_midG (by rfl) 23 _ rfl w.heap.size 1 rfl (a.prev.map bval) _ P1.out hu rfl LA1.out ?_) | (refine wpList_load_midG (by rfl) 23 _ rfl (w.heap.size + 1) 1 rfl (b.prev.map bval) _ P2.out hu rfl LB1.out ?_) | (refine wpList_load_midG (by rfl) 23 _ rfl w.heap.size 37 rfl (a.tag.map bval) _ P3.out hu rfl LA2.out ?_) | (refine wpList_load_midG (by rfl) 23 _ rfl (w.heap.size + 1) 37 rfl (b.tag.map bval) _ P4.out hu rfl LB2.out ?_))
  go_ret
  exact ⟨ret_bool HF.out, B.out⟩
 rw [decide_eq_true c2] at heq
 rw [decide_eq_true c2, Bool.true_and] at HV
 clear c2
 by_cases c3 : a.trial = b.trial
 rotate_left 1
 ·have HF : Hid (false = sameM a b) := by (show _ = _); rw [HV.out, decide_eq_false c3]; rfl
  have e3 : (a.trial == b.trial) = false := by simpa using c3
  clear HV c3
  generalize a.trial = ta at *
  generalize b.trial = tb at *
  go_wp2_with (first | (refine wpList_load_midG (by rfl) 23 _ rfl w.heap.size 1 rfl (a.prev.map bval) _ P1.out hu rfl LA1.out ?_) | (refine wpList_load_midG (by rfl) 23 _ rfl (w.heap.size + 1) 1 rfl (b.prev.map bval) _ P2.out hu rfl LB1.out ?_) | (refine wpList_load_midG (by rfl) 23 _ rfl w.heap.size 37 rfl (a.tag.map bval) _ P3.out hu rfl LA2.out ?_) | (refine wpList_load_midG (by rfl) 23 _ rfl (w.heap.size + 1) 37 rfl (b.tag.map bval) _ P4.out hu rfl LB2.out ?_))
  go_ret
  exact ⟨ret_bool HF.out, B.out⟩
 have e3 : (a.trial == b.trial) = true := by simpa using c3
 rw [decide_eq_true c3, Bool.true_and] at HV
 clear c3
 generalize a.trial = ta at *
 generalize b.trial = tb at *
 by_cases c4 : a.tag = b.tag
 rotate_left 1
 ·have HF : Hid (false = sameM a b) := by (show _ = _); rw [HV.out, decide_eq_false c4]; rfl
  rw [decide_eq_false c4] at heq2
  clear HV c4
  go_wp2_with (first | (refine wpList_load_midG (by rfl) 23 _ rfl w.heap.size 1 rfl (a.prev.map bval) _ P1.out hu rfl LA1.out ?_) | (refine wpList_load_midG (by rfl) 23 _ rfl (w.heap.size + 1) 1 rfl (b.prev.map bval) _ P2.out hu rfl LB1.out ?_) | (refine wpList_load_midG (by rfl) 23 _ rfl w.heap.size 37 rfl (a.tag.map bval) _ P3.out hu rfl LA2.out ?_) | (refine wpList_load_midG (by rfl) 23 _ rfl (w.heap.size + 1) 37 rfl (b.tag.map bval) _ P4.out hu rfl LB2.out ?_))
  go_ret
  exact ⟨ret_bool HF.out, B.out⟩
 rw [decide_eq_true c4] at heq2
 rw [decide_eq_true c4, Bool.true_and] at HV
 clear c4
 go_wp2_with (first | (refine wpList_load_midG (by rfl) 23 _ rfl w.heap.size 1 rfl (a.prev.map bval) _ P1.out hu rfl LA1.out ?_) | (refine wpList_load_midG (by rfl) 23 _ rfl (w.heap.size + 1) 1 rfl (b.prev.map bval) _ P2.out hu rfl LB1.out ?_) | (refine wpList_load_midG (by rfl) 23 _ rfl w.heap.size 37 rfl (a.tag.map bval) _ P3.out hu rfl LA2.out ?_) | (refine wpList_load_midG (by rfl) 23 _ rfl (w.heap.size + 1) 37 rfl (b.tag.map bval) _ P4.out hu rfl LB2.out ?_))
 refine (wSameCf v v' a.cf b.cf w2 RA.out.cf RB.out.cf DA.out.1 DA.out.2.1 DA.out.2.2).mono ?_
 rintro e w3 ⟨rfl, hb⟩
 replace B := qH (B.out.trans (hb.mono B.out.size))
 rw [← HV.out]
 clear hb
 obtain ⟨d, hd⟩ : ∃ d, sameM a b = d := ⟨_, rfl⟩
 rw [hd]
 have HF := qH hd.symm
 clear hd
 clear x0 x1 x2 x3 x4 y0 y1 y2 y3 y4 e1 e3 heq heq2 hgd
 go_wp2_with fail
 go_ret
 exact ⟨ret_bool HF.out, B.out⟩
end
end Go.Proofs.YtlmdidblgeeplaaGreatDoor