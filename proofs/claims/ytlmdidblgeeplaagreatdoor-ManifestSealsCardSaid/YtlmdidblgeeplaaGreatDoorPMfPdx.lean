/- Several texts in one (a claim has 60 files at most): MfPa, MfPf, CfPa, MfPd. -/
import Derived.Test.YtlmdidblgeeplaaGreatDoorTz
import Derived.Test.YtlmdidblgeeplaaGreatDoorPMfTy
import Derived.Test.YtlmdidblgeeplaaGreatDoorPCfLx
import Derived.Test.YtlmdidblgeeplaaGreatDoorPWireIx
import Derived.Test.YtlmdidblgeeplaaGreatDoorPCfNy
import Derived.Test.YtlmdidblgeeplaaGreatDoorPVaPbx
namespace Go.Proofs.YtlmdidblgeeplaaGreatDoor
set_option maxRecDepth 1000000
set_option maxHeartbeats 8000000
set_option linter.unusedVariables false
set_option linter.unusedSimpArgs false
section
open Go.RowKit
noncomputable def prEM (m : Mf) : Int := if canM m = true then 0 else 2
def prBM (m : Mf) : List UInt8 := if canM m = true then bytesM m else []
def unE (b : Bool) (z : Int) : Int := if b = true then 0 else z
theorem wUnless (b : Bool) (z : Int) (w : World) :
  Calls Tryz.prog 61 #[.bool b, .int .i64 z] w fun e w' => e = .returned (.int .i64 (unE b z)) ∧ w = w' := by
 cases b
 ·go_enter Tryz.func61, Tryz.ntmps61
  go_wp2_with fail
  go_ret
  exact ⟨rfl, rfl⟩
 ·go_enter Tryz.func61, Tryz.ntmps61
  go_wp2_with fail
  go_ret
  exact ⟨rfl, rfl⟩
def inMost (n most : Int) : Bool := decide (1 ≤ n) && decide (n ≤ most)
theorem wInW (n most : Int) (w : World) :
  Calls Tryz.prog 31 #[.int .i64 n, .int .i64 most] w fun e w' => e = .returned (.bool (inMost n most)) ∧ w = w' := by
 have HV : Hid (inMost n most = (decide (1 ≤ n) && decide (n ≤ most))) := rfl
 by_cases h : 1 ≤ n
 ·have HF : Hid (decide (n ≤ most) = inMost n most) := by (show _ = _); rw [HV.out, decide_eq_true h]; rfl
  clear HV
  go_enter Tryz.func31, Tryz.ntmps31
  go_wp2_with fail
  go_ret
  exact ⟨ret_bool HF.out, rfl⟩
 ·have HF : Hid (false = inMost n most) := by (show _ = _); rw [HV.out, decide_eq_false h]; rfl
  clear HV
  go_enter Tryz.func31, Tryz.ntmps31
  go_wp2_with fail
  go_ret
  exact ⟨ret_bool HF.out, rfl⟩
theorem canM_inW (m : Mf) : canM m = (inMost m.ver 1099511627776 && (inMost m.trial 8 && canC m.cf)) := by
 rw [Bool.eq_iff_iff, canM_iff]
 unfold inMost
 simp only [Bool.and_eq_true, decide_eq_true_eq]
 constructor
 ·rintro ⟨h1, h2, h3, h4, h5⟩
  exact ⟨⟨by omega, h2⟩, ⟨by omega, by omega⟩, h5⟩
 ·rintro ⟨⟨h1, h2⟩, ⟨h3, h4⟩, h5⟩
  exact ⟨by omega, h2, by omega, by omega, h5⟩
theorem wCanM (v : CV) (m : Mf) (w : World) (h : RdM w w.heap.size v m) (d : Bd v) :
  Calls Tryz.prog 11 #[.agg (mfL m v).toArray] w fun x w' => x = .returned (.bool (canM m)) ∧ Below w.heap.size w w' := by
 have B := qH ((Below.refl w.heap.size w).alloc (Nat.le_refl _) (.cells (mfL m v).toArray 30))
 have M := qH (MB.new w h.t v)
 have R := qH (h.cf.to B.out)
 have D := qH d
 have HV := qH (canM_inW m)
 clear h d
 go_enter Tryz.func11, Tryz.ntmps11
 go_upto_region 1 with (fail)
 generalize w.alloc (.cells (mfL m v).toArray 30) = w1 at *
 obtain ⟨x0, x1, x2, x3, x4⟩ := M.out.cells
 generalize m.ver = ver at *
 generalize m.trial = tr at *
 go_wp2_with fail
 refine (wInW ver 1099511627776 w1).mono ?_
 rintro e w2 ⟨rfl, rfl⟩
 generalize inMost ver 1099511627776 = c1 at *
 cases c1
 ·have HF : Hid (false = canM m) := by (show _ = _); rw [HV.out]; rfl
  clear HV
  go_wp2_with fail
  go_ret
  exact ⟨ret_bool HF.out, B.out⟩
 rw [Bool.true_and] at HV
 go_wp2_with fail
 refine (wInW tr 8 w1).mono ?_
 rintro e w2 ⟨rfl, rfl⟩
 generalize inMost tr 8 = c2 at *
 cases c2
 ·have HF : Hid (false = canM m) := by (show _ = _); rw [HV.out]; rfl
  clear HV
  go_wp2_with fail
  go_ret
  exact ⟨ret_bool HF.out, B.out⟩
 rw [Bool.true_and] at HV
 go_wp2_with fail
 refine (pCanOf v m.cf w1 R.out D.out.2.1).mono ?_
 rintro e w2 ⟨rfl, hb⟩
 replace B := qH (B.out.trans (hb.mono B.out.size))
 rw [← HV.out]
 clear hb x0 x1 x2 x3 x4 HV
 obtain ⟨d, hd⟩ : ∃ d, canM m = d := ⟨_, rfl⟩
 rw [hd]
 have HF := qH hd.symm
 clear hd
 go_wp2_with fail
 go_ret
 exact ⟨ret_bool HF.out, B.out⟩
structure WD (w0 w : World) (g : Nat) (F : Nat → Prop) (form : List UInt8) : Prop where
 wr : WrAt w g F form false
 fb : ∀ k, F k → w0.heap.size ≤ k
 bel : Below w0.heap.size w0 w
theorem WD.ends {w0 w w' : World} {g : Nat} {F : Nat → Prop} {form b : List UInt8} {e : Ending} (h : WD w0 w g F form) (hl : form.length + b.length ≤ 65536) (ht : WrTo w g F form b false e w') :
  e = .returned (.pointer (some ⟨g, 0, none⟩)) ∧ ∃ F', WD w0 w' g F' (form ++ b) := by
 obtain ⟨he, F', h1, h2, h3⟩ := ht
 have e1 : wForm form b false = form ++ b := by unfold wForm; rw [if_pos ⟨rfl, hl⟩]
 have e2 : wBad form b false = false := by unfold wBad; rw [if_pos hl]
 rw [e1, e2] at h1
 refine ⟨he, F', h1, fun k hk => ?_, h3.below h.bel h.bel.size h.fb⟩
 rcases h2 k hk with h4 | h4
 ·exact h.fb k h4
 ·exact Nat.le_trans h.bel.size h4
end
section
open Go.RowKit
theorem wSigned (v : CV) (m : Mf) (w : World) (h : RdM w w.heap.size v m) (d : Bd v) (hc : canC m.cf = true) :
  Calls Tryz.prog 27 #[.agg (mfL m v).toArray] w fun e w' => ∃ g F, e = .returned (.pointer (some ⟨g, 0, none⟩)) ∧ WrAt w' g F (headM m) false ∧ (∀ k, F k → w.heap.size ≤ k) ∧ Below w.heap.size w w' := by
 have B := qH ((Below.refl w.heap.size w).alloc (Nat.le_refl _) (.cells (mfL m v).toArray 30))
 have M := qH (MB.new w h.t v)
 have R := qH (h.cf.to B.out)
 have D := qH d
 have HC := qH (pr_yes hc)
 have HL := qH (formC_len hc)
 have HT := qH h.t.prev
 have HV : Hid (headM m = enc (u64N m.ver) 8 ++ m.prev ++ enc (u64N m.trial) 8 ++ (enc (formC m.cf).length 4 ++ formC m.cf)) := rfl
 have S32 := qH (tag_sizeL h.t.prev)
 clear h d hc
 go_enter Tryz.func27, Tryz.ntmps27
 go_upto_region 1 with (fail)
 generalize w.alloc (.cells (mfL m v).toArray 30) = w1 at *
 obtain ⟨x0, x1, x2, x3, x4⟩ := M.out.cells
 go_wp2_with fail
 refine (wPrint v m.cf w1 R.out D.out.2.1).mono ?_
 rw [HC.out.1, HC.out.2]
 rintro e w2 ⟨A2, n2, c2, rfl, ho, h1, h2, hb⟩
 have RF := qH ho.1
 have N2 : Hid (n2 ≤ 1000000) := by (show _ ≤ _); have := ho.1.1; have := HL.out; omega
 have H1 := qH h1
 have H2 := qH h2
 replace M := qH (M.out.to hb)
 replace B := qH (B.out.trans (hb.mono B.out.size))
 clear ho h1 h2 hb x0 x1 x2 x3 x4 R D
 go_upto_region 2 with (fail)
 obtain ⟨wd, hwd⟩ : ∃ x, w2.drew = x := ⟨_, rfl⟩
 have BS : Hid (Below w2.heap.size w2 wd) := by (show Below _ _ _); rw [← hwd]; exact (Below.refl _ _).drew
 have hu := Tryz.underlying23
 have E1 : Hid (([] : List UInt8).length + (enc (u64N m.ver) 8).length ≤ 65536) := by (show _ ≤ _); rw [enc_len]; decide
 have E2 : Hid (([] ++ enc (u64N m.ver) 8 : List UInt8).length + m.prev.length ≤ 65536) := by (show _ ≤ _); rw [HT.out, List.nil_append, enc_len]; decide
 have E3 : Hid (([] ++ enc (u64N m.ver) 8 ++ m.prev : List UInt8).length + (enc (u64N m.trial) 8).length ≤ 65536) := by (show _ ≤ _); rw [List.length_append, HT.out, List.nil_append, enc_len, enc_len]; decide
 have E4 : Hid (([] ++ enc (u64N m.ver) 8 ++ m.prev ++ enc (u64N m.trial) 8 : List UInt8).length + (enc (formC m.cf).length 4 ++ formC m.cf).length ≤ 65536) := by (show _ ≤ _); simp only [List.length_append, HT.out, List.nil_append, enc_len]; have := HL.out; omega
 refine wp_region_held_drew (S := (fun w' => Below w2.heap.size w2 w')) (by kernel_rfl) ((Below.refl _ _).drew) (fun hHeld => ?_)
 rw [hwd] at hHeld ⊢
 clear hwd hHeld
 have hHeld := BS.out
 refine tk 1 ?_
 simp only [pR]
 refine tw 2 rfl (by intro w hSw; (try dsimp only at hSw); have t := (M.out.to hSw).cells; obtain ⟨t, -⟩ := t; go_simp; (try with_reducible rfl)) ?_
 simp only [pR]
 refine tk 4 ?_
 simp only [pR]
 refine tl 5 (.agg (List.toArray (m.prev.map bval))) rfl (yieldsIf_load_mid (by rfl) 23 _ rfl w.heap.size 1 rfl (m.prev.map bval) _ ((fun w' h => (M.out.to h).prev)) hu rfl S32.out) ?_
 simp only [pR]
 refine tk 7 ?_
 simp only [pR]
 refine tw 8 rfl (by intro w hSw; (try dsimp only at hSw); have t := (M.out.to hSw).cells; obtain ⟨-, t, -⟩ := t; go_simp; (try with_reducible rfl)) ?_
 simp only [pR]
 refine tk 10 ?_
 simp only [pR]
 clear hHeld
 refine rd1 0 (fun K hK => ?_)
 go_simp
 refine (wNew wd).mono ?_
 rintro e w3 ⟨g, F, rfl, hwr, hF, hb⟩
 have W3 : Hid (WD w2 w3 g F []) := ⟨hwr, fun k hk => Nat.le_trans BS.out.size (hF k hk), BS.out.trans (hb.mono BS.out.size)⟩
 clear hwr hF hb
 go_wp2_with fail
 refine hK.out _ _ (W3.out.bel) (fun hHeld => ?_)
 clear hK K
 clear hHeld
 refine rd1 3 (fun K hK => ?_)
 go_simp
 refine (wInt g F [] false m.ver w3 W3.out.wr).mono ?_
 rintro e w4 ht
 obtain ⟨rfl, F4, hw⟩ := W3.out.ends E1.out ht
 have W4 := qH hw
 clear ht hw
 go_wp2_with fail
 refine hK.out _ _ (W4.out.bel) (fun hHeld => ?_)
 clear hK K
 clear hHeld
 refine rd1 6 (fun K hK => ?_)
 go_simp
 refine (wTag g F4 ([] ++ enc (u64N m.ver) 8) false m.prev w4 W4.out.wr HT.out).mono ?_
 rintro e w5 ht
 obtain ⟨rfl, F5, hw⟩ := W4.out.ends E2.out ht
 have W5 := qH hw
 clear ht hw
 go_wp2_with fail
 refine hK.out _ _ (W5.out.bel) (fun hHeld => ?_)
 clear hK K
 clear hHeld
 refine rd1 9 (fun K hK => ?_)
 go_simp
 refine (wInt g F5 ([] ++ enc (u64N m.ver) 8 ++ m.prev) false m.trial w5 W5.out.wr).mono ?_
 rintro e w6 ht
 obtain ⟨rfl, F6, hw⟩ := W5.out.ends E3.out ht
 have W6 := qH hw
 clear ht hw
 go_wp2_with fail
 refine hK.out _ _ (W6.out.bel) (fun hHeld => ?_)
 clear hK K
 clear hHeld
 refine rd1 11 (fun K hK => ?_)
 go_simp
 refine (wBytes g F6 ([] ++ enc (u64N m.ver) 8 ++ m.prev ++ enc (u64N m.trial) 8) false A2 n2 c2 (formC m.cf) w6 W6.out.wr ((RF.out.below W6.out.bel).more W6.out.bel.size) (RF.out.off W6.out.fb) H1.out H2.out N2.out).mono ?_
 rintro e w7 ht
 obtain ⟨rfl, F7, hw⟩ := W6.out.ends E4.out ht
 have W7 := qH hw
 clear ht hw
 go_wp2_with fail
 refine hK.out _ _ (W7.out.bel) (fun hHeld => ?_)
 clear hK K
 refine tk 12 ?_
 simp only [pR]
 refine wpAnyH_done (by kernel_rfl) ?_ _
 clear hHeld
 go_wp2_with fail
 go_ret
 refine ⟨g, F7, rfl, ?_, fun k hk => Nat.le_trans B.out.size (W7.out.fb k hk), B.out.trans (W7.out.bel.mono B.out.size)⟩
 have hf := W7.out.wr
 rw [List.nil_append] at hf
 rw [HV.out]
 exact hf
end
section
open Go.RowKit
theorem own_lo {w : World} {B B' z : Nat} {T : TypeId} {v : Value} {n : Nat} {xs : List Value} (h : w.ownsRow B T z v n xs) (hB : B' ≤ B) : w.ownsRow B' T z v n xs := by
 refine ⟨h.1, ?_⟩
 rcases h.2 with h | ⟨g, cap, cur, e, hg, hh, h⟩
 ·exact .inl h
 ·exact .inr ⟨g, cap, cur, e, Nat.le_trans hB hg, hh, h⟩
structure QSt (w0 : World) (T : Nat) (w : World) (g gb gc : Nat) (F : Nat → Prop) (s : RS) (vw vp vc : Value) (lw : List Reg) (qs : List QP) (lc : List Ch) : Prop where
 st : RSt w0 w g gb F s
 bx : Bx w gc 28 (fld3 vw vp vc)
 nc : ¬ F gc
 ow : w.ownsRow T 82 2 vw lw.length (winsV lw)
 fw : ∀ b, vw.ownBlock = some b → ¬ F b
 op : OwnP w T vp qs
 fp : ∀ b, vp.ownBlock = some b → ¬ F b
 fq : ∀ q ∈ qs, Off q.A q.m F
 oc : w.ownsRow T 130 5 vc lc.length (chsV lc)
 fc : ∀ b, vc.ownBlock = some b → ¬ F b
 gct : gc < T
 gbt : gb < T
 gbc : gb ≠ gc
 g0 : w0.heap.size ≤ gc
 tw : T ≤ w.heap.size
section
variable {w0 w : World} {T g gb gc : Nat} {F : Nat → Prop} {s : RS} {vw vp vc : Value} {lw : List Reg} {qs : List QP} {lc : List Ch}
theorem QSt.call {w' : World} {F' : Nat → Prop} {s' : RS} (h : QSt w0 T w g gb gc F s vw vp vc lw qs lc) (hst : RSt w0 w' g gb F' s') (hw : Went w F F' w') : QSt w0 T w' g gb gc F' s' vw vp vc lw qs lc :=
 ⟨hst, h.bx.kept hw.kp h.nc, hw.not h.bx.lt h.nc, own_kv h.ow hw.kp (fun b hb => h.fw b hb), fun b hb => hw.not (h.ow.lt b hb).2 (h.fw b hb),
  h.op.kept hw.kp (fun b hb => h.fp b hb) h.fq, fun b hb => hw.not (h.op.row.lt b hb).2 (h.fp b hb), fun q hq => (h.op.img q hq).offWent (h.fq q hq) hw,
  own_kv h.oc hw.kp (fun b hb => h.fc b hb), fun b hb => hw.not (h.oc.lt b hb).2 (h.fc b hb), h.gct, h.gbt, h.gbc, h.g0, Nat.le_trans h.tw hw.kp.size⟩
theorem QSt.put {vw' vp' vc' : Value} {lw' : List Reg} {qs' : List QP} {lc' : List Ch} (h : QSt w0 T w g gb gc F s vw vp vc lw qs lc) (j : Nat) (v : Value) (hj : (fld3 vw vp vc).set j v = fld3 vw' vp' vc')
  (ow : w.ownsRow T 82 2 vw' lw'.length (winsV lw')) (fw : ∀ b, vw'.ownBlock = some b → ¬ F b) (op : OwnP w T vp' qs') (fp : ∀ b, vp'.ownBlock = some b → ¬ F b) (fq : ∀ q ∈ qs', Off q.A q.m F)
  (oc : w.ownsRow T 130 5 vc' lc'.length (chsV lc')) (fc : ∀ b, vc'.ownBlock = some b → ¬ F b) : QSt w0 T (w.setCell ⟨gc, j, none⟩ v) g gb gc F s vw' vp' vc' lw' qs' lc' := by
 have hk : Keep (· = gc) w (w.setCell ⟨gc, j, none⟩ v) := (Keep.refl _ _).setCell _ _ rfl
 have hR : ∀ k, (· = gc) k → k < T ∨ w.heap.size ≤ k := fun k hk => .inl (by have := h.gct; have : k = gc := hk; omega)
 refine ⟨h.st.kept hk (fun k hk hh => h.nc (hh ▸ hk)) h.gbc (fun k hk => hk ▸ h.g0), ?_, h.nc, own_tv ow hk hR, fw, op.to hk hR, fp, fq, own_tv oc hk hR, fc, h.gct, h.gbt, h.gbc, h.g0, Nat.le_trans h.tw hk.size⟩
 rw [← hj]
 exact h.bx.set j v
theorem QSt.more {w' : World} (h : QSt w0 T w g gb gc F s vw vp vc lw qs lc) (hb : Below w.heap.size w w') : QSt w0 T w' g gb gc F s vw vp vc lw qs lc :=
 h.call (h.st.to hb) ⟨fun k hk => .inl hk, Keep.of_below hb⟩
theorem QSt.out {w' : World} {v : CV} {R : Nat → Prop} (h : QSt w0 T w g gb gc F s (.slice v.aw v.nw v.kw) (.slice v.ap v.np v.kp) (.slice v.ac v.nc v.kc) lw qs lc) (hk : Keep R w w') (hR : ∀ k, R k → k < T ∨ w.heap.size ≤ k) : OwCf w' T v ⟨lw, qs.map QP.p, lc⟩ := by
 have h1 := own_tv h.ow hk hR
 have h3 := own_tv h.oc hk hR
 rw [(own_capV h1).1] at h1
 rw [(own_capV h3).1] at h3
 exact OwCf.of_rows h1 (h.op.to hk hR) rfl h3
end
theorem two_more (w : World) (p : Value) (T : TypeId) : ∃ w2, ((w.alloc (.cells #[p] T)).alloc (.cells #[.slice none 0 0, .slice none 0 0, .slice none 0 0] 28)) = w2 ∧
  Below w.heap.size w w2 ∧ w2.cell? ⟨w.heap.size, 0, none⟩ = some p ∧ Bx w2 (w.heap.size + 1) 28 [.slice none 0 0, .slice none 0 0, .slice none 0 0] ∧ w2.heap.size = w.heap.size + 2 := by
 refine ⟨_, rfl, (((Below.refl w.heap.size w).alloc (Nat.le_refl _) _).alloc (by simp) _), ?_, ?_, by simp⟩
 ·have h := Bx.new w T [p]
  exact (h.to ((Below.refl _ _).alloc (Nat.le_refl _) (.cells #[.slice none 0 0, .slice none 0 0, .slice none 0 0] 28))).at (j := 0) rfl
 ·have h := Bx.new (w.alloc (.cells #[p] T)) 28 [.slice none 0 0, .slice none 0 0, .slice none 0 0]
  simpa using h
theorem wParse (A : Option Addr) (n c : Nat) (bs : List UInt8) (w : World) (ha : Rd w w.heap.size A n bs) (hc : n ≤ c) (hc' : c ≤ 9223372036854775807) (hn : n ≤ 1000000) :
  Calls Tryz.prog 40 #[.slice A n c] w fun e w' => ∃ v : CV, e = .returned (.tuple #[v.val, .int .i64 (cfErr bs)]) ∧ OwCf w' w.heap.size v (cfOut bs) ∧ Below w.heap.size w w' := by
 have hb0 := (Below.refl w.heap.size w).alloc (Nat.le_refl _) (.cells #[.slice none 0 0, .slice none 0 0, .slice none 0 0] 28)
 have X0 : Hid (Bx (w.alloc (.cells #[.slice none 0 0, .slice none 0 0, .slice none 0 0] 28)) w.heap.size 28 [.slice none 0 0, .slice none 0 0, .slice none 0 0]) := Bx.new w _ [.slice none 0 0, .slice none 0 0, .slice none 0 0]
 have B0 := qH hb0
 have RA := qH (ha.to hb0)
 have S0 : Hid ((w.alloc (.cells #[.slice none 0 0, .slice none 0 0, .slice none 0 0] 28)).heap.size = w.heap.size + 1) := by (show _ = _); simp
 have HN := qH hn
 have HC := qH hc
 have HC' := qH hc'
 clear ha hb0 hn hc hc'
 go_enter Tryz.func40, Tryz.ntmps40
 go_wp2_with fail
 generalize w.alloc (.cells #[.slice none 0 0, .slice none 0 0, .slice none 0 0] 28) = wa at *
 refine (pNew A n c bs wa RA.out HC.out HC'.out HN.out).mono ?_
 rintro e w1 ⟨g, F, rfl, hpr, hF, hb1⟩
 obtain ⟨w2, hw2, hb2, hc0, hbx, hs2⟩ := two_more w1 (.pointer (some ⟨g, 0, none⟩)) 67
 have H0 : Hid (QSt wa w2.heap.size w2 g w1.heap.size (w1.heap.size + 1) F (newRS bs) (.slice none 0 0) (.slice none 0 0) (.slice none 0 0) [] [] []) := by
  have hlt := hpr.lt
  have h1 := hb1.size
  exact ⟨⟨hpr.to hb2, fun hh => by have := hlt _ hh; omega, hc0, hF, h1, hb1.trans (hb2.mono h1)⟩, hbx, fun hh => by have := hlt _ hh; omega, World.ownsRow_nil _ _ _ _, fun _ hb => (by cases hb), OwnP.nil _ _, fun _ hb => (by cases hb), fun _ hq => absurd hq List.not_mem_nil,
   World.ownsRow_nil _ _ _ _, fun _ hb => (by cases hb), by omega, by omega, by omega, by omega, Nat.le_refl _⟩
 replace hw2 := qH hw2
 clear hpr hF hb1 hb2 hc0 hbx hs2 RA
 go_upto_region 3 with (fail)
 rw [show (w1.alloc (.cells #[.pointer (some ⟨g, 0, none⟩)] 67)).alloc (.cells #[.slice none 0 0, .slice none 0 0, .slice none 0 0] 28) = w2 from hw2.out]
 clear hw2
 have HT := qH (Nat.le_refl w2.heap.size)
 obtain ⟨T, hT⟩ : ∃ T, w2.heap.size = T := ⟨_, rfl⟩
 rw [hT] at H0 HT
 replace hT := qH hT
 have b0 := H0.out.st.box
 go_wp2_with fail
 have hW := wReadW 12 wa w2 g w1.heap.size F (newRS bs) H0.out.st (by decide)
 rw [show ((12 : Nat) : Int) = 12 from rfl] at hW
 refine hW.mono ?_
 rintro e w3 ⟨A1, c1, F1, rfl, hl⟩
 have H1 := qH (H0.out.call hl.st hl.wt)
 have R1 := qH (own_lo hl.row (Nat.le_of_eq hT.out.symm))
 have O1 := qH hl.off
 generalize hL1 : listR 12 winV winS (newRS bs) = L1 at *
 replace hL1 := qH hL1
 clear hW hl b0 H0
 have x0 := H1.out.bx.at (j := 0) rfl
 have f0 := H1.out.bx.fz 0
 go_upto_region 4 with (fail)
 have H2 := qH (H1.out.put 0 (.slice A1 L1.1.length c1) rfl R1.out O1.out H1.out.op H1.out.fp H1.out.fq H1.out.oc H1.out.fc)
 generalize w3.setCell ⟨w1.heap.size + 1, 0, none⟩ (.slice A1 L1.1.length c1) = w4 at *
 clear H1 R1 O1 x0 f0
 have b0 := H2.out.st.box
 go_wp2_with fail
 have hW := wReadP 6 wa w4 g w1.heap.size F1 L1.2 H2.out.st (by decide)
 rw [show ((6 : Nat) : Int) = 6 from rfl] at hW
 refine hW.mono ?_
 rintro e w5 ⟨A2, c2, F2, qs, rfl, hl, hq⟩
 have H3 := qH (H2.out.call hl.l.st hl.l.wt)
 have R2 : Hid (OwnP w5 T (.slice A2 qs.length c2) qs) := ⟨own_lo hl.l.row H2.out.tw, fun q hq => ⟨(hl.im q hq).1.own.mono H2.out.tw, (hl.im q hq).1.mc, (hl.im q hq).1.cc⟩, fun q hq => (hl.im q hq).2.1⟩
 have O2 := qH hl.l.off
 have I2 : Hid (∀ q ∈ qs, Off q.A q.m F2) := fun q hq => (hl.im q hq).2.2
 have HQ := qH hq
 generalize hL2 : listR 6 ptV ptS L1.2 = L2 at *
 replace hL2 := qH hL2
 clear hW hl hq b0 H2
 have x0 := H3.out.bx.at (j := 1) rfl
 have f0 := H3.out.bx.fz 1
 go_upto_region 5 with (fail)
 have H4 := qH (H3.out.put 1 (.slice A2 qs.length c2) rfl H3.out.ow H3.out.fw R2.out O2.out I2.out H3.out.oc H3.out.fc)
 generalize w5.setCell ⟨w1.heap.size + 1, 1, none⟩ (.slice A2 qs.length c2) = w6 at *
 clear H3 R2 O2 I2 x0 f0
 have b0 := H4.out.st.box
 go_wp2_with fail
 have hW := wReadC 8 wa w6 g w1.heap.size F2 L2.2 H4.out.st (by decide)
 rw [show ((8 : Nat) : Int) = 8 from rfl] at hW
 refine hW.mono ?_
 rintro e w7 ⟨A3, c3, F3, rfl, hl⟩
 have H5 := qH (H4.out.call hl.st hl.wt)
 have R3 := qH (own_lo hl.row H4.out.tw)
 have O3 := qH hl.off
 generalize hL3 : listR 8 chV chS L2.2 = L3 at *
 replace hL3 := qH hL3
 clear hW hl b0 H4
 have x0 := H5.out.bx.at (j := 2) rfl
 have f0 := H5.out.bx.fz 2
 go_upto_region 6 with (fail)
 have H6 := qH (H5.out.put 2 (.slice A3 L3.1.length c3) rfl H5.out.ow H5.out.fw H5.out.op H5.out.fp H5.out.fq R3.out O3.out)
 generalize w7.setCell ⟨w1.heap.size + 1, 2, none⟩ (.slice A3 L3.1.length c3) = w8 at *
 clear H5 R3 O3 x0 f0
 have HG : Hid (cfR (newRS bs) = (⟨L1.1, L2.1, L3.1⟩, L3.2)) := by
  (show _ = _)
  unfold cfR
  rw [hL1.out, hL2.out, hL3.out]
 have HNP : Hid (qs.length ≤ 1000) := by
  (show _ ≤ _)
  have e := congrArg List.length HQ.out
  have e6 : L2.1.length ≤ 6 := by
   rw [← hL2.out]
   unfold listR
   rw [manyR_len]
   have := count_range L1.2 6
   have h6 : ((6 : Nat) : Int) = 6 := rfl
   omega
  rw [List.length_map] at e
  omega
 clear hL1 hL2 hL3 hT HT
 have b0 := H6.out.st.box
 go_wp2_with fail
 refine (pEnd g F3 L3.2 w8 H6.out.st.pr).mono ?_
 rintro e w9 ⟨rfl, hb9⟩
 have H7 := qH (H6.out.more hb9)
 clear b0 hb9 H6
 have X1 := qH (X0.out.below (by have := S0.out; omega) H7.out.st.bel)
 have HWT : Hid (w.heap.size < T) := by (show _ < _); have := H7.out.g0; have := H7.out.gct; have := S0.out; omega
 have BW : Hid (Below w.heap.size w w9) := B0.out.trans (H7.out.st.bel.mono B0.out.size)
 clear B0 S0 X0
 have b0 := H7.out.bx.at (j := 0) rfl
 have b1 := H7.out.bx.at (j := 1) rfl
 have b2 := H7.out.bx.at (j := 2) rfl
 have z0 := X1.out.at (j := 0) rfl
 have z1 := X1.out.at (j := 1) rfl
 have z2 := X1.out.at (j := 2) rfl
 have f0 := X1.out.fz 0
 have f1 := X1.out.fz 1
 have f2 := X1.out.fz 2
 by_cases hE : endV L3.2 = 0
 ·have HE := qH hE
  rw [hE]
  clear hE
  have hne : (((0 : Nat) : Int) != 0) = false := rfl
  go_wp2_with fail
  have HRD := qH (H7.out.out (v := ⟨A1, L1.1.length, c1, A2, qs.length, c2, A3, L3.1.length, c3⟩) (R := fun _ => False) (Keep.refl _ w9) (fun _ h => h.elim)).rd
  rw [HQ.out] at HRD
  refine (pCanOf ⟨A1, L1.1.length, c1, A2, qs.length, c2, A3, L3.1.length, c3⟩ _ w9 HRD.out HNP.out).mono ?_
  rintro e wc ⟨rfl, hbc⟩
  replace H7 := qH (H7.out.more hbc)
  replace X1 := qH (X1.out.to hbc)
  replace BW := qH (BW.out.trans (hbc.mono BW.out.size))
  clear b0 b1 b2 z0 z1 z2 f0 f1 f2 hbc HRD
  have b0 := H7.out.bx.at (j := 0) rfl
  have b1 := H7.out.bx.at (j := 1) rfl
  have b2 := H7.out.bx.at (j := 2) rfl
  have z0 := X1.out.at (j := 0) rfl
  have z1 := X1.out.at (j := 1) rfl
  have z2 := X1.out.at (j := 2) rfl
  have f0 := X1.out.fz 0
  have f1 := X1.out.fz 1
  have f2 := X1.out.fz 2
  cases hcan : canC ⟨L1.1, L2.1, L3.1⟩
  ·have HE : Hid (okC bs = false) := by
    (show _ = _)
    unfold okC gotC
    rw [HG.out, hcan, Bool.and_false]
   replace hcan := qH hcan
   go_wp2_with fail
   change bodyPost _ _ _ _ _ (setsC wc w.heap.size 0 [.slice none 0 0, .slice none 0 0, .slice none 0 0])
   have P9 := X1.out.sets [.slice none 0 0, .slice none 0 0, .slice none 0 0] rfl
   have B9 := below_sets (Nat.le_refl w.heap.size) [.slice none 0 0, .slice none 0 0, .slice none 0 0] 0 BW.out
   generalize setsC wc w.heap.size 0 [.slice none 0 0, .slice none 0 0, .slice none 0 0] = wz at *
   refine bodyPost_ret (res_cf rfl _ _ w.heap.size (.slice none 0 0) (.slice none 0 0) (.slice none 0 0) (.int .i64 110) rfl rfl P9) rfl ⟨⟨none, 0, 0, none, 0, 0, none, 0, 0⟩, ?_, ?_, B9⟩
   ·rw [(cfOut_no HE.out).2]; rfl
   ·rw [(cfOut_no HE.out).1]; exact ⟨rdCf_nil _ _, sp_nil _ _⟩
  ·have HO : Hid (okC bs = true) := by
    (show _ = _)
    unfold okC gotC
    rw [HG.out, hcan, HE.out]; rfl
   replace hcan := qH hcan
   go_wp2_with fail
   change bodyPost _ _ _ _ _ (setsC wc w.heap.size 0 [.slice A1 L1.1.length c1, .slice A2 qs.length c2, .slice A3 L3.1.length c3])
   have P9 := X1.out.sets [.slice A1 L1.1.length c1, .slice A2 qs.length c2, .slice A3 L3.1.length c3] rfl
   have B9 := below_sets (Nat.le_refl w.heap.size) [.slice A1 L1.1.length c1, .slice A2 qs.length c2, .slice A3 L3.1.length c3] 0 BW.out
   have HR := H7.out.out (v := ⟨A1, L1.1.length, c1, A2, qs.length, c2, A3, L3.1.length, c3⟩) (Keep.sets (R := (· = w.heap.size)) rfl [.slice A1 L1.1.length c1, .slice A2 qs.length c2, .slice A3 L3.1.length c3] 0 (Keep.refl _ wc)) (fun k hk => .inl (by have := HWT.out; have : k = w.heap.size := hk; omega))
   rw [HQ.out] at HR
   generalize setsC wc w.heap.size 0 [.slice A1 L1.1.length c1, .slice A2 qs.length c2, .slice A3 L3.1.length c3] = wz at *
   refine bodyPost_ret (res_cf rfl _ _ w.heap.size _ _ _ (.int .i64 0) rfl rfl P9) rfl ⟨⟨A1, L1.1.length, c1, A2, qs.length, c2, A3, L3.1.length, c3⟩, ?_, ?_, B9⟩
   ·rw [(cfOut_yes HO.out).2]; rfl
   ·rw [(cfOut_yes HO.out).1]
    unfold gotC
    rw [HG.out]
    exact ⟨HR.rd, HR.sp.mono (Nat.le_of_lt HWT.out)⟩
 ·have HE : Hid (okC bs = false) := by
   (show _ = _)
   unfold okC
   rw [HG.out, decide_eq_false hE]
   rfl
  have hne : ((endV L3.2 : Int) != 0) = true := bne_iff_ne.2 (by omega)
  clear hE
  go_wp2_with fail
  change bodyPost _ _ _ _ _ (setsC w9 w.heap.size 0 [.slice none 0 0, .slice none 0 0, .slice none 0 0])
  have P9 := X1.out.sets [.slice none 0 0, .slice none 0 0, .slice none 0 0] rfl
  have B9 := below_sets (Nat.le_refl w.heap.size) [.slice none 0 0, .slice none 0 0, .slice none 0 0] 0 BW.out
  generalize setsC w9 w.heap.size 0 [.slice none 0 0, .slice none 0 0, .slice none 0 0] = wz at *
  refine bodyPost_ret (res_cf rfl _ _ w.heap.size (.slice none 0 0) (.slice none 0 0) (.slice none 0 0) (.int .i64 110) rfl rfl P9) rfl ⟨⟨none, 0, 0, none, 0, 0, none, 0, 0⟩, ?_, ?_, B9⟩
  ·rw [(cfOut_no HE.out).2]; rfl
  ·rw [(cfOut_no HE.out).1]; exact ⟨rdCf_nil _ _, sp_nil _ _⟩
end
section
open Go.RowKit
structure PmS (w0 w : World) (gr z : Nat) (F : Nat → Prop) (s : RS) : Prop where
 pr : PrAt w gr F s
 zb : MB w z Mf.zero nilV
 bel : Below w0.heap.size w0 w
 z0 : w0.heap.size ≤ z
 fz : ∀ k, F k → z < k
structure PmQ (w0 w : World) (gr g z : Nat) (F : Nat → Prop) (s : RS) (m : Mf) (v : CV) : Prop where
 st : PmS w0 w gr z F s
 mb : MB w g m v
 zg : z < g
 fg : ¬ F g
section
variable {w0 w w' : World} {gr g z : Nat} {F : Nat → Prop} {s s' : RS} {m m' : Mf} {v v' : CV}
theorem PmS.reads (h : PmS w0 w gr z F s) {F' : Nat → Prop} (hr : PrAt w' gr F' s') (hf : ∀ k, F' k → F k ∨ w.heap.size ≤ k) (hk : Keep F w w') : PmS w0 w' gr z F' s' := by
 have hz := h.zb.lt
 refine ⟨hr, h.zb.kept hk (fun hh => Nat.lt_irrefl _ (h.fz _ hh)), hk.below h.bel h.bel.size (fun k hh => Nat.le_trans h.z0 (Nat.le_of_lt (h.fz k hh))), h.z0, fun k hh => ?_⟩
 rcases hf k hh with h1 | h1
 ·exact h.fz k h1
 ·omega
theorem PmS.read (h : PmS w0 w gr z F s) (hr : PrTo w gr F s' w') : ∃ F', PmS w0 w' gr z F' s' := by
 obtain ⟨F', h1, h2, h3⟩ := hr
 exact ⟨F', h.reads h1 h2 h3⟩
theorem PmS.to (h : PmS w0 w gr z F s) (hb : Below w.heap.size w w') : PmS w0 w' gr z F s := ⟨h.pr.to hb, h.zb.to hb, h.bel.trans (hb.mono h.bel.size), h.z0, h.fz⟩
theorem PmQ.reads (h : PmQ w0 w gr g z F s m v) {F' : Nat → Prop} (hr : PrAt w' gr F' s') (hf : ∀ k, F' k → F k ∨ w.heap.size ≤ k) (hk : Keep F w w') : PmQ w0 w' gr g z F' s' m v := by
 have hg := h.mb.lt
 refine ⟨h.st.reads hr hf hk, h.mb.kept hk h.fg, h.zg, fun hh => ?_⟩
 rcases hf g hh with h1 | h1
 ·exact h.fg h1
 ·omega
theorem PmQ.to (h : PmQ w0 w gr g z F s m v) (hb : Below w.heap.size w w') : PmQ w0 w' gr g z F s m v := ⟨h.st.to hb, h.mb.to hb, h.zg, h.fg⟩
theorem PmQ.put (h : PmQ w0 w gr g z F s m v) (hk : Keep (· = g) w w') (hm : MB w' g m' v') : PmQ w0 w' gr g z F s m' v' := by
 have h1 := h.zg
 have h2 := h.st.z0
 exact ⟨⟨h.st.pr.kept hk (fun k hh e => h.fg (by rw [← e]; exact hh)), h.st.zb.kept hk (by omega), hk.below h.st.bel h.st.bel.size (fun k e => by omega), h2, h.st.fz⟩, hm, h1, h.fg⟩
end
theorem foldl_put (o : Nat) : ∀ (vs : List Value) (k : Nat) (cur : Array Value), o + k + vs.length ≤ cur.size → (vs.zipIdx k).foldl (fun (cs : Array Value) x => cs.setIfInBounds (o + x.2) x.1) cur = (cur.toList.take (o + k) ++ vs ++ cur.toList.drop (o + k + vs.length)).toArray
 | [], k, cur, _ => by simp
 | v :: rest, k, cur, h => by
  rw [List.zipIdx_cons, List.foldl_cons, foldl_put o rest (k + 1) _ (by simp at h ⊢; omega)]
  congr 1
  have e := list_seg_step cur.toList (o + k) v rest (by simp at h ⊢; omega)
  simpa [Array.toList_setIfInBounds, Nat.add_assoc] using e
theorem mf_buildQ (x0 : Int) (x1 : List UInt8) (h : x1.length = 32) :
  Array.foldl (fun (cs : Array Value) x => cs.setIfInBounds (1 + x.snd) x.fst) ((mfL Mf.zero nilV).set 0 (Value.int IntKind.i64 x0)).toArray (arrB x1).zipIdx 0 (arrB x1).size = (Value.int IntKind.i64 x0 :: (x1.map bval ++ (mfL Mf.zero nilV).drop 33)).toArray := by
 have e0 : (arrB x1).zipIdx = ((x1.map bval).zipIdx).toArray := by simp [arrB]
 rw [e0, show (arrB x1).size = ((x1.map bval).zipIdx).toArray.size by simp [arrB], List.foldl_toArray, foldl_put 1 (x1.map bval) 0 _ (by simp [h, mfL_len MfT.zero])]
 congr 1
 rw [List.length_map, h]
 rfl
theorem mf_buildS (x0 : Int) (x1 : List UInt8) (h : x1.length = 32) :
  (Array.foldl (fun (cs : Array Value) x => cs.setIfInBounds (1 + x.snd) x.fst) ((mfL Mf.zero nilV).set 0 (Value.int IntKind.i64 x0)).toArray (arrB x1).zipIdx 0 (arrB x1).size).size = 69 := by
 rw [mf_buildQ x0 x1 h, List.size_toArray, List.length_cons, List.length_append, List.length_map, h, List.length_drop, mfL_len MfT.zero]
theorem mf_buildP (x0 x2 : Int) (x1 : List UInt8) (h : x1.length = 32) :
  ((Array.foldl (fun (cs : Array Value) x => cs.setIfInBounds (1 + x.snd) x.fst) ((mfL Mf.zero nilV).set 0 (Value.int IntKind.i64 x0)).toArray (arrB x1).zipIdx 0 (arrB x1).size).setIfInBounds 33 (Value.int IntKind.i64 x2)) = (mfL ⟨x0, x1, x2, ⟨[], [], []⟩, zeros32⟩ nilV).toArray := by
 rw [mf_buildQ x0 x1 h, List.setIfInBounds_toArray]
 congr 1
 rw [show (33 : Nat) = (x1.map bval).length + 1 by rw [List.length_map, h], List.set_cons_succ, List.set_append_right _ _ (Nat.le_refl _), Nat.sub_self, List.length_map, h]
 rfl
theorem cf_sizeP (v : CV) : (Tryz.prog.info? 28).map (·.size) = some (cfL v).toArray.size := by kernel_rfl
theorem wParseMO (A : Option Addr) (n c : Nat) (bs : List UInt8) (w : World) (ha : Rd w w.heap.size A n bs) (hn : n ≤ c) (hc : c ≤ 9223372036854775807) (hl : n ≤ 140737488355328) :
  Calls Tryz.prog 15 #[.slice A n c] w fun e w' => ∃ v : CV, e = .returned (.tuple #[.agg (mfL (mfOut bs) v).toArray, .int .i64 (mfErr bs)]) ∧ RdM w' w'.heap.size v (mfOut bs) ∧ Sp w' w.heap.size v ∧ Below w.heap.size w w' := by
 have hz := mf_zero
 have B1 := qH ((Below.refl w.heap.size w).alloc (Nat.le_refl _) (.cells (mfL Mf.zero nilV).toArray 30))
 have Z := qH (MB.new w MfT.zero nilV)
 have R := qH (ha.to B1.out)
 have HS : Hid ((w.alloc (.cells (mfL Mf.zero nilV).toArray 30)).heap.size = w.heap.size + 1) := by (show _ = _); simp
 have HN := qH hn
 have HC := qH hc
 have HL := qH hl
 clear ha hn hc hl
 go_enter Tryz.func15, Tryz.ntmps15
 go_upto_region 1 with (fail)
 generalize w.alloc (.cells (mfL Mf.zero nilV).toArray 30) = w1 at *
 go_wp2_with fail
 refine (pNewL A n c bs w1 R.out HN.out HC.out HL.out).mono ?_
 rintro e w2 ⟨gr, F2, rfl, hr, hgr, hb⟩
 have P2 : Hid (PmS w w2 gr w.heap.size F2 (newRS bs)) := ⟨hr, Z.out.to hb, B1.out.trans (hb.mono B1.out.size), Nat.le_refl _, fun k hk => by have := hgr k hk; have := HS.out; omega⟩
 clear hr hgr hb R HS HN HC HL Z B1
 have GV : Hid (gotM bs = ⟨intV (newRS bs), tagV ((newRS bs).next 8), intV (((newRS bs).next 8).next 32), cfOut (bytesV ((((newRS bs).next 8).next 32).next 8)), tagV (bytesS ((((newRS bs).next 8).next 32).next 8))⟩) := rfl
 have HO : Hid (okM bs = (decide (endV ((bytesS ((((newRS bs).next 8).next 32).next 8)).next 32) = 0) && (decide (cfErr (bytesV ((((newRS bs).next 8).next 32).next 8)) = 0) && canM (gotM bs)))) := rfl
 generalize newRS bs = r0 at *
 go_wp2_with fail
 refine (pInt gr F2 r0 w2 P2.out.pr).mono ?_
 rintro e w3 ⟨rfl, ht⟩
 obtain ⟨F3, hp⟩ := P2.out.read ht
 have P3 := qH hp
 clear ht hp P2
 generalize hx0 : intV r0 = x0 at *
 generalize hr1 : r0.next 8 = r1 at *
 clear hx0 hr1
 go_wp2_with fail
 refine (pTag gr F3 r1 w3 P3.out.pr).mono ?_
 rintro e w4 ⟨rfl, ht⟩
 obtain ⟨F4, hp⟩ := P3.out.read ht
 have P4 := qH hp
 have TL := qH (tagV_len r1)
 clear ht hp P3
 generalize hx1 : tagV r1 = x1 at *
 generalize hr2 : r1.next 32 = r2 at *
 clear hx1 hr2
 go_wp2_with fail
 refine (pInt gr F4 r2 w4 P4.out.pr).mono ?_
 rintro e w5 ⟨rfl, ht⟩
 obtain ⟨F5, hp⟩ := P4.out.read ht
 have P5 := qH hp
 clear ht hp P4
 generalize hx2 : intV r2 = x2 at *
 generalize hr3 : r2.next 8 = r3 at *
 clear hx2 hr3
 have T1 : Hid (MfT ⟨x0, x1, x2, ⟨[], [], []⟩, zeros32⟩) := ⟨TL.out, rfl⟩
 have S1 := qH (mf_size T1.out nilV)
 have SZ : Hid ((mfL Mf.zero nilV).toArray.size = (mfL ⟨x0, x1, x2, ⟨[], [], []⟩, zeros32⟩ nilV).toArray.size) := by (show _ = _); rw [mfL_size MfT.zero, mfL_size T1.out]
 have BU := qH (mf_buildP x0 x2 x1 TL.out)
 have hb32 : (arrB x1).size = 32 := by rw [arrB_size, TL.out]
 have hfs := mf_buildS x0 x1 TL.out
 have hft := mf_buildS x0 x1 TL.out
 rw [hb32] at hft
 have BV : Hid (_ = _) := BU
 rw [hb32] at BV
 go_upto_region 3 with ((first | rw [BU.out] | rw [BV.out]); refine wpList_store_row rfl 30 _ _ rfl w5.heap.size (mfL ⟨x0, x1, x2, ⟨[], [], []⟩, zeros32⟩ nilV).toArray rfl rfl 30 (mfL Mf.zero nilV).toArray (heap_alloc_last w5 _) S1.out SZ.out (mf_one _ _) ?_; rw [World.setRow_alloc_new])
 have hal : Below w5.heap.size w5 (w5.alloc (.cells (mfL ⟨x0, x1, x2, ⟨[], [], []⟩, zeros32⟩ nilV).toArray 30)) := (Below.refl _ _).alloc (Nat.le_refl _) _
 have M : Hid (PmQ w (w5.alloc (.cells (mfL ⟨x0, x1, x2, ⟨[], [], []⟩, zeros32⟩ nilV).toArray 30)) gr w5.heap.size w.heap.size F5 r3 ⟨x0, x1, x2, ⟨[], [], []⟩, zeros32⟩ nilV) :=
  ⟨P5.out.to hal, MB.new w5 T1.out nilV, P5.out.zb.lt, fun hh => Nat.lt_irrefl _ (P5.out.pr.lt _ hh)⟩
 clear P5 hal S1 SZ BU BV hz hb32 hfs hft
 generalize w5.alloc (.cells (mfL ⟨x0, x1, x2, ⟨[], [], []⟩, zeros32⟩ nilV).toArray 30) = w6 at *
 generalize w5.heap.size = g at *
 clear w5
 go_wp2_with fail
 refine (pBytes gr F5 r3 w6 M.out.st.pr).mono ?_
 rintro e w7 ⟨A7, n7, c7, F7, rfl, ho, h1, h2, hr, hoff, hf, hk⟩
 have R7 := qH ho.1
 have H1 := qH h1
 have H2 := qH h2
 replace M := qH (M.out.reads hr hf hk)
 have L7 := qH (bytesV_le r3)
 clear ho h1 h2 hr hoff hf hk
 generalize hx3 : bytesV r3 = x3 at *
 generalize hr4 : bytesS r3 = r4 at *
 clear hx3 hr4
 go_wp2_with fail
 refine (wParse A7 n7 c7 x3 w7 R7.out H1.out H2.out (by have := R7.out.1; have := L7.out; omega)).mono ?_
 rintro e w8 ⟨v, rfl, hc, hb⟩
 have C := qH hc
 have HSZ : Hid (g < w7.heap.size) := M.out.mb.lt
 have HFL : Hid (∀ k, F7 k → k < w7.heap.size) := M.out.st.pr.lt
 replace M := qH (M.out.to hb)
 clear hc hb R7 H1 H2 L7
 rw [show v.val = .agg #[.slice v.aw v.nw v.kw, .slice v.ap v.np v.kp, .slice v.ac v.nc v.kc] from rfl]
 go_upto_region 4 with (fail)
 have hbx : Bx (w8.alloc (.cells #[.slice v.aw v.nw v.kw, .slice v.ap v.np v.kp, .slice v.ac v.nc v.kc] 28)) w8.heap.size 28 (cfL v) := Bx.new w8 28 (cfL v)
 have hal : Below w8.heap.size w8 (w8.alloc (.cells #[.slice v.aw v.nw v.kw, .slice v.ap v.np v.kp, .slice v.ac v.nc v.kc] 28)) := (Below.refl _ _).alloc (Nat.le_refl _) _
 have HX : Hid (g < w8.heap.size) := M.out.mb.lt
 have HFX : Hid (∀ k, F7 k → k < w8.heap.size) := M.out.st.pr.lt
 replace M := qH (M.out.to hal)
 replace C := qH (C.out.to hal)
 clear hal
 generalize w8.alloc (.cells #[.slice v.aw v.nw v.kw, .slice v.ap v.np v.kp, .slice v.ac v.nc v.kc] 28) = w9 at *
 generalize w8.heap.size = gx at *
 clear w8
 obtain ⟨wd, hwd⟩ : ∃ x, w9.drew = x := ⟨_, rfl⟩
 have BS : Below w9.heap.size w9 wd := by rw [← hwd]; exact (Below.refl _ _).drew
 have X := qH (hbx.to BS)
 replace M := qH (M.out.to BS)
 replace C := qH (C.out.to BS)
 have hbd := X.out
 clear BS hbx
 refine wp_region_held_drew (S := (fun w' => Bx w' gx 28 (cfL v))) (by kernel_rfl) ((by rw [hwd]; exact hbd)) (fun hHeld => ?_)
 rw [hwd] at hHeld ⊢
 clear hwd hHeld hbd w9
 have hHeld := X.out
 refine tl 0 (.agg #[.slice v.aw v.nw v.kw, .slice v.ap v.np v.kp, .slice v.ac v.nc v.kc]) rfl (yieldsIf_load_row (by rfl) 28 _ rfl gx rfl 28 #[.slice v.aw v.nw v.kw, .slice v.ap v.np v.kp, .slice v.ac v.nc v.kc] (0, 0) _ (fun w' h => h) Tryz.underlying28 rfl (cf_sizeP v)) ?_
 simp only [pR]
 refine tk 1 ?_
 simp only [pR]
 refine tk 3 ?_
 simp only [pR]
 clear hHeld
 refine rd1 2 (fun K hK => ?_)
 go_simp
 refine (pTag gr F7 r4 wd M.out.st.pr).mono ?_
 rintro e w10 ⟨rfl, F10, hr, hf, hk⟩
 replace C := qH (C.out.keptO hk HFL.out)
 replace X := qH (X.out.kept hk (fun hh => Nat.lt_irrefl _ (HFX.out _ hh)))
 replace M := qH (M.out.reads hr hf hk)
 clear hr hf hk
 go_wp2_with fail
 refine hK.out _ _ (X.out) (fun hHeld => ?_)
 clear hK K
 have TL4 := qH (tagV_len r4)
 obtain ⟨x4, hx4⟩ : ∃ x, tagV r4 = x := ⟨_, rfl⟩
 obtain ⟨r5, hr5⟩ : ∃ x, r4.next 32 = x := ⟨_, rfl⟩
 rw [hx4] at TL4 GV ⊢
 rw [hr5] at M HO
 clear hx4 hr5 hHeld
 obtain ⟨-, -, q0, q1, q2⟩ := M.out.mb.cells
 have f0 := M.out.mb.fz 34
 have f1 := M.out.mb.fz 35
 have f2 := M.out.mb.fz 36
 have HKC := qH (show Keep (· = g) w10 (Proofs.YtlmdidblgeeplaaGreatDoor.setCf w10 g v) from keep_setCf (R := (· = g)) (Keep.refl _ _) rfl v)
 refine rd1 4 (fun K hK => ?_)
 go_simp
 refine hK.out _ _ ((show Bx (Proofs.YtlmdidblgeeplaaGreatDoor.setCf w10 g v) gx 28 (cfL v) from X.out.kept HKC.out (by have := HX.out; omega))) (fun hHeld => ?_)
 clear hK K
 obtain ⟨w11, hw11⟩ : ∃ x, Proofs.YtlmdidblgeeplaaGreatDoor.setCf w10 g v = x := ⟨_, rfl⟩
 rw [show ((w10.setCell ⟨g, 34, none⟩ (.slice v.aw v.nw v.kw)).setCell ⟨g, 35, none⟩ (.slice v.ap v.np v.kp)).setCell ⟨g, 36, none⟩ (.slice v.ac v.nc v.kc) = w11 from hw11] at hHeld ⊢
 replace C := qH (C.out.keptO HKC.out (fun k e => by have := HSZ.out; omega))
 replace M := qH (M.out.put HKC.out (M.out.mb.setCf v (cfOut x3)))
 rw [hw11] at C M
 clear HKC hw11 q0 q1 q2 f0 f1 f2 X
 refine tk 5 ?_
 simp only [pR]
 have X := qH hHeld
 clear hHeld
 have S2 := qH (tag_size TL4.out)
 have TH : Hid (w11.there g 37 (arrB x4).size) := M.out.mb.there (by rw [arrB_size, TL4.out]; decide)
 have HKC := qH (show Keep (· = g) w11 (w11.setCells g 37 (arrB x4).toList) from keep_setCellsM (R := (· = g)) (Keep.refl _ _) g 37 (arrB x4).toList rfl)
 refine rd1 6 (fun K hK => ?_)
 rw [if_pos (by rfl)]
 refine wp_store_mid 23 _ _ rfl g 37 (arrB x4) rfl rfl TH.out S2.out (arrB_one _) ?_
 refine hK.out _ _ (X.out.kept HKC.out (by have := HX.out; omega)) (fun hHeld => ?_)
 clear hK K hHeld
 refine wpAnyH_done (by kernel_rfl) ?_ _
 replace C := qH (C.out.keptO HKC.out (fun k e => by have := HSZ.out; omega))
 replace M := qH (M.out.put HKC.out (M.out.mb.setTag TL4.out))
 clear S2 TH HKC X
 generalize w11.setCells g 37 (arrB x4).toList = w14 at *
 simp only at GV M
 generalize hgm : gotM bs = gm at *
 have HGM := qH hgm
 clear hgm
 rw [← GV.out] at M
 go_wp2_with fail
 refine (pEnd gr F10 r5 w14 M.out.st.pr).mono ?_
 rintro e w16 ⟨rfl, hal⟩
 replace C := qH (C.out.to hal)
 replace M := qH (M.out.to hal)
 clear hal
 by_cases hE : endV r5 = 0
 rotate_left 1
 ·have HN : Hid (okM bs = false) := by (show _ = _); rw [HO.out, decide_eq_false hE]; rfl
  have hne : ((endV r5 : Int) != 0) = true := bne_iff_ne.2 (by omega)
  clear hE HO GV HGM
  generalize (endV r5 : Int) = ev at *
  have HF : Hid (mfOut bs = Mf.zero ∧ mfErr bs = 140) := mfOut_no HN.out
  have S0 := qH (mf_size MfT.zero nilV)
  go_wp2_with (refine wpList_store_row rfl 30 _ _ rfl w.heap.size (mfL Mf.zero nilV).toArray rfl rfl 30 (mfL Mf.zero nilV).toArray M.out.st.zb.row S0.out rfl (mf_one _ _) ?_)
  (try simp only [Exit.inBlock, Exit.then])
  refine bodyPost_ret (results_mfE rfl _ _ w.heap.size Mf.zero nilV (.int .i64 140) rfl rfl (M.out.st.zb.setRow MfT.zero nilV)) rfl ?_
  exact ⟨nilV, by rw [HF.out.1, HF.out.2], by rw [HF.out.1]; exact RdM.zero _ _, sp_nil _ _, below_setRow M.out.st.bel (Nat.le_refl _) _⟩
 rw [hE]
 rw [hE, show decide ((0 : Nat) = 0) = true from rfl, Bool.true_and] at HO
 clear hE
 by_cases hC : cfErr x3 = 0
 rotate_left 1
 ·have HN : Hid (okM bs = false) := by (show _ = _); rw [HO.out, decide_eq_false hC]; rfl
  have hne : (cfErr x3 != 0) = true := bne_iff_ne.2 hC
  clear hC HO GV HGM
  generalize cfErr x3 = ev at *
  have HF : Hid (mfOut bs = Mf.zero ∧ mfErr bs = 140) := mfOut_no HN.out
  have S0 := qH (mf_size MfT.zero nilV)
  go_wp2_with (refine wpList_store_row rfl 30 _ _ rfl w.heap.size (mfL Mf.zero nilV).toArray rfl rfl 30 (mfL Mf.zero nilV).toArray M.out.st.zb.row S0.out rfl (mf_one _ _) ?_)
  (try simp only [Exit.inBlock, Exit.then])
  refine bodyPost_ret (results_mfE rfl _ _ w.heap.size Mf.zero nilV (.int .i64 140) rfl rfl (M.out.st.zb.setRow MfT.zero nilV)) rfl ?_
  exact ⟨nilV, by rw [HF.out.1, HF.out.2], by rw [HF.out.1]; exact RdM.zero _ _, sp_nil _ _, below_setRow M.out.st.bel (Nat.le_refl _) _⟩
 have hcan := can_ok hC
 have D := qH (bd_can C.out.rd hcan)
 have hcf := (fun (c : Cf) (h : gm = ⟨x0, x1, x2, c, x4⟩) => (show gm.cf = c by rw [h])) _ GV.out
 have hrd := C.out.rd
 rw [← hcf] at hrd
 have RM := qH (RdM.mk (w := w16) (B := w16.heap.size) (v := v) (m := gm) M.out.mb.1 hrd)
 clear hcf hrd
 rw [hC, show decide ((0 : Int) = 0) = true from rfl, Bool.true_and] at HO
 rw [hC]
 clear hC hcan
 have S9 := qH (mf_size M.out.mb.1 v)
 go_wp2_with (refine wpList_load_rowGm (by rfl) 30 _ rfl g rfl 30 (mfL gm v).toArray (0, 0) _ M.out.mb.row Tryz.underlying30 rfl S9.out ?_)
 refine (wCanM v gm w16 RM.out D.out).mono ?_
 rintro e w17 ⟨rfl, hb⟩
 have RC := qH ((RM.out.to hb).cf)
 have SP := qH (C.out.sp.to hb)
 replace M := qH (M.out.to hb)
 clear hb RM
 rw [← HO.out]
 cases hk : okM bs
 ·have HN := qH hk
  clear hk
  have HF : Hid (mfOut bs = Mf.zero ∧ mfErr bs = 140) := mfOut_no HN.out
  have S0 := qH (mf_size MfT.zero nilV)
  go_wp2_with (refine wpList_store_row rfl 30 _ _ rfl w.heap.size (mfL Mf.zero nilV).toArray rfl rfl 30 (mfL Mf.zero nilV).toArray M.out.st.zb.row S0.out rfl (mf_one _ _) ?_)
  (try simp only [Exit.inBlock, Exit.then])
  refine bodyPost_ret (results_mfE rfl _ _ w.heap.size Mf.zero nilV (.int .i64 140) rfl rfl (M.out.st.zb.setRow MfT.zero nilV)) rfl ?_
  exact ⟨nilV, by rw [HF.out.1, HF.out.2], by rw [HF.out.1]; exact RdM.zero _ _, sp_nil _ _, below_setRow M.out.st.bel (Nat.le_refl _) _⟩
 ·have HY : Hid (mfOut bs = gm ∧ mfErr bs = 0) := by
   refine ⟨?_, (mfOut_yes hk).2⟩
   rw [(mfOut_yes hk).1]
   exact HGM.out
  clear hk
  have SZ : Hid ((mfL Mf.zero nilV).toArray.size = (mfL gm v).toArray.size) := by (show _ = _); rw [mfL_size MfT.zero, mfL_size M.out.mb.1]
  go_wp2_with (first | (refine wpList_load_row rfl 30 _ rfl g rfl 30 (mfL gm v).toArray (0, 0) _ M.out.mb.row Tryz.underlying30 rfl S9.out ?_) | (refine wpList_store_row rfl 30 _ _ rfl w.heap.size (mfL gm v).toArray rfl rfl 30 (mfL Mf.zero nilV).toArray M.out.st.zb.row S9.out SZ.out (mf_one _ _) ?_))
  (try simp only [Exit.inBlock, Exit.then])
  refine bodyPost_ret (results_mfE rfl _ _ w.heap.size gm v (.int .i64 0) rfl rfl (M.out.st.zb.setRow M.out.mb.1 v)) rfl ?_
  have hb : Keep (· = w.heap.size) w17 (w17.setRow w.heap.size (mfL gm v).toArray) := keep_setRow _ _
  have hlt : ∀ k, (· = w.heap.size) k → k < w7.heap.size := fun k e => by have := HSZ.out; have := M.out.zg; omega
  have hz : w.heap.size ≤ w7.heap.size := Nat.le_of_lt (hlt _ rfl)
  refine ⟨v, by rw [HY.out.1, HY.out.2], by rw [HY.out.1]; exact ⟨M.out.mb.1, RC.out.keptO SP.out hb hlt⟩, (OwCf.mono (OwCf.keptO ⟨RC.out, SP.out⟩ hb hlt) hz).sp, below_setRow M.out.st.bel (Nat.le_refl _) _⟩
theorem wParseM (A : Option Addr) (n c : Nat) (bs : List UInt8) (w : World) (ha : Rd w w.heap.size A n bs) (hn : n ≤ c) (hc : c ≤ 9223372036854775807) (hl : n ≤ 140737488355328) :
  Calls Tryz.prog 15 #[.slice A n c] w fun e w' => ∃ v : CV, e = .returned (.tuple #[.agg (mfL (mfOut bs) v).toArray, .int .i64 (mfErr bs)]) ∧ RdM w' w'.heap.size v (mfOut bs) ∧ Below w.heap.size w w' :=
 (wParseMO A n c bs w ha hn hc hl).mono fun _ _ ⟨v, h1, h2, _, h3⟩ => ⟨v, h1, h2, h3⟩
end
end Go.Proofs.YtlmdidblgeeplaaGreatDoor