/- The program's commit: May, place, seal. -/
import Derived.Test.YtffdjnhhmfpkgaaGreatTz
import Derived.Test.YtffdjnhhmfpkgaaGreatCmW
import Derived.Test.YtffdjnhhmfpkgaaGreatR5
import Derived.Test.YtffdjnhhmfpkgaaGreatFrameY
import Derived.Deep.RegionHeld
import Derived.Deep.DeepCutAuto
namespace Go.Proofs.YtffdjnhhmfpkgaaGreat
set_option maxRecDepth 1000000
set_option maxHeartbeats 8000000
open Go.RowKit
set_option linter.unusedVariables false
set_option linter.unusedSimpArgs false
theorem cMay (r : Rcd) (w : World) (h : r.hash.length = 32) : Calls Tryz.prog 12 #[.agg (rcL r).toArray] w fun e w' => e = .returned (.bool (cmMay r)) ∧ Below w.heap.size w w' := by
 have B := qH ((Below.refl w.heap.size w).alloc (Nat.le_refl _) (.cells (rcL r).toArray 34))
 have M := qH (RB.new w h)
 have HV : Hid (cmMay r = (decide (0 < r.seq) && (decide (0 ≤ r.slot) && (decide (r.slot < 2) && (decide (0 < r.len) && decide (r.len ≤ 4096)))))) := rfl
 clear h
 go_enter Tryz.func12, Tryz.ntmps12
 go_upto_region 1 with (fail)
 generalize w.alloc (.cells (rcL r).toArray 34) = w1 at *
 obtain ⟨x0, x1, x2, x3⟩ := M.out.cells
 generalize r.seq = sq at *
 generalize r.slot = sl at *
 generalize r.len = ln at *
 by_cases c1 : 1 ≤ sq
 rotate_left 1
 ·have c1' : ¬ sq ≥ 1 := c1
  have e1 : decide (0 < sq) = false := decide_eq_false (by omega)
  go_wp2_with fail
  go_ret
  exact ⟨ret_boolC (by rw [HV.out]; simp [*]), B.out⟩
 have c1' : sq ≥ 1 := c1
 have e1 : decide (0 < sq) = true := decide_eq_true (by omega)
 by_cases c2 : 0 ≤ sl
 rotate_left 1
 ·have c2' : ¬ sl ≥ 0 := c2
  have e2 : decide (0 ≤ sl) = false := decide_eq_false c2
  go_wp2_with fail
  go_ret
  exact ⟨ret_boolC (by rw [HV.out]; simp [*]), B.out⟩
 have c2' : sl ≥ 0 := c2
 have e2 : decide (0 ≤ sl) = true := decide_eq_true c2
 by_cases c3 : sl < 2
 rotate_left 1
 ·have e3 : decide (sl < 2) = false := decide_eq_false c3
  go_wp2_with fail
  go_ret
  exact ⟨ret_boolC (by rw [HV.out]; simp [*]), B.out⟩
 have e3 : decide (sl < 2) = true := decide_eq_true c3
 by_cases c4 : 1 ≤ ln
 rotate_left 1
 ·have c4' : ¬ ln ≥ 1 := c4
  have e4 : decide (0 < ln) = false := decide_eq_false (by omega)
  go_wp2_with fail
  go_ret
  exact ⟨ret_boolC (by rw [HV.out]; simp [*]), B.out⟩
 have c4' : ln ≥ 1 := c4
 have e4 : decide (0 < ln) = true := decide_eq_true (by omega)
 by_cases c5 : ln ≤ 4096
 ·have e5 : decide (ln ≤ 4096) = true := decide_eq_true c5
  go_wp2_with fail
  go_ret
  exact ⟨ret_boolC (by rw [HV.out]; simp [*]), B.out⟩
 ·have e5 : decide (ln ≤ 4096) = false := decide_eq_false c5
  go_wp2_with fail
  go_ret
  exact ⟨ret_boolC (by rw [HV.out]; simp [*]), B.out⟩
theorem cPlace (r : Rcd) (w : World) (h : r.hash.length = 32) (h0 : 0 ≤ r.seq) : Calls Tryz.prog 45 #[.agg (rcL r).toArray] w fun e w' => e = .returned (.int .i64 (r.seq % 2)) ∧ Below w.heap.size w w' := by
 have B := qH ((Below.refl w.heap.size w).alloc (Nat.le_refl _) (.cells (rcL r).toArray 34))
 have M := qH (RB.new w h)
 clear h
 go_enter Tryz.func45, Tryz.ntmps45
 go_upto_region 1 with (fail)
 generalize w.alloc (.cells (rcL r).toArray 34) = w1 at *
 obtain ⟨x0, x1, x2, x3⟩ := M.out.cells
 have q1 := rem2 r.seq h0
 have q2 := rem2b r.seq h0
 have q3 := rem2c r.seq
 go_wp2_with fail
 go_ret
 exact ⟨by simp [q1, q2, q3], B.out⟩
theorem cSeal (r : Rcd) (w : World) (h : r.hash.length = 32) : Calls Tryz.prog 46 #[.agg (rcL r).toArray] w (RetB 5 w (cmSec r)) := by
 have B := qH ((Below.refl w.heap.size w).alloc (Nat.le_refl _) (.cells (rcL r).toArray 34))
 have M := qH (RB.new w h)
 have S32 := qH (tag_sizeL h)
 have HF : Hid (cmForm r = ((((([] ++ enc (u64N r.seq) 8) ++ [slotB r]) ++ enc (u64N r.len) 8) ++ [flagB r.trial]) ++ r.hash)) := by
  show _ = _
  simp only [cmForm, c5B, List.append_assoc, List.nil_append]
 have HL := qH (cmForm_len h)
 have HSC : Hid (cmSec r = frm 1 (cmForm r)) := rfl
 have HSL : Hid (IntKind.u8.wrap r.slot = ((slotB r).toNat : Int)) := by (show _ = _); rw [slotB_is, IntKind.wrap_u8]
 have HH := qH h
 clear h
 go_enter Tryz.func46, Tryz.ntmps46
 go_upto_region 1 with (fail)
 generalize w.alloc (.cells (rcL r).toArray 34) = w1 at *
 generalize hform : cmForm r = form at *
 generalize cmSec r = sec at *
 have X := qH M.out.cells
 have HSH := qH M.out.hash
 have HSL2 : Hid (r.slot % 256 = ((slotB r).toNat : Int)) := by (show _ = _); rw [slotB_is]
 have MC : Hid (∀ w', Below w1.heap.size w1 w' → w'.cell? ⟨w.heap.size, 0, none⟩ = some (.int .i64 r.seq) ∧ w'.cell? ⟨w.heap.size, 1, none⟩ = some (.int .i64 r.slot) ∧ w'.cell? ⟨w.heap.size, 2, none⟩ = some (.int .i64 r.len) ∧ w'.cell? ⟨w.heap.size, 3, none⟩ = some (.bool r.trial)) := fun w' hb => (M.out.to hb).cells
 have MH : Hid (∀ w', Below w1.heap.size w1 w' → w'.rangeAt w.heap.size 4 (r.hash.map bval)) := fun w' hb => (M.out.to hb).hash
 clear hform X HSH M
 generalize hsb : slotB r = sb at *
 generalize r.seq = sq at *
 generalize r.slot = sl at *
 generalize r.len = ln at *
 generalize r.trial = tr at *
 generalize r.hash = hs at *
 clear hsb
 obtain ⟨wd, hwd⟩ : ∃ x, w1.drew = x := ⟨_, rfl⟩
 have BS : Hid (Below w1.heap.size w1 wd) := by (show Below _ _ _); rw [← hwd]; exact (Below.refl _ _).drew
 have hu := Tryz.underlying32
 have hsl := HSL.out
 have hsl2 := HSL2.out
 refine wp_region_held_drew (S := (fun w' => Below w1.heap.size w1 w')) (by kernel_rfl) ((Below.refl _ _).drew) (fun hHeld => ?_)
 rw [hwd] at hHeld ⊢
 clear hwd hHeld
 have hHeld := BS.out
 refine tk 1 ?_
 simp only [pR]
 refine tk 4 ?_
 simp only [pR]
 refine tk 8 ?_
 simp only [pR]
 refine tk 11 ?_
 simp only [pR]
 refine tk 14 ?_
 simp only [pR]
 refine tw 2 rfl (by intro w hSw; (try dsimp only at hSw); (obtain ⟨x, -⟩ := MC.out _ hSw); clear hSw; go_simp; (try with_reducible rfl)) ?_
 simp only [pR]
 refine tw 5 rfl (by intro w hSw; (try dsimp only at hSw); (obtain ⟨-, x, -⟩ := MC.out _ hSw); clear hSw; go_simp; (try with_reducible rfl)) ?_
 simp only [pR]
 refine tw 9 rfl (by intro w hSw; (try dsimp only at hSw); (obtain ⟨-, -, x, -⟩ := MC.out _ hSw); clear hSw; go_simp; (try with_reducible rfl)) ?_
 simp only [pR]
 refine tw 12 rfl (by intro w hSw; (try dsimp only at hSw); (obtain ⟨-, -, -, x⟩ := MC.out _ hSw); clear hSw; go_simp; (try with_reducible rfl)) ?_
 simp only [pR]
 refine tk 6 ?_
 simp only [pR]
 refine tl 15 (.agg (List.toArray (hs.map bval))) rfl (yieldsIf_load_mid (by rfl) 32 _ rfl w.heap.size 4 rfl (hs.map bval) _ ((fun w' h => MH.out w' h)) hu rfl S32.out) ?_
 simp only [pR]
 (try rw [hsl])
 (try rw [hsl2])
 clear hHeld
 refine rd1 0 (fun K hK => ?_)
 go_simp
 refine (wNew wd).mono ?_
 rintro e w2 ⟨g, F, rfl, hwr, hF, hb⟩
 have W2 : Hid (WD w1 w2 g F []) := ⟨hwr, fun k hk => Nat.le_trans BS.out.size (hF k hk), BS.out.trans (hb.mono BS.out.size)⟩
 clear hwr hF hb
 go_wp2_with fail
 refine hK.out _ _ (W2.out.bel) (fun hHeld => ?_)
 clear hK K
 clear hHeld
 refine rd1 3 (fun K hK => ?_)
 go_simp
 refine (wInt g F [] false sq w2 W2.out.wr).mono ?_
 rintro e w3 ht
 obtain ⟨rfl, F3, hw⟩ := W2.out.ends (by simp [enc_len]) ht
 have W3 := qH hw
 clear ht hw
 go_wp2_with fail
 refine hK.out _ _ (W3.out.bel) (fun hHeld => ?_)
 clear hK K
 clear hHeld
 refine rd1 7 (fun K hK => ?_)
 go_simp
 refine (wByte g F3 _ false sb w3 W3.out.wr).mono ?_
 rintro e w4 ht
 obtain ⟨rfl, F4, hw⟩ := W3.out.ends (by simp [enc_len]) ht
 have W4 := qH hw
 clear ht hw
 go_wp2_with fail
 refine hK.out _ _ (W4.out.bel) (fun hHeld => ?_)
 clear hK K
 clear hHeld
 refine rd1 10 (fun K hK => ?_)
 go_simp
 refine (wInt g F4 _ false ln w4 W4.out.wr).mono ?_
 rintro e w5 ht
 obtain ⟨rfl, F5, hw⟩ := W4.out.ends (by simp [enc_len]) ht
 have W5 := qH hw
 clear ht hw
 go_wp2_with fail
 refine hK.out _ _ (W5.out.bel) (fun hHeld => ?_)
 clear hK K
 clear hHeld
 refine rd1 13 (fun K hK => ?_)
 go_simp
 refine (wFlag g F5 _ false tr w5 W5.out.wr).mono ?_
 rintro e w6 ht
 obtain ⟨rfl, F6, hw⟩ := W5.out.ends (by simp [enc_len]) ht
 have W6 := qH hw
 clear ht hw
 go_wp2_with fail
 refine hK.out _ _ (W6.out.bel) (fun hHeld => ?_)
 clear hK K
 clear hHeld
 refine rd1 16 (fun K hK => ?_)
 go_simp
 refine (wTag g F6 _ false hs w6 W6.out.wr HH.out).mono ?_
 rintro e w7 ht
 obtain ⟨rfl, F7, hw⟩ := W6.out.ends (by simp [enc_len, HH.out]) ht
 have W7 := qH hw
 clear ht hw
 go_wp2_with fail
 refine hK.out _ _ (W7.out.bel) (fun hHeld => ?_)
 clear hK K
 clear hHeld
 refine rd1 17 (fun K hK => ?_)
 go_simp
 refine (wDone g F7 _ false w7 W7.out.wr).mono ?_
 rintro e w8 ⟨A8, n8, c8, rfl, ho, h1, h2, hb⟩
 have O := qH ho.1
 have B8 := qH (W7.out.bel.trans (hb.mono W7.out.bel.size))
 clear ho h1 h2 hb
 go_wp2_with fail
 refine hK.out _ _ (B8.out) (fun hHeld => ?_)
 clear hK K
 clear hHeld
 refine tk 18 ?_
 simp only [pR]
 refine tk 19 ?_
 simp only [pR]
 refine tk 20 ?_
 simp only [pR]
 refine tk 21 ?_
 simp only [pR]
 refine tk 22 ?_
 simp only [pR]
 refine wpAnyH_done (by kernel_rfl) ?_ _
 have O2 : Hid (Rd w8 w8.heap.size A8 n8 form) := by
  show Rd _ _ _ _ _
  rw [HF.out]
  exact O.out
 clear O
 go_wp2_with fail
 refine (wSeal A8 n8 c8 1 form w8 O2.out (by have e1 := O2.out.1; have e2 := HL.out; omega)).mono ?_
 rintro e w9 ⟨A9, n9, c9, rfl, hown, hb⟩
 have BZ := qH (B.out.trans ((B8.out.trans (hb.mono B8.out.size)).mono B.out.size))
 have HO := qH (own_mono hown (Nat.le_trans B.out.size B8.out.size))
 rw [← HSC.out] at HO
 clear hown hb
 go_wp2_with fail
 go_ret
 exact RetB.mk HO.out BZ.out
end Go.Proofs.YtffdjnhhmfpkgaaGreat