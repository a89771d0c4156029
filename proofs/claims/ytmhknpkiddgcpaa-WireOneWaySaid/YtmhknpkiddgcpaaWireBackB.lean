/- The laws' own back (citadellaw05), part two: bytes, text, a tag, anything else. -/
import Derived.Test.YtmhknpkiddgcpaaWireBack
namespace Go.Proofs.Ytmhknpkiddgcpaa
open Go.RowKit
set_option linter.unusedVariables false
set_option linter.unusedSimpArgs false

set_option maxRecDepth 1000000 in
set_option maxHeartbeats 1000000 in
theorem rBack3 (g : Nat) (F : Nat → Prop) (s : RS) (w : World) (h : PrAt w g F s) :
    Calls Try.prog 37 #[.pointer (some ⟨g, 0, none⟩), .int .i64 3] w (BackR w g F s 3) := by
  have hz := tag_zero
  have hzf := fld_zero
  obtain ⟨w0, w1, hpre⟩ := backPre g F s 3 w h
  have HW := Lib.hid hpre.hw
  have HW0 := Lib.hid hpre.hw0
  have G0 := Lib.hid hpre.g0
  have HF := Lib.hid hpre.hF
  have F1 := Lib.hid hpre.f1
  have Z1 := Lib.hid hpre.z1
  have B1 := Lib.hid hpre.b1
  have S1 := Lib.hid hpre.s1
  have H := Lib.hid hpre.h1
  have SZ : Hid (zeroF.size = 37) := rfl
  have SF : Hid (∀ (f : Fld) (A : Option Addr) (m c : Nat), f.t.length = 32 → (Try.prog.info? 31).map (·.size) = some (fldL f A m c).toArray.size) := fun f A m c h => FB.size h A m c
  clear hpre h
  go_enter Try.func37, Try.ntmps37
  go_wp2_with (refine wpList_store_row rfl 31 _ _ rfl (w.heap.size + 1) (fldL ⟨3, 0, 0, false, [], zeros32⟩ none 0 0).toArray rfl rfl 31 zeroF (by rw [HW0.out]; exact G0.out) (SF.out _ _ _ _ rfl) (by rw [SZ.out, List.size_toArray, fldL_len rfl]) (fld_one _ _ _ _) ?_; rw [HW0.out, HW.out])
  refine (pBytes g F s w1 H.out).mono ?_
  have EF := Lib.hid (backF3 s)
  obtain ⟨x, hx⟩ : ∃ x, bytesV s = x := ⟨_, rfl⟩
  rw [hx] at EF
  rw [hx]
  clear hx
  rintro e w2 ⟨A, m, c, F', rfl, ho, hmc, hcc, hp, hoff, hs, hk⟩
  have HRR : Hid (Rd w2 w2.heap.size A m x) := ho.1
  have HO : Hid (Off A m F') := hoff
  have HO2 : Hid (Off A m (· < w.heap.size + 2)) := ho.off (fun k h => by have h : k < w.heap.size + 2 := h; rw [S1.out]; exact h)
  have HMC := Lib.hid hmc
  have HCC := Lib.hid hcc
  clear ho hoff
  have HP := Lib.hid hp
  have HS : Hid (∀ k, F' k → F k ∨ w.heap.size + 2 ≤ k) := fun k h => by rw [← S1.out]; exact hs k h
  have HK : Hid (Keep F w w2) := (Keep.of_below B1.out).trans hk
  have F2 : Hid (FB w2 (w.heap.size + 1) ⟨3, 0, 0, false, [], zeros32⟩ none 0 0) := F1.out.kept hk (fun h => absurd (HF.out _ h) (by omega))
  have Z2 : Hid (FB w2 w.heap.size ⟨0, 0, 0, false, [], zeros32⟩ none 0 0) := Z1.out.kept hk (fun h => absurd (HF.out _ h) (by omega))
  clear hp hs hk HW F1 Z1 H
  obtain ⟨hcl, hfr⟩ := F2.out.at (j := 4) rfl
  have F3 := Lib.hid (F2.out.set4 (A' := A) (m' := m) (c' := c) x)
  have K3 : Hid (Keep (· = w.heap.size + 1) w2 (w2.setCell ⟨w.heap.size + 1, 4, none⟩ (.slice A m c))) := (Keep.refl (· = w.heap.size + 1) w2).setCell ⟨w.heap.size + 1, 4, none⟩ _ rfl
  have Z3 := Lib.hid (Z2.out.kept K3.out (by omega))
  have ES := Lib.hid (backS3 s)
  have HTT : Hid ((zeros32 : List UInt8).length = 32) := rfl
  clear Z2 F2
  go_wp2_with (first | (refine wpList_load_row rfl 31 _ rfl (w.heap.size + 1) rfl 31 _ (0, 0) _ F3.out Try.underlying31 rfl (SF.out _ _ _ _ HTT.out) ?_) | (refine wpList_store_row rfl 31 _ _ rfl w.heap.size _ rfl rfl 31 _ Z3.out (SF.out _ _ _ _ HTT.out) (by rw [List.size_toArray, List.size_toArray, fldL_len HTT.out, fldL_len (show (zeros32 : List UInt8).length = 32 from rfl)]) (fld_one _ _ _ _) ?_))
  (try simp only [Exit.inBlock, Exit.then])
  refine bodyPost_ret ?_ rfl (back_end (w2 := w2) _ HF.out HP.out HS.out HK.out K3.out EF.out ES.out HRR.out HO.out HO2.out HMC.out HCC.out)
  exact results_cell_row rfl _ _ w.heap.size 31 _ (0, 0) _ rfl (setRow_heap _ _ _ _ _ _ Z3.out) Try.underlying31 rfl (SF.out _ _ _ _ HTT.out)
set_option maxRecDepth 1000000 in
set_option maxHeartbeats 1000000 in
theorem rBack5 (g : Nat) (F : Nat → Prop) (s : RS) (w : World) (h : PrAt w g F s) :
    Calls Try.prog 37 #[.pointer (some ⟨g, 0, none⟩), .int .i64 5] w (BackR w g F s 5) := by
  have hz := tag_zero
  have hzf := fld_zero
  obtain ⟨w0, w1, hpre⟩ := backPre g F s 5 w h
  have HW := Lib.hid hpre.hw
  have HW0 := Lib.hid hpre.hw0
  have G0 := Lib.hid hpre.g0
  have HF := Lib.hid hpre.hF
  have F1 := Lib.hid hpre.f1
  have Z1 := Lib.hid hpre.z1
  have B1 := Lib.hid hpre.b1
  have S1 := Lib.hid hpre.s1
  have H := Lib.hid hpre.h1
  have SZ : Hid (zeroF.size = 37) := rfl
  have SF : Hid (∀ (f : Fld) (A : Option Addr) (m c : Nat), f.t.length = 32 → (Try.prog.info? 31).map (·.size) = some (fldL f A m c).toArray.size) := fun f A m c h => FB.size h A m c
  clear hpre h
  go_enter Try.func37, Try.ntmps37
  go_wp2_with (refine wpList_store_row rfl 31 _ _ rfl (w.heap.size + 1) (fldL ⟨5, 0, 0, false, [], zeros32⟩ none 0 0).toArray rfl rfl 31 zeroF (by rw [HW0.out]; exact G0.out) (SF.out _ _ _ _ rfl) (by rw [SZ.out, List.size_toArray, fldL_len rfl]) (fld_one _ _ _ _) ?_; rw [HW0.out, HW.out])
  refine (pTag g F s w1 H.out).mono ?_
  have EF := Lib.hid (backF5 s)
  have hTL := Lib.hid (tagV_len s)
  obtain ⟨x, hx⟩ : ∃ x, tagV s = x := ⟨_, rfl⟩
  rw [hx] at EF hTL
  rw [hx]
  clear hx
  have HTT := hTL
  rintro e w2 ⟨rfl, F', hp, hs, hk⟩
  have HP := Lib.hid hp
  have HS : Hid (∀ k, F' k → F k ∨ w.heap.size + 2 ≤ k) := fun k h => by rw [← S1.out]; exact hs k h
  have HK : Hid (Keep F w w2) := (Keep.of_below B1.out).trans hk
  have F2 : Hid (FB w2 (w.heap.size + 1) ⟨5, 0, 0, false, [], zeros32⟩ none 0 0) := F1.out.kept hk (fun h => absurd (HF.out _ h) (by omega))
  have Z2 : Hid (FB w2 w.heap.size ⟨0, 0, 0, false, [], zeros32⟩ none 0 0) := Z1.out.kept hk (fun h => absurd (HF.out _ h) (by omega))
  clear hp hs hk HW F1 Z1 H
  have hth := F2.out.there (show (zeros32 : List UInt8).length = 32 from rfl)
  have F3 := Lib.hid (F2.out.set5 (show (zeros32 : List UInt8).length = 32 from rfl) hTL.out)
  have K3 : Hid (Keep (· = w.heap.size + 1) w2 (w2.setCells (w.heap.size + 1) 5 (arrB x).toList)) := keep_setCells (R := (· = w.heap.size + 1)) (Keep.refl _ w2) (w.heap.size + 1) 5 _ rfl
  have Z3 := Lib.hid (Z2.out.kept K3.out (by omega))
  have ES := Lib.hid (backS5 s)
  have ST := Lib.hid (tag_size hTL.out)
  have hth' : Hid (w2.there (w.heap.size + 1) 5 (arrB x).size) := by (show World.there _ _ _ _); rw [arrB_size, hTL.out]; exact hth
  have HRR : Hid (Rd w2 w2.heap.size none 0 []) := Rd.nil _ _ _
  have HO : Hid (Off none 0 F') := fun h => absurd h (Nat.lt_irrefl 0)
  have HO2 : Hid (Off none 0 (· < w.heap.size + 2)) := fun h => absurd h (Nat.lt_irrefl 0)
  have HMC : Hid (0 ≤ 0) := Nat.le_refl 0
  have HCC : Hid (0 ≤ 9223372036854775807) := Nat.zero_le _
  clear Z2 F2 hth
  go_wp2_with (first | (refine wpList_store_mid rfl 29 _ _ rfl (w.heap.size + 1) 5 (arrB x) rfl rfl hth'.out ST.out (arrB_one _) ?_) | (refine wpList_load_row rfl 31 _ rfl (w.heap.size + 1) rfl 31 _ (0, 0) _ F3.out Try.underlying31 rfl (SF.out _ _ _ _ HTT.out) ?_) | (refine wpList_store_row rfl 31 _ _ rfl w.heap.size _ rfl rfl 31 _ Z3.out (SF.out _ _ _ _ HTT.out) (by rw [List.size_toArray, List.size_toArray, fldL_len (show (⟨0, 0, 0, false, [], zeros32⟩ : Fld).t.length = 32 from rfl), fldL_len (show ({ (⟨5, 0, 0, false, [], zeros32⟩ : Fld) with t := x }).t.length = 32 from HTT.out)]) (fld_one _ _ _ _) ?_))
  (try simp only [Exit.inBlock, Exit.then])
  refine bodyPost_ret ?_ rfl (back_end (w2 := w2) _ HF.out HP.out HS.out HK.out K3.out EF.out ES.out HRR.out HO.out HO2.out HMC.out HCC.out)
  exact results_cell_row rfl _ _ w.heap.size 31 _ (0, 0) _ rfl (setRow_heap _ _ _ _ _ _ Z3.out) Try.underlying31 rfl (SF.out _ _ _ _ HTT.out)
end Go.Proofs.Ytmhknpkiddgcpaa
