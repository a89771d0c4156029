/- The laws' own back (citadellaw05), part three: text, anything else. -/
import Derived.Test.YtmhknpkiddgcpaaWireBack
namespace Go.Proofs.Ytmhknpkiddgcpaa
open Go.RowKit
set_option linter.unusedVariables false
set_option linter.unusedSimpArgs false

set_option maxRecDepth 1000000 in
set_option maxHeartbeats 1000000 in
theorem rBack4 (g : Nat) (F : Nat → Prop) (s : RS) (w : World) (h : PrAt w g F s) :
    Calls Try.prog 37 #[.pointer (some ⟨g, 0, none⟩), .int .i64 4] w (BackR w g F s 4) := by
  have hz := tag_zero
  have hzf := fld_zero
  obtain ⟨w0, w1, hpre⟩ := backPre g F s 4 w h
  have HW := Lib.hid hpre.hw
  have HW0 := Lib.hid hpre.hw0
  have G0 := Lib.hid hpre.g0
  have HF := Lib.hid hpre.hF
  have F1 := Lib.hid hpre.f1
  have Z1 := Lib.hid hpre.z1
  have B1 := Lib.hid hpre.b1
  have S1 := Lib.hid hpre.s1
  have H := Lib.hid hpre.h1
  have SZ : Hid (zeroF.size = 37) := rfl
  have SF : Hid (∀ (f : Fld) (A : Option Addr) (m c : Nat), f.t.length = 32 → (Try.prog.info? 31).map (·.size) = some (fldL f A m c).toArray.size) := fun f A m c h => FB.size h A m c
  clear hpre h
  go_enter Try.func37, Try.ntmps37
  go_wp2_with (refine wpList_store_row rfl 31 _ _ rfl (w.heap.size + 1) (fldL ⟨4, 0, 0, false, [], zeros32⟩ none 0 0).toArray rfl rfl 31 zeroF (by rw [HW0.out]; exact G0.out) (SF.out _ _ _ _ rfl) (by rw [SZ.out, List.size_toArray, fldL_len rfl]) (fld_one _ _ _ _) ?_; rw [HW0.out, HW.out])
  refine (pText g F s w1 H.out).mono ?_
  have EF := Lib.hid (backF4 s)
  have HXL : Hid ((bytesV s).length ≤ 65536) := bytesV_len s
  obtain ⟨x, hx⟩ : ∃ x, bytesV s = x := ⟨_, rfl⟩
  rw [hx] at EF HXL
  rw [hx]
  clear hx
  rintro e w2 ⟨rfl, F', hp, hs, hk⟩
  have kc := Lib.run_convert_string_bytes (P := Try.prog) w2 9 26 5 (strB x) Try.underlying9 Try.underlying26 Try.underlying5
  have hsz : (strB x).size = x.length := strB_size x
  have hg1 := grownCap_ge w2 (strB x).size 0 5
  have hg2 := grownCap_le_maxLen w2 (strB x).size 0 5 (by unfold maxLen; have := HXL.out; omega)
  obtain ⟨c0, hc0⟩ : ∃ c0, grownCap w2 (strB x).size 0 5 = c0 := ⟨_, rfl⟩
  rw [hc0] at kc hg1 hg2
  have l0 := rd_bytesWorld w2 5 (strB x)
  have hb0 := Go.Joins.below_bytesWorld w2.heap.size w2 5 (strB x) (Nat.le_refl _)
  have hd : (strB x).data.toList = x := by simp [strB]
  rw [hd] at l0
  rw [hsz] at kc l0 hg1
  obtain ⟨bn, hbn⟩ : ∃ n, x.length = n := ⟨_, rfl⟩
  rw [hbn] at kc l0 hg1
  have hlt := hp.lt
  have hwl := hk.size
  obtain ⟨wb, hwb⟩ : ∃ wb, Lib.bytesWorld w2 5 (strB x) = wb := ⟨_, rfl⟩
  rw [hwb] at kc l0 hb0
  have HO : Hid (Off (some ⟨w2.heap.size, 0, none⟩) bn F') := fun _ b o e hf => by
    injection e with e; injection e with e1 _
    have := hlt _ hf; omega
  have HO2 : Hid (Off (some ⟨w2.heap.size, 0, none⟩) bn (· < w.heap.size + 2)) := fun _ b o e (hf : b < w.heap.size + 2) => by
    injection e with e; injection e with e1 _
    rw [S1.out] at hwl; omega
  have HMC := Lib.hid hg1
  have HCC : Hid (c0 ≤ 9223372036854775807) := by (show _ ≤ _); unfold maxLen at hg2; omega
  have HRR := Lib.hid l0
  replace hp := hp.to hb0
  have hk0 := hk
  replace hk := hk.trans (Keep.of_below hb0)
  have F2a : Hid (FB w2 (w.heap.size + 1) ⟨4, 0, 0, false, [], zeros32⟩ none 0 0) := F1.out.kept hk0 (fun h => absurd (HF.out _ h) (by omega))
  have Z2a : Hid (FB w2 w.heap.size ⟨0, 0, 0, false, [], zeros32⟩ none 0 0) := Z1.out.kept hk0 (fun h => absurd (HF.out _ h) (by omega))
  have HP := Lib.hid hp
  have HS : Hid (∀ k, F' k → F k ∨ w.heap.size + 2 ≤ k) := fun k h => by rw [← S1.out]; exact hs k h
  have HK : Hid (Keep F w wb) := (Keep.of_below B1.out).trans hk
  have F2 := Lib.hid (F2a.out.below hb0)
  have Z2 := Lib.hid (Z2a.out.below hb0)
  clear hc0 hg1 hg2 l0 hb0 hd hsz hbn hwb hlt hwl HXL F2a Z2a hp hs hk hk0 HW F1 Z1 H
  obtain ⟨hcl, hfr⟩ := F2.out.at (j := 4) rfl
  have F3 := Lib.hid (F2.out.set4 (A' := some ⟨w2.heap.size, 0, none⟩) (m' := bn) (c' := c0) x)
  have K3 : Hid (Keep (· = w.heap.size + 1) wb (wb.setCell ⟨w.heap.size + 1, 4, none⟩ (.slice (some ⟨w2.heap.size, 0, none⟩) bn c0))) := (Keep.refl (· = w.heap.size + 1) wb).setCell ⟨w.heap.size + 1, 4, none⟩ _ rfl
  have Z3 := Lib.hid (Z2.out.kept K3.out (by omega))
  have ES := Lib.hid (backS4 s)
  have HTT : Hid ((zeros32 : List UInt8).length = 32) := rfl
  clear Z2 F2
  go_wp2_with (first | (refine wpList_load_row rfl 31 _ rfl (w.heap.size + 1) rfl 31 _ (0, 0) _ F3.out Try.underlying31 rfl (SF.out _ _ _ _ HTT.out) ?_) | (refine wpList_store_row rfl 31 _ _ rfl w.heap.size _ rfl rfl 31 _ Z3.out (SF.out _ _ _ _ HTT.out) (by rw [List.size_toArray, List.size_toArray, fldL_len HTT.out, fldL_len (show (zeros32 : List UInt8).length = 32 from rfl)]) (fld_one _ _ _ _) ?_))
  (try simp only [Exit.inBlock, Exit.then])
  refine bodyPost_ret ?_ rfl (back_end (w2 := wb) _ HF.out HP.out HS.out HK.out K3.out EF.out ES.out HRR.out HO.out HO2.out HMC.out HCC.out)
  exact results_cell_row rfl _ _ w.heap.size 31 _ (0, 0) _ rfl (setRow_heap _ _ _ _ _ _ Z3.out) Try.underlying31 rfl (SF.out _ _ _ _ HTT.out)
set_option maxRecDepth 1000000 in
set_option maxHeartbeats 1000000 in
theorem rBackN (g : Nat) (F : Nat → Prop) (s : RS) (w : World) (what : Int) (h : PrAt w g F s) (c0 : what ≠ 0) (c1 : what ≠ 1) (c2 : what ≠ 2) (c3 : what ≠ 3) (c4 : what ≠ 4) (c5 : what ≠ 5) :
    Calls Try.prog 37 #[.pointer (some ⟨g, 0, none⟩), .int .i64 what] w (BackR w g F s what) := by
  have hz := tag_zero
  have hzf := fld_zero
  obtain ⟨w0, w1, hpre⟩ := backPre g F s what w h
  have HW := Lib.hid hpre.hw
  have HW0 := Lib.hid hpre.hw0
  have G0 := Lib.hid hpre.g0
  have HF := Lib.hid hpre.hF
  have F1 := Lib.hid hpre.f1
  have Z1 := Lib.hid hpre.z1
  have B1 := Lib.hid hpre.b1
  have S1 := Lib.hid hpre.s1
  have H := Lib.hid hpre.h1
  have SZ : Hid (zeroF.size = 37) := rfl
  have SF : Hid (∀ (f : Fld) (A : Option Addr) (m c : Nat), f.t.length = 32 → (Try.prog.info? 31).map (·.size) = some (fldL f A m c).toArray.size) := fun f A m c h => FB.size h A m c
  clear hpre h
  go_enter Try.func37, Try.ntmps37
  have EF := Lib.hid (backFn s c0 c1 c2 c3 c4 c5)
  have ES := Lib.hid (backSn s c0 c1 c2 c3 c4 c5)
  have F' := F
  obtain ⟨w2, hw2⟩ : ∃ w2, w2 = w1 := ⟨_, rfl⟩
  rw [← hw2] at HW F1 Z1 B1 S1 H
  clear hw2
  have HP : Hid (PrAt w2 g F s) := H.out
  have HS : Hid (∀ k, F k → F k ∨ w.heap.size + 2 ≤ k) := fun k h => .inl h
  have HK : Hid (Keep F w w2) := Keep.of_below B1.out
  have F3 := F1
  have K3 : Hid (Keep (· = w.heap.size + 1) w2 w2) := Keep.refl _ w2
  have Z3 := Z1
  have HTT : Hid ((zeros32 : List UInt8).length = 32) := rfl
  have HRR : Hid (Rd w2 w2.heap.size none 0 []) := Rd.nil _ _ _
  have HO : Hid (Off none 0 F) := fun h => absurd h (Nat.lt_irrefl 0)
  have HO2 : Hid (Off none 0 (· < w.heap.size + 2)) := fun h => absurd h (Nat.lt_irrefl 0)
  have HMC : Hid (0 ≤ 0) := Nat.le_refl 0
  have HCC : Hid (0 ≤ 9223372036854775807) := Nat.zero_le _
  clear F1 Z1 H B1 S1
  go_wp2_with (first | (refine wpList_store_row rfl 31 _ _ rfl (w.heap.size + 1) (fldL ⟨what, 0, 0, false, [], zeros32⟩ none 0 0).toArray rfl rfl 31 zeroF (by rw [HW0.out]; exact G0.out) (SF.out _ _ _ _ rfl) (by rw [SZ.out, List.size_toArray, fldL_len rfl]) (fld_one _ _ _ _) ?_; rw [HW0.out, HW.out]) | (refine wpList_load_row rfl 31 _ rfl (w.heap.size + 1) rfl 31 _ (0, 0) _ F3.out Try.underlying31 rfl (SF.out _ _ _ _ HTT.out) ?_) | (refine wpList_store_row rfl 31 _ _ rfl w.heap.size _ rfl rfl 31 _ Z3.out (SF.out _ _ _ _ HTT.out) (by rw [List.size_toArray, List.size_toArray, fldL_len HTT.out, fldL_len (show (zeros32 : List UInt8).length = 32 from rfl)]) (fld_one _ _ _ _) ?_))
  (try simp only [Exit.inBlock, Exit.then])
  refine bodyPost_ret ?_ rfl (back_end (w2 := w2) _ HF.out HP.out HS.out HK.out K3.out EF.out ES.out HRR.out HO.out HO2.out HMC.out HCC.out)
  exact results_cell_row rfl _ _ w.heap.size 31 _ (0, 0) _ rfl (setRow_heap _ _ _ _ _ _ Z3.out) Try.underlying31 rfl (SF.out _ _ _ _ HTT.out)
end Go.Proofs.Ytmhknpkiddgcpaa
