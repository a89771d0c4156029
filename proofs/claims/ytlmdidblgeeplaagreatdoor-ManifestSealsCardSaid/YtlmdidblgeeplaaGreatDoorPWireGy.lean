/- Several texts in one (a claim has 60 files at most): WireG. -/
import Derived.Test.YtlmdidblgeeplaaGreatDoorTz
import Derived.Test.YtlmdidblgeeplaaGreatDoorPWireNx
import Derived.Laws.Cover3
namespace Go.Proofs.YtlmdidblgeeplaaGreatDoor
set_option maxRecDepth 1000000
set_option maxHeartbeats 8000000
set_option linter.unusedVariables false
set_option linter.unusedSimpArgs false
section
open Go.RowKit
theorem Rd.range {w : World} {B n b o : Nat} {bs : List UInt8} (h : Rd w B (some ⟨b, o, none⟩) n bs) : w.rangeAt b o (bs.map bval) := fun j v hv => by
 have hj : j < bs.length := by
  rcases Nat.lt_or_ge j bs.length with g | g
  ·exact g
  ·rw [List.getElem?_eq_none (by simpa using g)] at hv; cases hv
 rw [h.at (by rw [← h.1]; exact hj)]
 rw [List.getElem?_map, List.getElem?_eq_getElem hj] at hv
 rw [nth_of_lt hj, ← hv]; rfl
theorem vTag (A : Option Addr) (c : Nat) (bs : List UInt8) (w : World) (ha : Rd w w.heap.size A 32 bs) : Calls Tryz.prog 94 #[.slice A 32 c] w fun e w' => e = .returned (.agg (arrB bs)) ∧ Below w.heap.size w w' := by
 have hz := tag_zero
 have hl := ha.1
 obtain ⟨b, o, rfl, hb, _⟩ := ha.2 (by decide)
 have hap : ∀ w : World, (Instr.arrayAt 23 (.slice (some ⟨b, o, none⟩) 32 c)).run Tryz.prog w = .ok (.pointer (some ⟨b, o, none⟩)) w := fun w => run_arrayAt w 23 5 32 _ 32 c Tryz.underlying23 (Nat.le_refl 32)
 have hrg : (w.alloc (.cells (arrB zeros32) 23)).rangeAt b o (bs.map bval) := rangeAt_below ha.range ((Below.refl _ _).alloc (Nat.le_refl _) _) hb
 have hu := Tryz.underlying23
 have S1 := qH (tag_size hl)
 have S5 := qH (show (Tryz.prog.info? 23).map (·.size) = some (bs.map bval).length by rw [List.length_map, hl]; exact (zero_of_info tag_info).2)
 have E1 : Hid ((arrB zeros32).size = (arrB bs).size) := by
  show _ = _
  rw [arrB_size, arrB_size, hl]; rfl
 have HRG := qH hrg
 clear ha hl hb hrg
 go_enter Tryz.func94, Tryz.ntmps94
 go_wp2_with (first | (refine wpList_load_mid rfl 23 _ rfl b o rfl (bs.map bval) _ HRG.out hu rfl S5.out ?_) | (refine wpList_store_row rfl 23 _ _ rfl w.heap.size (arrB bs) rfl rfl 23 (arrB zeros32) (heap_alloc_last w _) S1.out E1.out (arrB_one _) ?_; rw [World.setRow_alloc_new]))
 (try simp only [Exit.inBlock, Exit.then])
 refine bodyPost_ret (v := .agg (arrB bs)) ?_ rfl ⟨rfl, (Below.refl _ _).alloc (Nat.le_refl _) _⟩
 exact results_cell_row rfl _ _ w.heap.size 23 (arrB bs) (0, 0) _ rfl (heap_alloc_last w _) Tryz.underlying23 rfl S1.out
theorem tagV_no {s : RS} (h : s.e ≠ 0 ∨ s.rest.length < 32) : tagV s = zeros32 := by
 unfold tagV RS.ok
 rw [if_neg]
 rcases h with h | h
 ·simp [h]
 ·simp; omega
theorem tagV_yes {s : RS} (he : s.e = 0) (h : 32 ≤ s.rest.length) : tagV s = s.rest.take 32 := by
 unfold tagV RS.ok
 rw [decide_eq_true he, decide_eq_true h]; rfl
theorem PrAt.setRow {w : World} {g gt : Nat} {F : Nat → Prop} {s : RS} (h : PrAt w g F s) (hn : ¬ F gt) (cs : Array Value) : PrAt (w.setRow gt cs) g F s :=
 h.kept (R := (· = gt)) ⟨rfl, rfl, rfl, by rw [setRow_size]; exact Nat.le_refl _, fun k hk hr => setRow_other w _ k _ (fun h => hr h)⟩ (fun k hk e => hn (e ▸ hk))
theorem keep_setRowG {R : Nat → Prop} {a w : World} {gt : Nat} (h : Keep R a w) (hg : a.heap.size ≤ gt) (cs : Array Value) : Keep R a (w.setRow gt cs) :=
 h.new ⟨rfl, rfl, rfl, by rw [setRow_size]; exact Nat.le_refl _, fun k hk hr => setRow_other w _ k _ (fun h => hr (.inr (by omega)))⟩
theorem tkTag (g : Nat) (F : Nat → Prop) (s : RS) (h : Nat) (w : World) (hp : PrAt w g F s) (hc : w.cell? ⟨h, 0, none⟩ = some (.int .i64 32)) (hh : h < w.heap.size) :
  Calls Tryz.prog 93 #[.pointer (some ⟨g, 0, none⟩), .func (.func 153) #[] #[.pointer (some ⟨h, 0, none⟩)], .func (.func 94) #[] #[]] w fun e w' => e = .returned (.agg (arrB (tagV s))) ∧ PrTo w g F (s.next 32) w' := by
 have hz := tag_zero
 have h2 := two_tags w zeros32 rfl
 have T0 := qH h2.1
 have T1 := qH h2.2
 have hb2 : Below w.heap.size w ((w.alloc (.cells (arrB zeros32) 23)).alloc (.cells (arrB zeros32) 23)) := ((Below.refl _ _).alloc (Nat.le_refl _) _).alloc (by simp) _
 have HP := qH (hp.to hb2)
 have HC : Hid (((w.alloc (.cells (arrB zeros32) 23)).alloc (.cells (arrB zeros32) 23)).cell? ⟨h, 0, none⟩ = some (.int .i64 32)) := (hb2.cell hh).trans hc
 have B := qH hb2
 have HNF : Hid (¬ F w.heap.size) := fun hf => absurd (hp.lt _ hf) (Nat.lt_irrefl _)
 have HNF1 : Hid (¬ F (w.heap.size + 1)) := fun hf => by have := hp.lt _ hf; omega
 have HLT2 : Hid (h < ((w.alloc (.cells (arrB zeros32) 23)).alloc (.cells (arrB zeros32) 23)).heap.size) := by (show _ < _); simp; omega
 have SZ : Hid ((Tryz.prog.info? 23).map (·.size) = some (arrB zeros32).size) := tag_size rfl
 clear hp hc hh h2 hb2
 go_enter Tryz.func93, Tryz.ntmps93
 go_wp2_with fail
 clear hz
 generalize ((w.alloc (.cells (arrB zeros32) 23)).alloc (.cells (arrB zeros32) 23)) = w0 at *
 have hpe := HP.out.err
 have HE := qH hpe
 clear hpe
 refine (HE.out).mono ?_
 rintro e w1 ⟨rfl, rfl⟩
 by_cases he : s.e = 0
 ·obtain ⟨A, n, c, bs, h1, h2, h3, h4, h5, hnc, hcc, h8, h9, h10⟩ := HP.out
  obtain rfl := h9 he
  have HB := qH h1
  have HR := qH h2
  have HFG := qH h3
  have HBL := qH h4
  have HLT := qH h5
  have HLEN := qH h2.1
  have HGL := qH (heap_at_lt h1)
  have HE0 := qH he
  obtain ⟨x0, x1, x2, y0, y1, y2⟩ := cells3 h1
  have he' : ((s.e : Nat) : Int) = 0 := by omega
  rw [he] at HB x2
  have HOFF : Hid (Off A n (· = g)) := fun hn b o e h => by
   obtain ⟨b', o', e', _, hne⟩ := h4 hn
   rw [e] at e'
   injection e' with e'; injection e' with e1 _
   exact hne (e1.symm.trans h)
  have hci := fun args w => call_enter Tryz.func153 (by kernel_rfl) rfl args w
  have hcj := fun args w => call_enter Tryz.func94 (by kernel_rfl) rfl args w
  clear h1 h2 h3 h4 h5 h9 h10 he HE
  go_wp2_with fail
  refine (wAlways1 _ h 32 _ HC.out).mono ?_
  rintro e w1 ⟨rfl, rfl⟩
  by_cases hbig : (32 : Int) > (n : Int)
  ·have HL32 : Hid (s.rest.length < 32) := by (show _ < _); rw [HLEN.out]; omega
   have HV : Hid (tagV s = zeros32) := tagV_no (.inr HL32.out)
   have HN : Hid (s.next 32 = ⟨s.rest, 50⟩) := next_no HE0.out HL32.out
   have HB1 := qH (set3_1 (v := .slice none 0 0) HB.out)
   have HB2 := qH (set3_2 (v := .int .i64 50) HB1.out)
   have HK : Hid (Keep F w0 ((w0.setCell ⟨g, 1, none⟩ (.slice none 0 0)).setCell ⟨g, 2, none⟩ (.int .i64 50))) := ((Keep.refl F w0).setCell _ _ HFG.out).setCell _ _ HFG.out
   have HKg : Hid (Keep (· = g) w0 ((w0.setCell ⟨g, 1, none⟩ (.slice none 0 0)).setCell ⟨g, 2, none⟩ (.int .i64 50))) := ((Keep.refl (· = g) w0).setCell ⟨g, 1, none⟩ _ rfl).setCell ⟨g, 2, none⟩ _ rfl
   have TY := qH (tag_kept T0.out HKg.out (fun e => HNF.out (e ▸ HFG.out)))
   have TZ := qH (tag_kept T1.out HKg.out (fun e => HNF1.out (e ▸ HFG.out)))
   have HPR : Hid (PrAt ((w0.setCell ⟨g, 1, none⟩ (.slice none 0 0)).setCell ⟨g, 2, none⟩ (.int .i64 50)) g F ⟨s.rest, 50⟩) := ⟨none, 0, 0, [], HB2.out, Rd.nil _ _ _, HFG.out, fun h => absurd h (Nat.lt_irrefl 0), fun k hk => by simpa using HLT.out k hk, by decide, by decide, by decide, fun h => by simp at h, Nat.le_refl 50⟩
   go_wp2_with (first | (refine wpList_load_row rfl 23 _ rfl (w.heap.size + 1) rfl 23 (arrB zeros32) (0, 0) _ TZ.out.2 Tryz.underlying23 rfl SZ.out ?_) | (refine wpList_store_row rfl 23 _ _ rfl w.heap.size (arrB zeros32) rfl rfl 23 (arrB zeros32) TY.out.2 SZ.out rfl (arrB_one _) ?_))
   (try simp only [Exit.inBlock, Exit.then])
   refine bodyPost_ret (v := .agg (arrB zeros32)) ?_ rfl ⟨by rw [HV.out], ?_⟩
   ·exact results_cell_row rfl _ _ w.heap.size 23 (arrB zeros32) (0, 0) _ rfl (setRow_heap _ _ _ _ _ _ TY.out.2) Tryz.underlying23 rfl SZ.out
   ·rw [HN.out]
    exact ⟨F, HPR.out.setRow HNF.out _, fun k h => .inl h, keep_setRowG ((Keep.of_below B.out).trans HK.out) (Nat.le_refl _) _⟩
  ·have h32n : 32 ≤ n := by omega
   have HL32 : Hid (32 ≤ s.rest.length) := by (show _ ≤ _); rw [HLEN.out]; omega
   have HV : Hid (tagV s = s.rest.take 32) := tagV_yes HE0.out HL32.out
   have HN : Hid (s.next 32 = ⟨s.rest.drop 32, 0⟩) := next_yes HE0.out HL32.out
   have hsl0 := slice_hh isU8 A (h := 32) h32n hnc
   have hsl : ∀ (w : World), (Instr.slice 31 (.slice A n c) none (some (.int .i64 32)) (some (.int .i64 32))).run Tryz.prog w = .ok (.slice A 32 32) w := fun w => hsl0 .i64 .i64 w
   obtain ⟨A2, c2, hsl20, hrd2, hc2, hc2', hbk2⟩ := slice_lb isU8 A (l := 32) h32n hnc
   obtain ⟨n2, hn2⟩ : ∃ k, n - 32 = k := ⟨_, rfl⟩
   rw [hn2] at hsl20 hrd2 hc2
   have hsl2 : ∀ (w : World), (Instr.slice 31 (.slice A n c) (some (.int .i64 32)) none none).run Tryz.prog w = .ok (.slice A2 n2 c2) w := fun w => hsl20 .i64 w
   have HR2 := qH (hrd2 _ _ _ HR.out)
   have HRF := qH (HR.out.front h32n)
   have HSUB : Hid (0 < n2 → ∃ b o, A2 = some ⟨b, o, none⟩ ∧ F b ∧ b ≠ g) := fun h0 => by
    obtain ⟨b, o, e, hF, hne⟩ := HBL.out (by omega)
    obtain ⟨o', e'⟩ := hbk2 b o e
    exact ⟨b, o', e', hF, hne⟩
   have HC2 : Hid (n2 ≤ c2 ∧ c2 ≤ 9223372036854775807 ∧ n2 ≤ 65536) := ⟨hc2, by omega, by omega⟩
   clear hrd2 hbig hbk2 hc2 hc2' hsl0 hsl20
   go_wp2_with fail
   have K3 : Hid (Keep F w0 (w0.setCell ⟨g, 1, none⟩ (.slice A2 n2 c2))) := (Keep.refl F w0).setCell _ _ HFG.out
   have K3g : Hid (Keep (· = g) w0 (w0.setCell ⟨g, 1, none⟩ (.slice A2 n2 c2))) := (Keep.refl _ w0).setCell _ _ rfl
   have HB3 := qH (set3_1 (v := .slice A2 n2 c2) HB.out)
   have HSZ : Hid ((w0.setCell ⟨g, 1, none⟩ (.slice A2 n2 c2)).heap.size = w0.heap.size) := by (show _ = _); simp
   generalize w0.setCell ⟨g, 1, none⟩ (.slice A2 n2 c2) = w3 at *
   have HF3 : Hid (Rd w3 w3.heap.size A 32 (s.rest.take 32)) := HRF.out.kept K3g.out (fun h0 b o e h => HOFF.out (by omega) b o e h)
   have HR3 : Hid (Rd w3 w3.heap.size A2 n2 (s.rest.drop 32)) := HR2.out.kept K3g.out (fun h0 b o e h => by
    obtain ⟨b', o', e', _, hne⟩ := HSUB.out h0
    rw [e] at e'
    injection e' with e'; injection e' with e1 _
    exact hne (e1.symm.trans h))
   have HP3 : Hid (PrAt w3 g F ⟨s.rest.drop 32, 0⟩) := ⟨A2, n2, c2, s.rest.drop 32, HB3.out, HR3.out, HFG.out, HSUB.out, fun k hk => by rw [HSZ.out]; exact HLT.out k hk, HC2.out.1, HC2.out.2.1, HC2.out.2.2, fun _ => rfl, Nat.zero_le _⟩
   have TY := qH (tag_kept T0.out K3g.out (fun e => HNF.out (e ▸ HFG.out)))
   refine (vTag A 32 _ w3 HF3.out).mono ?_
   obtain ⟨tv, htv⟩ : ∃ l, s.rest.take 32 = l := ⟨_, rfl⟩
   have HTL : Hid (tv.length = 32) := by (show _ = _); rw [← htv]; exact HRF.out.1
   rw [htv] at HV ⊢
   clear htv
   rintro e w4 ⟨rfl, hb⟩
   replace TY := qH (TY.out.below hb)
   have HP4 := qH (HP3.out.to hb)
   have K4 := qH (K3.out.trans (Keep.of_below hb))
   have S1 := qH (tag_size HTL.out)
   have E1 : Hid ((arrB zeros32).size = (arrB tv).size) := by
    show _ = _
    rw [arrB_size, arrB_size, HTL.out]; rfl
   clear hb
   go_wp2_with (refine wpList_store_row rfl 23 _ _ rfl w.heap.size (arrB tv) rfl rfl 23 (arrB zeros32) TY.out.2 S1.out E1.out (arrB_one _) ?_)
   (try simp only [Exit.inBlock, Exit.then])
   refine bodyPost_ret (v := .agg (arrB tv)) ?_ rfl ⟨by rw [HV.out], ?_⟩
   ·exact results_cell_row rfl _ _ w.heap.size 23 (arrB tv) (0, 0) _ rfl (setRow_heap _ _ _ _ _ _ TY.out.2) Tryz.underlying23 rfl S1.out
   ·rw [HN.out]
    exact ⟨F, HP4.out.setRow HNF.out _, fun k h => .inl h, keep_setRowG ((Keep.of_below B.out).trans K4.out) (Nat.le_refl _) _⟩
 ·have hne : ((s.e : Int) != 0) = true := by simp; omega
  have hne' : ¬ (s.e : Int) = 0 := by omega
  have HV : Hid (tagV s = zeros32) := tagV_no (.inl he)
  have HN : Hid (s.next 32 = s) := next_bad he
  have TY := T0
  have TZ := T1
  clear he
  go_wp2_with (first | (refine wpList_load_row rfl 23 _ rfl (w.heap.size + 1) rfl 23 (arrB zeros32) (0, 0) _ TZ.out.2 Tryz.underlying23 rfl SZ.out ?_) | (refine wpList_store_row rfl 23 _ _ rfl w.heap.size (arrB zeros32) rfl rfl 23 (arrB zeros32) TY.out.2 SZ.out rfl (arrB_one _) ?_))
  (try simp only [Exit.inBlock, Exit.then])
  refine bodyPost_ret (v := .agg (arrB zeros32)) ?_ rfl ⟨by rw [HV.out], ?_⟩
  ·exact results_cell_row rfl _ _ w.heap.size 23 (arrB zeros32) (0, 0) _ rfl (setRow_heap _ _ _ _ _ _ TY.out.2) Tryz.underlying23 rfl SZ.out
  ·rw [HN.out]
   exact ⟨F, HP.out.setRow HNF.out _, fun k h => .inl h, keep_setRowG (Keep.of_below B.out) (Nat.le_refl _) _⟩
theorem pTag (g : Nat) (F : Nat → Prop) (s : RS) (w : World) (h : PrAt w g F s) : Calls Tryz.prog 39 #[.pointer (some ⟨g, 0, none⟩)] w fun e w' => e = .returned (.agg (arrB (tagV s))) ∧ PrTo w g F (s.next 32) w' := by
 have hz := tag_zero
 have hb0 : Below w.heap.size w (w.alloc (.cells (arrB zeros32) 23)) := (Below.refl _ _).alloc (Nat.le_refl _) _
 have H := qH (h.to hb0)
 have T0 : Hid (TagAt (w.alloc (.cells (arrB zeros32) 23)) w.heap.size zeros32) := ⟨rfl, heap_alloc_last w _⟩
 have B := qH hb0
 have HNF : Hid (¬ F w.heap.size) := fun hf => absurd (h.lt _ hf) (Nat.lt_irrefl _)
 have HTL := qH (tagV_len s)
 have HL0 : Hid (w.heap.size < (w.alloc (.cells (arrB zeros32) 23)).heap.size) := by (show _ < _); simp
 clear h hb0
 go_enter Tryz.func39, Tryz.ntmps39
 go_wp2_with fail
 clear hz
 generalize w.alloc (.cells (arrB zeros32) 23) = w0 at *
 refine (wAlways 32 w0).mono ?_
 rintro e w1 ⟨rfl, hc, hlt, hb⟩
 have C := qH hc
 have HLT := qH hlt
 replace H := qH (H.out.to hb)
 replace T0 := qH (T0.out.below hb)
 replace HL0 : Hid (w.heap.size < w1.heap.size) := Nat.lt_of_lt_of_le HL0.out hb.size
 replace B := qH (B.out.trans (hb.mono B.out.size))
 clear hb hc hlt
 go_wp2_with fail
 refine (tkTag g F s w0.heap.size w1 H.out C.out HLT.out).mono ?_
 obtain ⟨tv, htv⟩ : ∃ l, tagV s = l := ⟨_, rfl⟩
 rw [htv] at HTL
 rw [htv]
 have HTV := qH htv
 clear htv
 rintro e w2 ⟨rfl, F', hp', hs', hk'⟩
 have T2 := qH (tag_kept T0.out hk' HNF.out)
 have HP2 := qH hp'
 have HS2 : Hid (∀ k, F' k → F k ∨ w1.heap.size ≤ k) := hs'
 have K2 := qH ((Keep.of_below (R := F) B.out).trans hk')
 have S1 := qH (tag_size HTL.out)
 have E1 : Hid ((arrB zeros32).size = (arrB tv).size) := by
  show _ = _
  rw [arrB_size, arrB_size, HTL.out]; rfl
 clear hp' hs' hk'
 go_wp2_with (refine wpList_store_row rfl 23 _ _ rfl w.heap.size (arrB tv) rfl rfl 23 (arrB zeros32) T2.out.2 S1.out E1.out (arrB_one _) ?_)
 (try simp only [Exit.inBlock, Exit.then])
 refine bodyPost_ret (v := .agg (arrB tv)) ?_ rfl ⟨by rw [HTV.out], ?_⟩
 ·exact results_cell_row rfl _ _ w.heap.size 23 (arrB tv) (0, 0) _ rfl (setRow_heap _ _ _ _ _ _ T2.out.2) Tryz.underlying23 rfl S1.out
 ·refine ⟨F', HP2.out.setRow (fun hf => ?_) _, fun k h => (HS2.out k h).imp id (fun h => by have := HL0.out; omega), keep_setRowG K2.out (Nat.le_refl _) _⟩
  rcases HS2.out _ hf with h | h
  ·exact HNF.out h
  ·have := HL0.out; omega
end
end Go.Proofs.YtlmdidblgeeplaaGreatDoor