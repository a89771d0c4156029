/- Several texts in one (a claim has 60 files at most): CfN. -/
import Derived.Test.YtlmdidblgeeplaaGreatDoorTz
import Derived.Test.YtlmdidblgeeplaaGreatDoorPCfMy
import Derived.Test.YtlmdidblgeeplaaGreatDoorPCfYy
namespace Go.Proofs.YtlmdidblgeeplaaGreatDoor
set_option maxRecDepth 1000000
set_option maxHeartbeats 8000000
set_option linter.unusedVariables false
set_option linter.unusedSimpArgs false
section
open Go.RowKit
structure LSt (w0 wE : World) (g gb : Nat) (FE F : Nat → Prop) (U : TypeId) (z : Nat) (w : World) (s : RS) (v : Value) (k : Nat) (xs : List Value) : Prop where
 st : RSt w0 w g gb F s
 row : w.ownsRow wE.heap.size U z v k xs
 off : ∀ b, v.ownBlock = some b → ¬ F b
 wt : Went wE FE F w
section
variable {w0 wE w : World} {g gb : Nat} {FE F : Nat → Prop} {U : TypeId} {z : Nat} {s : RS} {v : Value} {k : Nat} {xs : List Value}
theorem LSt.start (h : RSt w0 w g gb F s) (hw : Went wE FE F w) (U : TypeId) (z : Nat) : LSt w0 wE g gb FE F U z w s (.slice none 0 0) 0 [] := ⟨h, World.ownsRow_nil _ _ _ _, fun _ hb => (by cases hb), hw⟩
theorem LSt.call {w1 : World} {F' : Nat → Prop} {s' : RS} (h : LSt w0 wE g gb FE F U z w s v k xs) (h1 : RSt w0 w1 g gb F' s') (hw : Went w F F' w1) : LSt w0 wE g gb FE F' U z w1 s' v k xs :=
 ⟨h1, own_kv h.row hw.kp (fun b hb => h.off b hb), fun b hb => hw.not (h.row.lt b hb).2 (h.off b hb), h.wt.trans hw⟩
theorem LSt.more {w1 : World} (h : LSt w0 wE g gb FE F U z w s v k xs) (hb : Below w.heap.size w w1) : LSt w0 wE g gb FE F U z w1 s v k xs :=
 ⟨h.st.to hb, own_bv h.row hb, h.off, h.wt.after hb⟩
theorem LSt.push {w1 : World} {v' : Value} {k' : Nat} {xs' : List Value} (h : LSt w0 wE g gb FE F U z w s v k xs) (hown : w1.ownsRow wE.heap.size U z v' k' xs') (hk : Keep (fun j => v.ownBlock = some j) w w1) (hv : ∀ b, v'.ownBlock = some b → v.ownBlock = some b ∨ w.heap.size ≤ b)
  (hgb : gb < wE.heap.size) (h0 : w0.heap.size ≤ wE.heap.size) : LSt w0 wE g gb FE F U z w1 s v' k' xs' := by
 refine ⟨h.st.kept hk (fun j hj hh => h.off j hh hj) (fun hh => by have := (h.row.lt _ hh).1; omega) (fun j hj => by have := (h.row.lt _ hj).1; omega), hown, fun b hb hh => ?_, h.wt.ff, h.wt.kp.new (hk.more fun j hj => .inr (h.row.lt j hj).1)⟩
 rcases hv b hb with hb | hb
 ·exact h.off b hb hh
 ·have := h.st.pr.lt b hh; omega
end
structure LPt (w0 wE : World) (g gb : Nat) (FE F : Nat → Prop) (w : World) (s : RS) (v : Value) (qs : List QP) : Prop where
 l : LSt w0 wE g gb FE F 58 5 w s v qs.length (partsV qs)
 im : ∀ q ∈ qs, Img w wE.heap.size q ∧ (∀ b, v.ownBlock = some b → Off q.A q.m (· = b)) ∧ Off q.A q.m F
section
variable {w0 wE w : World} {g gb : Nat} {FE F : Nat → Prop} {s : RS} {v : Value} {qs : List QP}
theorem LPt.start (h : RSt w0 w g gb F s) (hw : Went wE FE F w) : LPt w0 wE g gb FE F w s (.slice none 0 0) [] := ⟨LSt.start h hw _ _, fun _ hq => absurd hq List.not_mem_nil⟩
theorem Img.offWent {w w1 : World} {B : Nat} {q : QP} {F F' : Nat → Prop} (h : Img w B q) (ho : Off q.A q.m F) (hw : Went w F F' w1) : Off q.A q.m F' := fun hn b o e hh => by
 obtain ⟨b', o', e', hlt, _⟩ := h.own.1.2 hn
 rw [e] at e'
 injection e' with e'; injection e' with e1 _
 rcases hw.ff _ hh with hh | hh
 ·exact ho hn b o e hh
 ·omega
theorem LPt.call {w1 : World} {F' : Nat → Prop} {s' : RS} (h : LPt w0 wE g gb FE F w s v qs) (h1 : RSt w0 w1 g gb F' s') (hw : Went w F F' w1) : LPt w0 wE g gb FE F' w1 s' v qs :=
 ⟨h.l.call h1 hw, fun q hq => ⟨(h.im q hq).1.kept hw.kp (h.im q hq).2.2, (h.im q hq).2.1, (h.im q hq).1.offWent (h.im q hq).2.2 hw⟩⟩
theorem LPt.more {w1 : World} (h : LPt w0 wE g gb FE F w s v qs) (hb : Below w.heap.size w w1) : LPt w0 wE g gb FE F w1 s v qs :=
 ⟨h.l.more hb, fun q hq => ⟨(h.im q hq).1.kept (R := fun _ => False) (Keep.of_below hb) (fun _ _ _ _ hh => hh), (h.im q hq).2⟩⟩
theorem LPt.push {w1 : World} {v' : Value} {q : QP} (h : LPt w0 wE g gb FE F w s v qs) (hq : Img w wE.heap.size q) (hqv : ∀ b, v.ownBlock = some b → Off q.A q.m (· = b)) (hqF : Off q.A q.m F) (hown : w1.ownsRow wE.heap.size 58 5 v' (qs.length + 1) (partsV qs ++ q.cells)) (hk : Keep (fun j => v.ownBlock = some j) w w1) (hv : ∀ b, v'.ownBlock = some b → v.ownBlock = some b ∨ w.heap.size ≤ b)
  (hgb : gb < wE.heap.size) (h0 : w0.heap.size ≤ wE.heap.size) : LPt w0 wE g gb FE F w1 s v' (qs ++ [q]) := by
 have hp := OwnP.push (w := w) (w' := w1) (B := wE.heap.size) (v := v) (v' := v') (l := qs) (q := q) ⟨h.l.row, fun x hx => (h.im x hx).1, fun x hx => (h.im x hx).2.1⟩ hq hqv hown hk hv
 refine ⟨h.l.push (by have := hp.row; exact this) hk hv hgb h0, fun x hx => ⟨hp.img x hx, hp.off x hx, ?_⟩⟩
 rcases List.mem_append.1 hx with hx | hx
 ·exact (h.im x hx).2.2
 ·obtain rfl := List.mem_singleton.1 hx
  exact hqF
end
theorem winsV_one1 (l : List Reg) (r : Reg) : winsV (l ++ [r]) = winsV l ++ regL r := by rw [winsV_app]; simp [winsV]
theorem chsV_one1 (l : List Ch) (r : Ch) : chsV (l ++ [r]) = chsV l ++ chL r := by rw [chsV_app]; simp [chsV]
theorem wReadW (most : Nat) (w0 w : World) (g gb : Nat) (F : Nat → Prop) (s : RS) (h : RSt w0 w g gb F s) (hm : most ≤ 100) :
  Calls Tryz.prog 95 #[.pointer (some ⟨g, 0, none⟩), .int .i64 (most : Int), .func (.func 96) #[] #[.pointer (some ⟨gb, 0, none⟩)]] w fun e w' => ∃ A c F', e = .returned (.slice A (listR most winV winS s).1.length c) ∧
   LSt w0 w g gb F F' 82 2 w' (listR most winV winS s).2 (.slice A (listR most winV winS s).1.length c) (listR most winV winS s).1.length (winsV (listR most winV winS s).1) := by
 have H := qH h
 have HM := qH hm
 have HGB : Hid (gb < w.heap.size) := cell_block h.box
 have H00 : Hid (w0.heap.size ≤ w.heap.size) := h.bel.size
 obtain ⟨N, hN, hNm⟩ := count_nat s most
 have HNM := qH hNm
 have L1 : Hid (listR most winV winS s = manyR winV winS N (countS s (most : Int))) := by
  (show _ = _)
  unfold listR
  rw [hN, Int.toNat_natCast]
 have HMR : Hid (-9223372036854775808 ≤ (most : Int) ∧ (most : Int) ≤ 9223372036854775807) := ⟨by omega, by omega⟩
 replace hN := qH hN
 clear h hm hNm
 go_enter Tryz.func95, Tryz.ntmps95
 go_wp2_with fail
 refine (pCount g F s (most : Int) w H.out.pr HMR.out).mono ?_
 rintro e w1 ⟨rfl, hto⟩
 rw [hN.out]
 obtain ⟨F1, h1, hw1⟩ := H.out.went hto
 obtain ⟨s1, hs1⟩ : ∃ s1, countS s (most : Int) = s1 := ⟨_, rfl⟩
 rw [hs1] at h1 L1
 have HR : Hid (∃ vl F', LSt w0 w g gb F F' 82 2 w1 (manyR winV winS 0 s1).2 vl 0 (winsV (manyR winV winS 0 s1).1) ∧ vl = .slice none 0 0) := ⟨_, F1, LSt.start h1 hw1 _ _, rfl⟩
 clear hto h1 hw1 hs1 H HMR hN
 go_wp2_with fail
 go_loopw [7, 11] (fun s7 s11 wr => ∃ k : Nat, k ≤ N ∧ s11 = .int .i64 (k : Int) ∧ ∃ F', LSt w0 w g gb F F' 82 2 wr (manyR winV winS k s1).2 s7 k (winsV (manyR winV winS k s1).1)) (fun _ s11 _ => N - (intOf s11).toNat)
 case atStart =>
  obtain ⟨vl, F', hl, rfl⟩ := HR.out
  exact ⟨0, Nat.zero_le _, rfl, F', hl⟩
 case round =>
  clear HR
  obtain ⟨k, hk, rfl, F2, hl⟩ := hrel
  have H := qH hl
  have HK := qH hk
  clear hl hk
  by_cases hlt : k < N
  ·have hltI : (k : Int) < (N : Int) := by omega
   have hwk : IntKind.i64.wrap ((k : Int) + 1) = (k : Int) + 1 := by have := HNM.out; have := HM.out; rw [IntKind.wrap_i64]; omega
   have HLT : Hid (k < N) := hlt
   generalize hMM : manyR winV winS k s1 = M at *
   replace hMM := qH hMM
   clear hlt
   go_wp2_with fail
   refine (dWin w0 wr g gb F2 M.2 H.out.st).mono ?_
   rintro e w4 ⟨rfl, F4, h4, hw4⟩
   have H4 := qH (H.out.call h4 hw4)
   clear h4 hw4 H
   generalize hv : winV M.2 = p at *
   replace hv := qH hv
   have H5 := qH (H4.out.more ((Below.refl w4.heap.size w4).alloc (Nat.le_refl _) (.cells #[.int .i64 p.1, .int .i64 p.2] 82)))
   have HNW := qH (cells_newV w4 82 (regL p))
   obtain ⟨A3, c3, rfl⟩ := own_slV H4.out.row
   clear H4
   go_wp2_with (at_builtin; refine wpList_pushV vtW rfl _ _ rfl rfl rfl H5.out.row (m := 1) (news := regL p) rfl (fun _ => ⟨_, rfl, HNW.out⟩) (by have := winsV_one [p]; simpa [winsV] using this) H5.out.wt.kp.size (by have := HLT.out; have := HNM.out; have := HM.out; omega) ?_; intro v9 w9 hown9 hk9 hv9; obtain ⟨A9, c9, rfl⟩ := own_slV hown9)
   have H9 := qH (H5.out.push hown9 hk9 hv9 HGB.out H00.out)
   clear hown9 hk9 hv9
   go_roundw
   case rel => exact ⟨k + 1, HLT.out, by go_num, F4, by rw [manyR, hMM.out, hv.out]; have hh := H9.out; rw [← winsV_one1] at hh; exact hh⟩
   case measure => simp [intOf]; omega
  ·obtain rfl : k = N := by have := HK.out; omega
   clear hlt
   rw [← L1.out] at H
   have hlen : (listR most winV winS s).1.length = k := by rw [L1.out, manyR_len]
   obtain ⟨A3, c3, rfl⟩ := own_slV H.out.row
   replace hlen := qH hlen
   clear L1 HK
   go_wp2_with fail
   go_ret
   exact ⟨A3, c3, F2, by rw [hlen.out]; rfl, by rw [hlen.out]; exact H.out⟩
theorem wReadC (most : Nat) (w0 w : World) (g gb : Nat) (F : Nat → Prop) (s : RS) (h : RSt w0 w g gb F s) (hm : most ≤ 100) :
  Calls Tryz.prog 100 #[.pointer (some ⟨g, 0, none⟩), .int .i64 (most : Int), .func (.func 101) #[] #[.pointer (some ⟨gb, 0, none⟩)]] w fun e w' => ∃ A c F', e = .returned (.slice A (listR most chV chS s).1.length c) ∧
   LSt w0 w g gb F F' 130 5 w' (listR most chV chS s).2 (.slice A (listR most chV chS s).1.length c) (listR most chV chS s).1.length (chsV (listR most chV chS s).1) := by
 have H := qH h
 have HM := qH hm
 have HGB : Hid (gb < w.heap.size) := cell_block h.box
 have H00 : Hid (w0.heap.size ≤ w.heap.size) := h.bel.size
 obtain ⟨N, hN, hNm⟩ := count_nat s most
 have HNM := qH hNm
 have L1 : Hid (listR most chV chS s = manyR chV chS N (countS s (most : Int))) := by
  (show _ = _)
  unfold listR
  rw [hN, Int.toNat_natCast]
 have HMR : Hid (-9223372036854775808 ≤ (most : Int) ∧ (most : Int) ≤ 9223372036854775807) := ⟨by omega, by omega⟩
 replace hN := qH hN
 clear h hm hNm
 go_enter Tryz.func100, Tryz.ntmps100
 go_wp2_with fail
 refine (pCount g F s (most : Int) w H.out.pr HMR.out).mono ?_
 rintro e w1 ⟨rfl, hto⟩
 rw [hN.out]
 obtain ⟨F1, h1, hw1⟩ := H.out.went hto
 obtain ⟨s1, hs1⟩ : ∃ s1, countS s (most : Int) = s1 := ⟨_, rfl⟩
 rw [hs1] at h1 L1
 have HR : Hid (∃ vl F', LSt w0 w g gb F F' 130 5 w1 (manyR chV chS 0 s1).2 vl 0 (chsV (manyR chV chS 0 s1).1) ∧ vl = .slice none 0 0) := ⟨_, F1, LSt.start h1 hw1 _ _, rfl⟩
 clear hto h1 hw1 hs1 H HMR hN
 go_wp2_with fail
 go_loopw [7, 11] (fun s7 s11 wr => ∃ k : Nat, k ≤ N ∧ s11 = .int .i64 (k : Int) ∧ ∃ F', LSt w0 w g gb F F' 130 5 wr (manyR chV chS k s1).2 s7 k (chsV (manyR chV chS k s1).1)) (fun _ s11 _ => N - (intOf s11).toNat)
 case atStart =>
  obtain ⟨vl, F', hl, rfl⟩ := HR.out
  exact ⟨0, Nat.zero_le _, rfl, F', hl⟩
 case round =>
  clear HR
  obtain ⟨k, hk, rfl, F2, hl⟩ := hrel
  have H := qH hl
  have HK := qH hk
  clear hl hk
  by_cases hlt : k < N
  ·have hltI : (k : Int) < (N : Int) := by omega
   have hwk : IntKind.i64.wrap ((k : Int) + 1) = (k : Int) + 1 := by have := HNM.out; have := HM.out; rw [IntKind.wrap_i64]; omega
   have HLT : Hid (k < N) := hlt
   generalize hMM : manyR chV chS k s1 = M at *
   replace hMM := qH hMM
   clear hlt
   go_wp2_with fail
   refine (dCh w0 wr g gb F2 M.2 H.out.st).mono ?_
   rintro e w4 ⟨rfl, F4, h4, hw4⟩
   have H4 := qH (H.out.call h4 hw4)
   clear h4 hw4 H
   generalize hv : chV M.2 = p at *
   replace hv := qH hv
   have H5 := qH (H4.out.more ((Below.refl w4.heap.size w4).alloc (Nat.le_refl _) (.cells #[.int .i64 p.id, .int .i64 p.fr, .int .i64 p.dst, .int .i64 p.cap, .int .i64 p.size] 130)))
   have HNW := qH (cells_newV w4 130 (chL p))
   obtain ⟨A3, c3, rfl⟩ := own_slV H4.out.row
   clear H4
   go_wp2_with (at_builtin; refine wpList_pushV vtC rfl _ _ rfl rfl rfl H5.out.row (m := 1) (news := chL p) rfl (fun _ => ⟨_, rfl, HNW.out⟩) (by have := chsV_one [p]; simpa [chsV] using this) H5.out.wt.kp.size (by have := HLT.out; have := HNM.out; have := HM.out; omega) ?_; intro v9 w9 hown9 hk9 hv9; obtain ⟨A9, c9, rfl⟩ := own_slV hown9)
   have H9 := qH (H5.out.push hown9 hk9 hv9 HGB.out H00.out)
   clear hown9 hk9 hv9
   go_roundw
   case rel => exact ⟨k + 1, HLT.out, by go_num, F4, by rw [manyR, hMM.out, hv.out]; have hh := H9.out; rw [← chsV_one1] at hh; exact hh⟩
   case measure => simp [intOf]; omega
  ·obtain rfl : k = N := by have := HK.out; omega
   clear hlt
   rw [← L1.out] at H
   have hlen : (listR most chV chS s).1.length = k := by rw [L1.out, manyR_len]
   obtain ⟨A3, c3, rfl⟩ := own_slV H.out.row
   replace hlen := qH hlen
   clear L1 HK
   go_wp2_with fail
   go_ret
   exact ⟨A3, c3, F2, by rw [hlen.out]; rfl, by rw [hlen.out]; exact H.out⟩
theorem wReadP (most : Nat) (w0 w : World) (g gb : Nat) (F : Nat → Prop) (s : RS) (h : RSt w0 w g gb F s) (hm : most ≤ 100) :
  Calls Tryz.prog 97 #[.pointer (some ⟨g, 0, none⟩), .int .i64 (most : Int), .func (.func 98) #[] #[.pointer (some ⟨gb, 0, none⟩)]] w fun e w' => ∃ A c F' qs, e = .returned (.slice A qs.length c) ∧
   LPt w0 w g gb F F' w' (listR most ptV ptS s).2 (.slice A qs.length c) qs ∧ qs.map QP.p = (listR most ptV ptS s).1 := by
 have H := qH h
 have HM := qH hm
 have HGB : Hid (gb < w.heap.size) := cell_block h.box
 have H00 : Hid (w0.heap.size ≤ w.heap.size) := h.bel.size
 obtain ⟨N, hN, hNm⟩ := count_nat s most
 have HNM := qH hNm
 have L1 : Hid (listR most ptV ptS s = manyR ptV ptS N (countS s (most : Int))) := by
  (show _ = _)
  unfold listR
  rw [hN, Int.toNat_natCast]
 have HMR : Hid (-9223372036854775808 ≤ (most : Int) ∧ (most : Int) ≤ 9223372036854775807) := ⟨by omega, by omega⟩
 replace hN := qH hN
 clear h hm hNm
 go_enter Tryz.func97, Tryz.ntmps97
 go_wp2_with fail
 refine (pCount g F s (most : Int) w H.out.pr HMR.out).mono ?_
 rintro e w1 ⟨rfl, hto⟩
 rw [hN.out]
 obtain ⟨F1, h1, hw1⟩ := H.out.went hto
 obtain ⟨s1, hs1⟩ : ∃ s1, countS s (most : Int) = s1 := ⟨_, rfl⟩
 rw [hs1] at h1 L1
 have HR : Hid (∃ F', LPt w0 w g gb F F' w1 (manyR ptV ptS 0 s1).2 (.slice none 0 0) [] ∧ [].map QP.p = (manyR ptV ptS 0 s1).1) := ⟨F1, LPt.start h1 hw1, rfl⟩
 clear hto h1 hw1 hs1 H HMR hN
 go_wp2_with fail
 go_loopw [7, 11] (fun s7 s11 wr => ∃ k : Nat, k ≤ N ∧ s11 = .int .i64 (k : Int) ∧ ∃ F' qs, LPt w0 w g gb F F' wr (manyR ptV ptS k s1).2 s7 qs ∧ qs.map QP.p = (manyR ptV ptS k s1).1) (fun _ s11 _ => N - (intOf s11).toNat)
 case atStart =>
  obtain ⟨F', hl, he⟩ := HR.out
  exact ⟨0, Nat.zero_le _, rfl, F', [], hl, he⟩
 case round =>
  clear HR
  obtain ⟨k, hk, rfl, F2, qs, hl, hq⟩ := hrel
  have H := qH hl
  have HQ := qH hq
  have HK := qH hk
  clear hl hk hq
  obtain ⟨A3, c3, rfl⟩ := own_slV H.out.l.row
  by_cases hlt : k < N
  ·have hltI : (k : Int) < (N : Int) := by omega
   have hwk : IntKind.i64.wrap ((k : Int) + 1) = (k : Int) + 1 := by have := HNM.out; have := HM.out; rw [IntKind.wrap_i64]; omega
   have HLT : Hid (k < N) := hlt
   have HQL : Hid (qs.length ≤ 100) := by (show _ ≤ _); have e := congrArg List.length HQ.out; rw [List.length_map, manyR_len] at e; have := HNM.out; have := HM.out; omega
   generalize hMM : manyR ptV ptS k s1 = M at *
   replace hMM := qH hMM
   clear hlt
   have hst := H.out.l.st
   go_wp2_with fail
   refine (dPt w0 wr g gb F2 M.2 hst).mono ?_
   rintro e w4 ⟨A4, m4, c4, F4, rfl, ho, hmc, hcc, hoff, h4, hw4⟩
   clear hst
   have H4 := qH (H.out.call h4 hw4)
   generalize hv : ptV M.2 = p at *
   have hbl : p.img.length ≤ 65536 := by rw [← hv]; exact bytesV_le _
   obtain ⟨id, base, size, keep, img⟩ := p
   replace hv := qH hv
   dsimp only at ho hbl
   have hm4 : m4 = img.length := ho.1.1.symm
   have HI4 : Hid (Img w4 w.heap.size ⟨⟨id, base, size, keep, img⟩, A4, m4, c4⟩) := ⟨ho.mono H.out.l.wt.kp.size, hmc, hcc, (show m4 ≤ 140737488351232 by omega)⟩
   have HIV : Hid (∀ b, (Value.slice A3 qs.length c3).ownBlock = some b → Off A4 m4 (· = b)) := fun b hb => ho.off (fun k hk => by have := (H.out.l.row.lt b hb).2; have : k = b := hk; omega)
   have HIF := qH hoff
   clear h4 hw4 ho hmc hcc hoff hbl hm4
   have hal := (Below.refl w4.heap.size w4).alloc (Nat.le_refl _) (.cells #[.int .i64 id, .int .i64 base, .int .i64 size, .bool keep, .slice A4 m4 c4] 58)
   have H5 := qH (H4.out.more hal)
   have HI5 := qH (HI4.out.kept (R := fun _ => False) (Keep.of_below hal) (fun _ _ _ _ hh => hh))
   have HNW := qH (cells_newV w4 58 (QP.cells ⟨⟨id, base, size, keep, img⟩, A4, m4, c4⟩))
   clear H4 HI4 hal H
   go_wp2_with (at_builtin; refine wpList_pushV vtP rfl _ _ rfl rfl rfl H5.out.l.row (m := 1) (news := QP.cells ⟨⟨id, base, size, keep, img⟩, A4, m4, c4⟩) rfl (fun _ => ⟨_, rfl, HNW.out⟩) (by have := partsV_one [⟨⟨id, base, size, keep, img⟩, A4, m4, c4⟩]; simpa [partsV] using this) H5.out.l.wt.kp.size (by have := HQL.out; omega) ?_; intro v9 w9 hown9 hk9 hv9; obtain ⟨A9, c9, rfl⟩ := own_slV hown9)
   have H9 := qH (H5.out.push HI5.out HIV.out HIF.out hown9 hk9 hv9 HGB.out H00.out)
   clear hown9 hk9 hv9
   go_roundw
   case rel => exact ⟨k + 1, HLT.out, by go_num, F4, _, by rw [manyR, hMM.out]; exact H9.out, by rw [manyR, hMM.out, hv.out, List.map_append, HQ.out]; rfl⟩
   case measure => simp [intOf]; omega
  ·obtain rfl : k = N := by have := HK.out; omega
   clear hlt
   rw [← L1.out] at H HQ
   clear L1 HK
   go_wp2_with fail
   go_ret
   exact ⟨A3, c3, F2, qs, rfl, H.out, HQ.out⟩
end
end Go.Proofs.YtlmdidblgeeplaaGreatDoor