/- For any number, any records the law CommitBack of citadellaw16 returns true: what was put, one record behind the other, is got: the last one, and the one ahead of it. Conditions: none beyond those that the statement itself prints. -/
import Derived.Test.YtffdjnhhmfpkgaaGreatTz
import Derived.Test.YtffdjnhhmfpkgaaGreatRows
import Derived.Test.YtffdjnhhmfpkgaaGreatCmY
import Derived.Test.YtffdjnhhmfpkgaaGreatCmZ
import Derived.Deep.RegionHeld
import Derived.SizedLaws
import Derived.WalkKit
import Derived.ProofKit
import Derived.OpenShut
import Derived.ShutString
import Derived.ChangeOld
import Derived.Below
namespace Go.Proofs.YtffdjnhhmfpkgaaGreat.commitBack
set_option maxRecDepth 1000000
set_option maxHeartbeats 8000000
open Go.ChangeShapes Go.WideShapes Go.ChangeAt Go.RowKit
open Go.ChangeMaps (open_string shut_string)
set_option linter.unusedVariables false
set_option linter.unusedSimpArgs false
theorem own : ownKnob Tryz.prog.godebug = none := by kernel_rfl
theorem laidOut : laidOutB Tryz.prog = true := by kernel_rfl
theorem walk (a0 : Int) (a1 : Option Addr) (len1 cap1 : Nat) (l1 : List Rcd) (w : World) (w0 : (Lit.int .i64 a0).wf = true) (w1 : RdRL w w.heap.size a1 len1 l1 ∧ len1 ≤ cap1 ∧ cap1 * 64 ≤ 140737488351232) :
  Calls Tryz.prog 6 #[.int .i64 a0, .slice a1 len1 cap1] w fun e w' => e = .returned (.bool true) ∧ Below w.heap.size w w' := by
 obtain ⟨r1, hcap1, hcap1'⟩ := w1
 have R := qH r1
 have HLEN1 : Hid (len1 ≤ 140737488351232) := by show _ ≤ _; omega
 clear w0 r1 hcap1 hcap1'
 have hz := rc_zero
 go_enter Tryz.func6, Tryz.ntmps6
 go_wp2_with fail
 refine (lAwake16 w).mono ?_
 rintro e wA ⟨rfl, hb⟩
 have BA := qH hb
 have RA := qH (R.out.to hb)
 clear hb R
 go_wp2_with fail
 refine (lRows a0 a1 len1 cap1 l1 wA RA.out HLEN1.out).mono ?_
 rintro e wB (⟨rfl, hb⟩ | ⟨d, F, A, c, rfl, h1, h2, h20, hs⟩)
 ·have BZ := qH (BA.out.trans (hb.mono BA.out.size))
  clear hb
  go_wp2_with fail
  go_ret
  exact ⟨rfl, BZ.out⟩
 have HS := qH hs
 have BB := qH (BA.out.trans (hs.bel.mono BA.out.size))
 have HL20 : Hid (len1 ≤ 20) := h20
 clear h1 h2 h20 hs
 by_cases hn0 : len1 = 0
 ·subst hn0
  go_wp2_with fail
  go_ret
  exact ⟨rfl, BB.out⟩
 obtain ⟨m, hm⟩ : ∃ m, len1 = m + 1 := ⟨len1 - 1, by omega⟩
 have HM := qH hm
 have HO := qH (rows_own HS.out (by omega))
 obtain ⟨g, hA, hgl, hrow⟩ := HO.out
 subst hA
 have HROW := qH hrow
 have HGL : Hid (g < wB.heap.size) := hgl
 have HG := qH (sN_get (fr := a0) (l := l1) (k := m) (fun j hj => HS.out.may j (by omega)))
 rw [← hm] at HG
 have HI1 := qH (HS.out.may m (by omega)).2
 have HI2 : Hid ((if m = 0 then Rcd.zero else rN a0 l1 (m - 1)).In) := by
  show Rcd.In _
  split
  ·exact Rcd.In.zero
  ·exact (HS.out.may (m - 1) (by omega)).2
 have HD := qH HS.out.dk
 have hlen0 : ((len1 : Int) == 0) = false := beq_eq_false_iff_ne.2 (by omega)
 have hlen1 : ¬ (len1 : Int) = 0 := by omega
 have HX1 := qH (HROW.out m (by omega))
 have HX2 := qH (fun h : ¬ m = 0 => HROW.out (m - 1) (by omega))
 clear hrow hgl HROW HO HS RA hm
 have HYX : Hid (¬ m = 0 → (if m = 0 then Rcd.zero else rN a0 l1 (m - 1)) = rN a0 l1 (m - 1)) := fun h => if_neg h
 have HYZ : Hid (m = 0 → (if m = 0 then Rcd.zero else rN a0 l1 (m - 1)) = Rcd.zero) := fun h => if_pos h
 generalize rN a0 l1 m = x at *
 generalize rN a0 l1 (m - 1) = x2 at *
 generalize (if m = 0 then Rcd.zero else x2) = y at *
 have SX := qH (rc_size HI1.out.hash)
 have SY := qH (rc_size HI2.out.hash)
 have ZX := qH (rc_same HI1.out.hash)
 have ZY := qH (rc_same HI2.out.hash)
 go_wp2_with fail
 clear hlen0 hlen1
 refine (cGet d F _ wB HD.out).mono ?_
 rw [HG.out]
 rintro e wx ⟨rfl, hb⟩
 obtain ⟨t1, t2, t3, t4, t5⟩ := tw_is wx HI1.out.hash HI2.out.hash
 have T1 := qH t1
 have T2 := qH t2
 have T3 := qH t3
 have T4 := qH t4
 have B7 := qH (hb.trans (t5.mono hb.size))
 clear hb t1 t2 t3 t4 t5 HD HG
 go_upto_region 7 with (first | (refine wpList_store_row rfl 34 _ _ rfl wx.heap.size (rcL x).toArray rfl rfl 34 (rcL Rcd.zero).toArray T1.out SX.out ZX.out (rc_one _) ?_) | (refine wpList_store_row rfl 34 _ _ rfl (wx.heap.size + 1) (rcL y).toArray rfl rfl 34 (rcL Rcd.zero).toArray T2.out SY.out ZY.out (rc_one _) ?_))
 have hE : (((wx.alloc (.cells (rcL Rcd.zero).toArray 34)).alloc (.cells (rcL Rcd.zero).toArray 34)).setRow wx.heap.size (rcL x).toArray).setRow (wx.heap.size + 1) (rcL y).toArray = tw2 wx x y := rfl
 rw [hE]
 clear hE T1 T2
 generalize tw2 wx x y = w7 at *
 generalize wx.heap.size + 1 = gy at *
 generalize wx.heap.size = gx at *
 obtain ⟨wd, hwd⟩ : ∃ x, w7.drew = x := ⟨_, rfl⟩
 have BS : Below w7.heap.size w7 wd := by rw [← hwd]; exact (Below.refl _ _).drew
 replace B7 := qH (B7.out.trans (BS.mono B7.out.size))
 replace T3 := qH (T3.out.to BS)
 replace T4 := qH (T4.out.to BS)
 have E1 : Hid (wd.rangeAt g (m * 36) (rcL x)) := fun i v hv => (B7.out.cell (p := ⟨g, m * 36 + i, none⟩) HGL.out).trans (HX1.out i v hv)
 have E2 : Hid (¬ m = 0 → wd.rangeAt g ((m - 1) * 36) (rcL x2)) := fun h i v hv => (B7.out.cell (p := ⟨g, (m - 1) * 36 + i, none⟩) HGL.out).trans (HX2.out h i v hv)
 have BW := qH (BB.out.trans (B7.out.mono BB.out.size))
 clear HX1 HX2 B7 BB BA
 have hw1 : IntKind.i64.wrap ((len1 : Int) - 1) = (m : Int) := by rw [IntKind.wrap_i64]; have := HL20.out; have := HM.out; omega
 have hw1b : (len1 : Int) - 1 = (m : Int) := by have := HM.out; omega
 have hml : (m : Int) < (len1 : Int) := by have := HM.out; omega
 have hw1c : IntKind.i64.wrap (m : Int) = (m : Int) := by rw [IntKind.wrap_i64]; have := HL20.out; have := HM.out; omega
 have SXL : Hid ((Tryz.prog.info? 34).map (·.size) = some (rcL x).length) := by (show _ = _); rw [rc_size HI1.out.hash, List.size_toArray]
 have hu := Tryz.underlying34
 refine wp_region_held_drew (S := (fun w' => RB w' gx x ∧ w'.rangeAt g (m * 36) (rcL x))) (by kernel_rfl) ((by rw [hwd]; exact ⟨T3.out, E1.out⟩)) (fun hHeld => ?_)
 rw [hwd] at hHeld ⊢
 clear hwd BS
 refine tk 0 ?_
 simp only [pR]
 refine tk 1 ?_
 simp only [pR]
 refine tk 2 ?_
 simp only [pR]
 refine tl 3 (.agg (rcL x).toArray) rfl (yieldsIf_load_row (by rfl) 34 _ rfl gx rfl 34 (rcL x).toArray (0, 0) _ (fun w' h => h.1.row) Tryz.underlying34 rfl SX.out) ?_
 simp only [pR]
 refine tk 4 ?_
 simp only [pR]
 refine tk 5 ?_
 simp only [pR]
 refine tk 6 ?_
 simp only [pR]
 refine tk 7 ?_
 simp only [pR]
 refine tk 8 ?_
 simp only [pR]
 refine tl 9 (.agg (List.toArray (rcL x))) rfl (yieldsIf_load_mid (by rfl) 34 _ rfl g (m * 36) rfl (rcL x) _ ((fun w' h => h.2)) hu rfl SXL.out) ?_
 simp only [pR]
 refine wpAnyH_take (i := 10) (v := .bool false) rfl (by kernel_rfl) (by kernel_rfl) (by kernel_rfl) (fun _ _ _ h => h) (yieldsIf_neB (by rfl) _ _ rfl x x rfl rfl HI1.out.hash HI1.out.hash false (same_rc _)) (by assumption) ?_
 simp only [pR]
 refine tk 11 ?_
 simp only [pR]
 refine wpAnyH_done (by kernel_rfl) ?_ _
 clear hHeld hw1 hw1b hw1c hml hu
 by_cases hm0 : m = 0
 ·have hy := HYZ.out hm0
  have hlen1 : (len1 : Int) = 1 := by have := HM.out; omega
  have heqz := fun w' => rc_eq Rcd.zero Rcd.zero rfl rfl w'
  rw [decide_eq_true (rfl : Rcd.zero = Rcd.zero)] at heqz
  have hgd := rc_guard
  rw [hy] at T4 SY
  clear HYX HYZ hm0 HM hn0 E2 E1 hy
  go_wp2_with (refine wpList_load_row rfl 34 _ rfl gy rfl 34 (rcL Rcd.zero).toArray (0, 0) _ T4.out.row Tryz.underlying34 rfl SY.out ?_)
  go_ret
  exact ⟨rfl, BW.out⟩
 ·have hy := HYX.out hm0
  subst hy
  obtain ⟨m2, hm2⟩ : ∃ m2, m = m2 + 1 := ⟨m - 1, by omega⟩
  have E3 := qH (E2.out hm0)
  rw [show m - 1 = m2 by omega] at E3
  have hw2 : IntKind.i64.wrap ((len1 : Int) - 2) = (m2 : Int) := by rw [IntKind.wrap_i64]; have := HL20.out; have := HM.out; omega
  have hw2b : (len1 : Int) - 2 = (m2 : Int) := by have := HM.out; omega
  have hml : (m2 : Int) < (len1 : Int) := by have := HM.out; omega
  have hw2c : IntKind.i64.wrap (m2 : Int) = (m2 : Int) := by rw [IntKind.wrap_i64]; have := HL20.out; have := HM.out; omega
  have hlen1 : ¬ (len1 : Int) = 1 := by have := HM.out; omega
  have SYL : Hid ((Tryz.prog.info? 34).map (·.size) = some (rcL y).length) := by (show _ = _); rw [rc_size HI2.out.hash, List.size_toArray]
  clear HYX HYZ hm0 HM hn0 E2 E1 hm2
  go_upto_region 11 with (fail)
  obtain ⟨we, hwe⟩ : ∃ x, wd.drew = x := ⟨_, rfl⟩
  have BS : Below wd.heap.size wd we := by rw [← hwe]; exact (Below.refl _ _).drew
  replace T4 := qH (T4.out.to BS)
  replace E3 : Hid (we.rangeAt g (m2 * 36) (rcL y)) := fun i v hv => E3.out i v hv |> fun h => by rw [← hwe]; exact h
  replace BW := qH (BW.out.trans (BS.mono BW.out.size))
  have hu := Tryz.underlying34
  refine wp_region_held_drew (S := (fun w' => RB w' gy y ∧ w'.rangeAt g (m2 * 36) (rcL y))) (by kernel_rfl) ((by rw [hwe]; exact ⟨T4.out, E3.out⟩)) (fun hHeld => ?_)
  rw [hwe] at hHeld ⊢
  clear hwe BS
  refine tl 0 (.agg (rcL y).toArray) rfl (yieldsIf_load_row (by rfl) 34 _ rfl gy rfl 34 (rcL y).toArray (0, 0) _ (fun w' h => h.1.row) Tryz.underlying34 rfl SY.out) ?_
  simp only [pR]
  refine tk 1 ?_
  simp only [pR]
  refine tk 2 ?_
  simp only [pR]
  refine tk 3 ?_
  simp only [pR]
  refine tk 4 ?_
  simp only [pR]
  refine tk 5 ?_
  simp only [pR]
  refine tl 6 (.agg (List.toArray (rcL y))) rfl (yieldsIf_load_mid (by rfl) 34 _ rfl g (m2 * 36) rfl (rcL y) _ ((fun w' h => h.2)) hu rfl SYL.out) ?_
  simp only [pR]
  refine wpAnyH_take (i := 7) (v := .bool true) rfl (by kernel_rfl) (by kernel_rfl) (by kernel_rfl) (fun _ _ _ h => h) (yieldsIf_eqB (by rfl) _ _ rfl y y rfl rfl HI2.out.hash HI2.out.hash true (decide_eq_true rfl)) (by assumption) ?_
  simp only [pR]
  refine tk 8 ?_
  simp only [pR]
  refine wpAnyH_done (by kernel_rfl) ?_ _
  clear hHeld hw2 hw2b hw2c hml hu
  go_wp2_with fail
  go_ret
  exact ⟨rfl, BW.out⟩
theorem lifted (os : Os) (started : os.Started) (H : Type) (enc : TypeId × Value → H) :
  ReturnsInHanded {} Tryz.checked os 6 .any (Rows.commitBackSpec.pre6 enc Tryz.prog Tryz.f6 Rows.commitBackRow.domain false) (Rows.commitBackSpec.post enc Tryz.prog Tryz.f6 false true false false) := by
 refine returnsInHanded_of_change_sized (C := Tryz.checked) own started (by kernel_rfl) Tryz.func6
  (ChangeSpec.witness6 (enc := enc) (C := Tryz.checked) false ⟨#[], #[.int .i64 0, .slice none 0 0], []⟩ 8 (by kernel_rfl) (by kernel_rfl) (by kernel_rfl) (by kernel_rfl)) ?_
 intro W base args ds gs before hval0 hW hcnd hsz0 _
 have hval : ∀ (j : Nat) t v, Tryz.f6.params[j]? = some t → args[j]? = some v → Value.okWide Tryz.prog W .any base t v := hval0
 have hsz : (DataW.weightsEach Tryz.prog (Tryz.f6.params.toList ++ Rows.commitBackSpec.plain.varTypes Tryz.prog) (ds ++ gs)).all (· ≤ reachBytes) = true := hsz0
 have hW' := hW
 obtain ⟨p, q, hA0, hV, rfl, hfz, hnd⟩ := hW
 have hA : DataW.TrodAll enc Tryz.prog W 0 (fun _ => true) true Tryz.f6.params.toList args.toList ds p := hA0
 rw [Tryz.params6] at hA hval hsz
 obtain ⟨v0, vs0, d0, ds0, p0, q0, hargs, rfl, rfl, h0, r0⟩ := trodAll_cons hA
 obtain ⟨v1, vs1, d1, ds1, p1, q1, rfl, rfl, rfl, h1, r1⟩ := trodAll_cons r0
 obtain ⟨rfl, rfl, rfl⟩ := trodAll_nil r1
 obtain rfl : args = #[v0, v1] := by cases args; simp_all
 obtain ⟨rfl, rfl⟩ := trodVars_none hV
 have sz1 : ∀ x ∈ d1.weights Tryz.prog 65, x ≤ reachBytes := fun x hx => by simpa using List.all_eq_true.1 hsz _ (DataW.weights_mem_each (j := 1) rfl rfl x hx)
 obtain ⟨a0, rfl, rfl, rfl, w0⟩ := open_int Tryz.underlying3 (hval 0 3 v0 rfl rfl) h0
 have k1 := h1
 have lt1 : ∀ x ∈ p1, x.block < W.heap.size := by obtain ⟨m, hm⟩ := k1; exact DataW.trod_lt m _ _ _ hm
 obtain ⟨a1, len1, cap1, l1, rfl, w1⟩ := open_rcs (hval 1 65 v1 rfl rfl) h1 sz1
 clear hA0 hval0
 refine (walk a0 a1 len1 cap1 l1 W w0 w1).mono fun e W' ⟨he, bel⟩ => ?_
 subst he
 exact ⟨_, rfl, _, _, _, [], _, [], hW', trodAll_mk1 (shut_bool Tryz.underlying4 _), (trodAll_cons_mk (shut_int Tryz.underlying3 w0) (trodAll_cons_mk (Below.trod laidOut (by kernel_rfl) (of_decide_eq_true (by kernel_rfl)) k1 bel lt1) trodAll_mk0)), rfl, bel.frame _, fun h => by cases h⟩
theorem over : Rows.commitBackRow.holds Tryz.pinned (OpenSpec.ofChange Rows.commitBackSpec) :=
 OpenClaim.holds_of_wide 6 Tryz.f6 rfl rfl rfl rfl rfl rfl rfl ⟨rfl, rfl, rfl, rfl, rfl⟩ rfl rfl rfl rfl rfl (by kernel_rfl) Tryz.func6 (by kernel_rfl)
  (of_decide_eq_true (by kernel_rfl)) (by unfold Func.isWrapper; first | (rw [if_pos (by decide +kernel)]; kernel_rfl) | (rw [if_neg (by decide +kernel)]; exact ⟨rfl, rfl⟩))
  (fun os started H enc _ => lifted os started H enc)
theorem proved : Rows.CommitBackSaid := over
end Go.Proofs.YtffdjnhhmfpkgaaGreat.commitBack