/- For any record the law CommitNil of citadellaw16 returns true: a disk that nobody made has no records, and nothing is put there. Conditions: none beyond those that the statement itself prints. -/
import Derived.Test.YtffdjnhhmfpkgaaGreatTz
import Derived.Test.YtffdjnhhmfpkgaaGreatRows
import Derived.Test.YtffdjnhhmfpkgaaGreatRC
import Derived.Test.YtffdjnhhmfpkgaaGreatCmPd
import Derived.Test.YtffdjnhhmfpkgaaGreatR7
import Derived.Deep.RegionHeld
import Derived.WalkKit
import Derived.ProofKit
import Derived.OpenShut
import Derived.ShutString
import Derived.ChangeOld
import Derived.Below
namespace Go.Proofs.YtffdjnhhmfpkgaaGreat.commitNil
set_option maxRecDepth 1000000
set_option maxHeartbeats 8000000
open Go.ChangeShapes Go.WideShapes Go.ChangeAt Go.RowKit
open Go.ChangeMaps (open_string shut_string)
set_option linter.unusedVariables false
set_option linter.unusedSimpArgs false
theorem own : ownKnob Tryz.prog.godebug = none := by kernel_rfl
theorem laidOut : laidOutB Tryz.prog = true := by kernel_rfl
theorem walk (x0 : Rcd) (w : World) (w0 : x0.In) :
  Calls Tryz.prog 4 #[.agg (rcL x0).toArray] w fun e w' => e = .returned (.bool true) ∧ Below w.heap.size w w' := by
 have HI := qH w0
 clear w0
 have hz := rc_zero
 go_enter Tryz.func4, Tryz.ntmps4
 have b2 : Below w.heap.size w (w.alloc (.cells (rcL x0).toArray 34)) := (Below.refl _ _).alloc (Nat.le_refl _) _
 have XB := qH (RB.new w HI.out.hash)
 go_upto_region 1 with (fail)
 generalize w.alloc (.cells (rcL x0).toArray 34) = W2 at *
 have BL := qH b2
 clear b2
 go_wp2_with fail
 obtain ⟨W4, hW4⟩ : ∃ X, (W2.alloc (.cells #[.slice none 0 0, .map none, .bool false, .int .i64 0, Value.nilFunc] 62)).alloc (.cells #[.pointer none, .pointer (some ⟨W2.heap.size, 0, none⟩)] 24) = X := ⟨_, rfl⟩
 have hbl : Below W2.heap.size W2 W4 := by rw [← hW4]; exact ((Below.refl _ _).alloc (Nat.le_refl _) _).alloc (by simp) _
 have hsz : W4.heap.size = W2.heap.size + 2 := by rw [← hW4]; simp
 have hd1 : W4.heap[W2.heap.size]? = some (.cells #[.slice none 0 0, .map none, .bool false, .int .i64 0, Value.nilFunc] 62 (0, 0)) := by
  rw [← hW4]
  exact (((Below.refl _ (W2.alloc (.cells #[.slice none 0 0, .map none, .bool false, .int .i64 0, Value.nilFunc] 62))).alloc (Nat.le_refl _) _).block _ (by simp)).trans (heap_alloc_last _ _)
 have hrow : W4.heap[W2.heap.size + 1]? = some (.cells #[.pointer none, .pointer (some ⟨W2.heap.size, 0, none⟩)] 24 (0, 0)) := by
  rw [← hW4]
  have h := heap_alloc_last (W2.alloc (.cells #[.slice none 0 0, .map none, .bool false, .int .i64 0, Value.nilFunc] 62)) (.cells #[.pointer none, .pointer (some ⟨W2.heap.size, 0, none⟩)] 24)
  rw [show (W2.alloc (.cells #[.slice none 0 0, .map none, .bool false, .int .i64 0, Value.nilFunc] 62)).heap.size = W2.heap.size + 1 from by simp] at h
  exact h
 have hl0 : ∀ k, k < 2 → ∃ q, W4.cell? ⟨W2.heap.size + 1, k, none⟩ = some (.pointer q) ∧ DkNo W4 (.pointer q) := fun k hk => by
  match k, hk with
  | 0, _ => exact ⟨_, by rw [cell_of_row _ _ _ _ _ _ hrow]; rfl, .none _⟩
  | 1, _ => exact ⟨_, by rw [cell_of_row _ _ _ _ _ _ hrow]; rfl, .fresh _ _ hd1⟩
 rw [hW4]
 have L0 := qH hl0
 have LT1 : Hid (W2.heap.size + 1 < W4.heap.size) := by show _ < _; omega
 replace BL : Hid (Below w.heap.size w W4) := BL.out.trans (hbl.mono BL.out.size)
 replace XB := qH (XB.out.to hbl)
 clear hbl hsz hd1 hrow hl0 hW4
 generalize W2.heap.size + 1 = g1 at *
 go_loopw [5] (fun i wr => ∃ k : Nat, k ≤ 2 ∧ i = .int .i64 (k : Int) ∧ Below W4.heap.size W4 wr) (fun i _ => 2 - (intOf i).toNat)
 case atStart => exact ⟨0, by omega, rfl, Below.refl _ _⟩
 case round =>
  obtain ⟨k, hk, rfl, hb⟩ := hrel
  have Bwr := qH hb
  have HK : Hid (k ≤ 2) := hk
  clear hb hk
  by_cases hlt : k < 2
  ·have HLT : Hid (k < 2) := hlt
   obtain ⟨q, p0, p1⟩ := L0.out k hlt
   have P0 := qH p0
   have PD := qH p1
   clear p0 p1
   have y0 := (Bwr.out.cell LT1.out).trans P0.out
   go_wp2_with fail
   clear y0
   refine (cGetNo q wr (PD.out.to Bwr.out)).mono ?_
   rintro e wx ⟨rfl, hb⟩
   obtain ⟨t1, t2, t3, t4, t5⟩ := tw_is wx (x := Rcd.zero) (y := Rcd.zero) rfl rfl
   have T1 := qH t1
   have T2 := qH t2
   have B7 := qH ((Bwr.out.trans (hb.mono Bwr.out.size)).trans (t5.mono (Nat.le_trans Bwr.out.size hb.size)))
   have T3 := qH t3
   have T4 := qH t4
   clear hb t1 t2 t3 t4 t5
   go_upto_region 7 with (first | (refine wpList_store_row rfl 34 _ _ rfl wx.heap.size (rcL Rcd.zero).toArray rfl rfl 34 (rcL Rcd.zero).toArray T1.out (rc_size rfl) (rc_same rfl) (rc_one _) ?_) | (refine wpList_store_row rfl 34 _ _ rfl (wx.heap.size + 1) (rcL Rcd.zero).toArray rfl rfl 34 (rcL Rcd.zero).toArray T2.out (rc_size rfl) (rc_same rfl) (rc_one _) ?_))
   have hE : (((wx.alloc (.cells (rcL Rcd.zero).toArray 34)).alloc (.cells (rcL Rcd.zero).toArray 34)).setRow wx.heap.size (rcL Rcd.zero).toArray).setRow (wx.heap.size + 1) (rcL Rcd.zero).toArray = tw2 wx Rcd.zero Rcd.zero := rfl
   rw [hE]
   clear hE T1 T2
   generalize tw2 wx Rcd.zero Rcd.zero = w7 at *
   generalize wx.heap.size + 1 = gy at *
   generalize wx.heap.size = gx at *
   obtain ⟨wd, hwd⟩ : ∃ x, w7.drew = x := ⟨_, rfl⟩
   have BS : Below w7.heap.size w7 wd := by rw [← hwd]; exact (Below.refl _ _).drew
   replace B7 := qH (B7.out.trans (BS.mono B7.out.size))
   replace T3 := qH (T3.out.to BS)
   replace T4 := qH (T4.out.to BS)
   have XD := qH (XB.out.to B7.out)
   have P7 := qH ((B7.out.cell LT1.out).trans P0.out)
   have LT7 : Hid (g1 < wd.heap.size) := Nat.lt_of_lt_of_le LT1.out B7.out.size
   have S0 := qH (rc_size (r := Rcd.zero) rfl)
   have SX := qH (rc_size HI.out.hash)
   refine wp_region_held_drew (S := (fun w' => Below wd.heap.size wd w')) (by kernel_rfl) ((by rw [hwd]; exact Below.refl _ _)) (fun hHeld => ?_)
   rw [hwd] at hHeld ⊢
   clear hwd BS
   refine tk 0 ?_
   simp only [pR]
   refine tk 1 ?_
   simp only [pR]
   refine tk 2 ?_
   simp only [pR]
   refine tk 3 ?_
   simp only [pR]
   refine tk 4 ?_
   simp only [pR]
   refine tk 5 ?_
   simp only [pR]
   refine tw 6 rfl (by intro w hSw; (try dsimp only at hSw); (have x := (hSw.cell LT7.out).trans P7.out); clear hSw; go_simp; (try with_reducible rfl)) ?_
   simp only [pR]
   refine tl 7 (.agg (rcL x0).toArray) rfl (yieldsIf_load_row (by rfl) 34 _ rfl w.heap.size rfl 34 (rcL x0).toArray (0, 0) _ (fun w' h => (XD.out.to h).row) Tryz.underlying34 rfl SX.out) ?_
   simp only [pR]
   refine tk 9 ?_
   simp only [pR]
   clear hHeld
   refine rd1 8 (fun K hK => ?_)
   go_simp
   refine (cPutNo q x0 wd ((PD.out.to B7.out))).mono ?_
   rintro e w8 ⟨rfl, hb⟩
   have B8 := qH hb
   clear hb
   go_wp2_with fail
   refine hK.out _ _ (B8.out) (fun hHeld => ?_)
   clear hK K
   refine tk 10 ?_
   simp only [pR]
   refine tk 11 ?_
   simp only [pR]
   refine tk 12 ?_
   simp only [pR]
   refine tl 13 (.agg (rcL Rcd.zero).toArray) rfl (yieldsIf_load_row (by rfl) 34 _ rfl gx rfl 34 (rcL Rcd.zero).toArray (0, 0) _ (fun w' h => (T3.out.to h).row) Tryz.underlying34 rfl S0.out) ?_
   simp only [pR]
   refine tw 14 rfl (by intro w hSw; (try dsimp only at hSw); (have x := hz w); clear hSw; go_simp; (try with_reducible rfl)) ?_
   simp only [pR]
   refine wpAnyH_take (i := 15) (v := .bool false) rfl (by kernel_rfl) (by kernel_rfl) (by kernel_rfl) (fun _ _ _ h => h) (yieldsIf_neB (by rfl) _ _ rfl Rcd.zero Rcd.zero rfl rfl rfl rfl false (same_rc _)) (by assumption) ?_
   simp only [pR]
   refine tk 16 ?_
   simp only [pR]
   refine tk 17 ?_
   simp only [pR]
   refine tl 18 (.agg (rcL Rcd.zero).toArray) rfl (yieldsIf_load_row (by rfl) 34 _ rfl gy rfl 34 (rcL Rcd.zero).toArray (0, 0) _ (fun w' h => (T4.out.to h).row) Tryz.underlying34 rfl S0.out) ?_
   simp only [pR]
   refine tl 19 (.agg (rcL Rcd.zero).toArray) rfl (yieldsIf_load_row (by rfl) 34 _ rfl gx rfl 34 (rcL Rcd.zero).toArray (0, 0) _ (fun w' h => (T3.out.to h).row) Tryz.underlying34 rfl S0.out) ?_
   simp only [pR]
   refine wpAnyH_take (i := 20) (v := .bool false) rfl (by kernel_rfl) (by kernel_rfl) (by kernel_rfl) (fun _ _ _ h => h) (yieldsIf_neB (by rfl) _ _ rfl Rcd.zero Rcd.zero rfl rfl rfl rfl false (same_rc _)) (by assumption) ?_
   simp only [pR]
   refine tk 21 ?_
   simp only [pR]
   refine wpAnyH_done (by kernel_rfl) ?_ _
   clear hHeld
   have BZ := qH (B7.out.trans (B8.out.mono B7.out.size))
   go_wp2_with fail
   go_roundw
   case rel => exact ⟨k + 1, HLT.out, by go_num, BZ.out⟩
   case measure => have := HLT.out; simp [intOf]; omega
  ·obtain rfl : 2 = k := by have := HK.out; omega
   go_wp2_with fail
   go_ret
   exact ⟨rfl, BL.out.trans (Bwr.out.mono BL.out.size)⟩
theorem lifted (os : Os) (started : os.Started) (H : Type) (enc : TypeId × Value → H) :
  ReturnsInHanded {} Tryz.checked os 4 .any (Rows.commitNilSpec.pre6 enc Tryz.prog Tryz.f4 Rows.commitNilRow.domain false) (Rows.commitNilSpec.post enc Tryz.prog Tryz.f4 false true false false) := by
 refine returnsInHanded_of_change (C := Tryz.checked) own started (by kernel_rfl) Tryz.func4
  (ChangeSpec.witness6 (enc := enc) (C := Tryz.checked) false ⟨#[], #[.agg #[.int .i64 0, .int .i64 0, .int .i64 0, .bool false, .int .u8 0, .int .u8 0, .int .u8 0, .int .u8 0, .int .u8 0, .int .u8 0, .int .u8 0, .int .u8 0, .int .u8 0, .int .u8 0, .int .u8 0, .int .u8 0, .int .u8 0, .int .u8 0, .int .u8 0, .int .u8 0, .int .u8 0, .int .u8 0, .int .u8 0, .int .u8 0, .int .u8 0, .int .u8 0, .int .u8 0, .int .u8 0, .int .u8 0, .int .u8 0, .int .u8 0, .int .u8 0, .int .u8 0, .int .u8 0, .int .u8 0, .int .u8 0]], []⟩ 8 (by kernel_rfl) (by kernel_rfl) (by kernel_rfl) (by kernel_rfl)) ?_
 intro W base args ds gs before hval0 hW hcnd _
 have hval : ∀ (j : Nat) t v, Tryz.f4.params[j]? = some t → args[j]? = some v → Value.okWide Tryz.prog W .any base t v := hval0
 have hW' := hW
 obtain ⟨p, q, hA0, hV, rfl, hfz, hnd⟩ := hW
 have hA : DataW.TrodAll enc Tryz.prog W 0 (fun _ => true) true Tryz.f4.params.toList args.toList ds p := hA0
 rw [Tryz.params4] at hA hval
 obtain ⟨v0, vs0, d0, ds0, p0, q0, hargs, rfl, rfl, h0, r0⟩ := trodAll_cons hA
 obtain ⟨rfl, rfl, rfl⟩ := trodAll_nil r0
 obtain rfl : args = #[v0] := by cases args; simp_all
 obtain ⟨rfl, rfl⟩ := trodVars_none hV
 have k0 := h0
 have lt0 : ∀ x ∈ p0, x.block < W.heap.size := by obtain ⟨m, hm⟩ := k0; exact DataW.trod_lt m _ _ _ hm
 obtain ⟨x0, rfl, w0⟩ := open_rc (hval 0 34 v0 rfl rfl) h0
 clear hA0 hval0
 refine (walk x0 W w0).mono fun e W' ⟨he, bel⟩ => ?_
 subst he
 exact ⟨_, rfl, _, _, _, [], _, [], hW', trodAll_mk1 (shut_bool Tryz.underlying4 _), (trodAll_cons_mk (Below.trod laidOut (by kernel_rfl) (of_decide_eq_true (by kernel_rfl)) k0 bel lt0) trodAll_mk0), rfl, bel.frame _, fun h => by cases h⟩
theorem over : Rows.commitNilRow.holds Tryz.pinned (OpenSpec.ofChange Rows.commitNilSpec) :=
 OpenClaim.holds_of_wide 4 Tryz.f4 rfl rfl rfl rfl rfl rfl rfl ⟨rfl, rfl, rfl, rfl, rfl⟩ rfl rfl rfl rfl rfl (by kernel_rfl) Tryz.func4 (by kernel_rfl)
  (of_decide_eq_true (by kernel_rfl)) (by unfold Func.isWrapper; first | (rw [if_pos (by decide +kernel)]; kernel_rfl) | (rw [if_neg (by decide +kernel)]; exact ⟨rfl, rfl⟩))
  (fun os started H enc _ => lifted os started H enc)
theorem proved : Rows.CommitNilSaid := over
end Go.Proofs.YtffdjnhhmfpkgaaGreat.commitNil