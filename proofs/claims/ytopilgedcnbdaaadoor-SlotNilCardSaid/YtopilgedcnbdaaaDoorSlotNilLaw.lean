/- For any act the law SlotNil of citadellaw15 returns true: of a disk that nobody made nothing is written to a slot, nor read. Conditions: none beyond those that the statement itself prints. -/
import Derived.Test.YtopilgedcnbdaaaDoorTz
import Derived.Test.YtopilgedcnbdaaaDoorRows
import Derived.Test.YtopilgedcnbdaaaDoorTie
import Derived.Test.YtopilgedcnbdaaaDoorCards
import Derived.Test.YtopilgedcnbdaaaDoorShaLaid
import Derived.Test.YtopilgedcnbdaaaDoorSlNx
import Derived.Deep.RegionHeld
import Derived.SizedLaws
import Derived.WalkKit
import Derived.ProofKit
import Derived.OpenShut
import Derived.ShutString
import Derived.ChangeOld
import Derived.Below
namespace Go.Proofs.YtopilgedcnbdaaaDoor.slotNil
set_option maxRecDepth 1000000
set_option maxHeartbeats 8000000
open Go.ChangeShapes Go.WideShapes Go.ChangeAt Go.RowKit
open Go.ChangeMaps (open_string shut_string)
set_option linter.unusedVariables false
set_option linter.unusedSimpArgs false
theorem own : ownKnob Tryd.prog.godebug = none := by kernel_rfl
theorem laidOut : laidOutB Tryd.prog = true := by kernel_rfl
theorem walk (x0 : SAct) (A0 : Option Addr) (m0 c0 : Nat) (w : World) (hpr : Pr w) (w0 : SActOk w w.heap.size x0 A0 m0 c0) :
  Calls Tryd.prog 3 #[.agg (sactL x0 A0 m0 c0).toArray] w fun e w' => e = .returned (.bool true) ∧ Below w.heap.size w w' := by
 have H := qH w0
 clear w0
 show Calls _ _ #[.agg #[.int .i64 x0.kind, .int .i64 x0.slot, .int .i64 x0.n, .slice A0 m0 c0, .bool x0.odd]] _ _
 obtain ⟨b0, b1, b2, b3, b4⟩ := sact_box w (.int .i64 x0.kind) (.int .i64 x0.slot) (.int .i64 x0.n) (.slice A0 m0 c0) (.bool x0.odd) 24 rfl
 have hz := tag_zero
 go_enter Tryd.func3, Tryd.ntmps3
 go_wp2_with fail
 obtain ⟨W1, hW1⟩ : ∃ X, w.alloc (.cells #[.int .i64 x0.kind, .int .i64 x0.slot, .int .i64 x0.n, .slice A0 m0 c0, .bool x0.odd] 24) = X := ⟨_, rfl⟩
 have h1 : Below w.heap.size w W1 := by rw [← hW1]; exact (Below.refl _ _).alloc (Nat.le_refl _) _
 have z1 : W1.heap.size = w.heap.size + 1 := by rw [← hW1]; simp
 rw [hW1] at b0 b1 b2 b3 b4 ⊢
 obtain ⟨g0, g1, g2, g3, g4⟩ := sact_box W1 (.int .i64 x0.kind) (.int .i64 x0.slot) (.int .i64 x0.n) (.slice A0 m0 c0) (.bool x0.odd) 24 rfl
 obtain ⟨W2, hW2⟩ : ∃ X, W1.alloc (.cells #[.int .i64 x0.kind, .int .i64 x0.slot, .int .i64 x0.n, .slice A0 m0 c0, .bool x0.odd] 24) = X := ⟨_, rfl⟩
 have h2 : Below W1.heap.size W1 W2 := by rw [← hW2]; exact (Below.refl _ _).alloc (Nat.le_refl _) _
 have z2 : W2.heap.size = W1.heap.size + 1 := by rw [← hW2]; simp
 rw [hW2] at g0 g1 g2 g3 g4 ⊢
 have hbl : Below w.heap.size w W2 := h1.trans (h2.mono h1.size)
 have hact : SActOk W2 W2.heap.size x0 A0 m0 c0 := (H.out.below hbl).more hbl.size
 have hra : RdSA W2 W2.heap.size (some ⟨W1.heap.size, 0, none⟩) 1 [x0] := ⟨rfl, fun _ => ⟨_, 0, rfl, by omega, fun j hj => by
  obtain rfl : j = 0 := by omega
  refine ⟨A0, m0, c0, fun i v hv => ?_, hact⟩
  match i, hv with
  | 0, hv => injection hv with hv; subst hv; exact g0
  | 1, hv => injection hv with hv; subst hv; exact g1
  | 2, hv => injection hv with hv; subst hv; exact g2
  | 3, hv => injection hv with hv; subst hv; exact g3
  | 4, hv => injection hv with hv; subst hv; exact g4
  | n + 5, hv => cases hv⟩⟩
 rw [z1] at hra
 have K1 : Hid (W2.cell? ⟨w.heap.size, 1, none⟩ = some (.int .i64 x0.slot)) := (h2.cell (by show w.heap.size < _; omega)).trans b1
 have K2 : Hid (W2.cell? ⟨w.heap.size, 2, none⟩ = some (.int .i64 x0.n)) := (h2.cell (by show w.heap.size < _; omega)).trans b2
 have K3 : Hid (W2.cell? ⟨w.heap.size, 3, none⟩ = some (.slice A0 m0 c0)) := (h2.cell (by show w.heap.size < _; omega)).trans b3
 have SZ : Hid (W2.heap.size = w.heap.size + 2) := by show _ = _; omega
 have BL := qH hbl
 have RA := qH hra
 clear b0 b1 b2 b3 b4 g0 g1 g2 g3 g4 hact hra hbl h1 h2 z1 z2 hW1 hW2
 refine (sGreat _ _ _ _ W2 RA.out (by decide)).mono ?_
 rintro e w3 ⟨gr, rfl, rfl, -⟩
 cases gr
 rotate_left 1
 ·go_wp2_with fail
  go_ret
  exact ⟨rfl, BL.out⟩
 go_wp2_with fail
 obtain ⟨W4, hW4⟩ : ∃ X, (W2.alloc (.cells #[.slice none 0 0, .map none, .bool false, .int .i64 0, Value.nilFunc] 34)).alloc (.cells #[.pointer none, .pointer (some ⟨W2.heap.size, 0, none⟩)] 27) = X := ⟨_, rfl⟩
 have hbl : Below W2.heap.size W2 W4 := by rw [← hW4]; exact ((Below.refl _ _).alloc (Nat.le_refl _) _).alloc (by simp) _
 have hsz : W4.heap.size = W2.heap.size + 2 := by rw [← hW4]; simp
 have hd1 : W4.heap[W2.heap.size]? = some (.cells #[.slice none 0 0, .map none, .bool false, .int .i64 0, Value.nilFunc] 34 (0, 0)) := by
  rw [← hW4]
  exact (((Below.refl _ (W2.alloc (.cells #[.slice none 0 0, .map none, .bool false, .int .i64 0, Value.nilFunc] 34))).alloc (Nat.le_refl _) _).block _ (by simp)).trans (heap_alloc_last _ _)
 have hrow : W4.heap[W2.heap.size + 1]? = some (.cells #[.pointer none, .pointer (some ⟨W2.heap.size, 0, none⟩)] 27 (0, 0)) := by
  rw [← hW4]
  have h := heap_alloc_last (W2.alloc (.cells #[.slice none 0 0, .map none, .bool false, .int .i64 0, Value.nilFunc] 34)) (.cells #[.pointer none, .pointer (some ⟨W2.heap.size, 0, none⟩)] 27)
  rw [show (W2.alloc (.cells #[.slice none 0 0, .map none, .bool false, .int .i64 0, Value.nilFunc] 34)).heap.size = W2.heap.size + 1 from by simp] at h
  exact h
 have hl0 : ∀ k, k < 2 → ∃ p, W4.cell? ⟨W2.heap.size + 1, k, none⟩ = some p ∧ DkNo W4 p := fun k hk => by
  match k, hk with
  | 0, _ => exact ⟨_, by rw [cell_of_row _ _ _ _ _ _ hrow]; rfl, .none _⟩
  | 1, _ => exact ⟨_, by rw [cell_of_row _ _ _ _ _ _ hrow]; rfl, .fresh _ _ hd1⟩
 rw [hW4]
 have L0 := qH hl0
 have LT0 : Hid (w.heap.size < W4.heap.size) := by show _ < _; have := SZ.out; omega
 have LT1 : Hid (W2.heap.size + 1 < W4.heap.size) := by show _ < _; omega
 replace BL : Hid (Below w.heap.size w W4) := BL.out.trans (hbl.mono BL.out.size)
 replace K1 : Hid (W4.cell? ⟨w.heap.size, 1, none⟩ = some (.int .i64 x0.slot)) := (hbl.cell (by have := SZ.out; show w.heap.size < _; omega)).trans K1.out
 replace K2 : Hid (W4.cell? ⟨w.heap.size, 2, none⟩ = some (.int .i64 x0.n)) := (hbl.cell (by have := SZ.out; show w.heap.size < _; omega)).trans K2.out
 replace K3 : Hid (W4.cell? ⟨w.heap.size, 3, none⟩ = some (.slice A0 m0 c0)) := (hbl.cell (by have := SZ.out; show w.heap.size < _; omega)).trans K3.out
 clear hbl hsz hd1 hrow hl0 hW4 RA H SZ
 generalize W2.heap.size + 1 = g1 at *
 go_loopw [5] (fun i wr => ∃ k : Nat, k ≤ 2 ∧ i = .int .i64 (k : Int) ∧ Below W4.heap.size W4 wr) (fun i _ => 2 - (intOf i).toNat)
 case atStart => exact ⟨0, by omega, rfl, Below.refl _ _⟩
 case round =>
  obtain ⟨k, hk, rfl, hb⟩ := hrel
  have Bwr := qH hb
  have HK : Hid (k ≤ 2) := hk
  clear hb hk
  by_cases hlt : k < 2
  ·have HLT : Hid (k < 2) := hlt
   obtain ⟨p, p0, p1⟩ := L0.out k hlt
   have P0 := qH p0
   have PD := qH p1
   clear p0 p1
   go_wp2_with fail
   have BD := qH Bwr.out.drew
   generalize hwd : wr.drew = wd at *
   have HWD := qH hwd
   clear hwd
   refine wp_region_held_drew (S := (fun w' => Below W4.heap.size W4 w')) (by kernel_rfl) ((by rw [HWD.out]; exact BD.out)) (fun hHeld => ?_)
   rw [HWD.out] at hHeld ⊢
   refine tk 0 ?_
   simp only [pR]
   refine tk 1 ?_
   simp only [pR]
   refine tk 2 ?_
   simp only [pR]
   refine tw 3 rfl (by intro w hSw; (try dsimp only at hSw); (have x := (hSw.cell LT1.out).trans P0.out); clear hSw; go_simp; (try with_reducible rfl)) ?_
   simp only [pR]
   refine tk 4 ?_
   simp only [pR]
   refine tw 5 rfl (by intro w hSw; (try dsimp only at hSw); (have x := (hSw.cell LT0.out).trans K1.out); clear hSw; go_simp; (try with_reducible rfl)) ?_
   simp only [pR]
   refine tk 6 ?_
   simp only [pR]
   refine tw 7 rfl (by intro w hSw; (try dsimp only at hSw); (have x := (hSw.cell LT0.out).trans K2.out); clear hSw; go_simp; (try with_reducible rfl)) ?_
   simp only [pR]
   refine rd1 8 (fun K hK => ?_)
   go_simp
   refine (slReadNo p x0.slot x0.n wd (PD.out.to BD.out)).mono ?_
   rintro e w5 ⟨rfl, hb⟩
   have B5 := qH (BD.out.trans (hb.mono BD.out.size))
   clear hb
   go_wp2_with fail
   refine hK.out _ _ (B5.out) (fun hHeld => ?_)
   clear hK K
   refine tk 9 ?_
   simp only [pR]
   refine tk 10 ?_
   simp only [pR]
   refine tk 11 ?_
   simp only [pR]
   refine tk 12 ?_
   simp only [pR]
   refine tk 13 ?_
   simp only [pR]
   refine wpAnyH_done (by kernel_rfl) ?_ _
   go_wp2_with fail
   have BE := qH B5.out.drew
   generalize hwe : w5.drew = we at *
   have HWE := qH hwe
   clear hwe hHeld BD HWD
   refine wp_region_held_drew (S := (fun w' => Below W4.heap.size W4 w')) (by kernel_rfl) ((by rw [HWE.out]; exact BE.out)) (fun hHeld => ?_)
   rw [HWE.out] at hHeld ⊢
   refine tk 0 ?_
   simp only [pR]
   refine tk 1 ?_
   simp only [pR]
   refine tk 2 ?_
   simp only [pR]
   refine tw 3 rfl (by intro w hSw; (try dsimp only at hSw); (have x := (hSw.cell LT1.out).trans P0.out); clear hSw; go_simp; (try with_reducible rfl)) ?_
   simp only [pR]
   refine tk 4 ?_
   simp only [pR]
   refine tw 5 rfl (by intro w hSw; (try dsimp only at hSw); (have x := (hSw.cell LT0.out).trans K1.out); clear hSw; go_simp; (try with_reducible rfl)) ?_
   simp only [pR]
   refine tk 6 ?_
   simp only [pR]
   refine tw 7 rfl (by intro w hSw; (try dsimp only at hSw); (have x := (hSw.cell LT0.out).trans K2.out); clear hSw; go_simp; (try with_reducible rfl)) ?_
   simp only [pR]
   refine tw 8 rfl (by intro w hSw; (try dsimp only at hSw); (have x := hz w); clear hSw; go_simp; (try with_reducible rfl)) ?_
   simp only [pR]
   refine rd1 9 (fun K hK => ?_)
   go_simp
   refine (slGetNo p x0.slot x0.n zeros32 we (PD.out.to BE.out)).mono ?_
   rintro e w6 ⟨rfl, hb⟩
   have B6 := qH (BE.out.trans (hb.mono BE.out.size))
   clear hb
   go_wp2_with fail
   refine hK.out _ _ (B6.out) (fun hHeld => ?_)
   clear hK K
   refine tk 10 ?_
   simp only [pR]
   refine tk 11 ?_
   simp only [pR]
   refine tk 12 ?_
   simp only [pR]
   refine tk 13 ?_
   simp only [pR]
   refine tk 14 ?_
   simp only [pR]
   refine wpAnyH_done (by kernel_rfl) ?_ _
   go_wp2_with fail
   have BF := qH B6.out.drew
   generalize hwf : w6.drew = wf at *
   have HWF := qH hwf
   clear hwf hHeld BE HWE B5
   refine wp_region_held_drew (S := (fun w' => Below W4.heap.size W4 w')) (by kernel_rfl) ((by rw [HWF.out]; exact BF.out)) (fun hHeld => ?_)
   rw [HWF.out] at hHeld ⊢
   refine tk 0 ?_
   simp only [pR]
   refine tk 1 ?_
   simp only [pR]
   refine tk 2 ?_
   simp only [pR]
   refine tk 3 ?_
   simp only [pR]
   refine tk 4 ?_
   simp only [pR]
   refine tk 5 ?_
   simp only [pR]
   refine tk 6 ?_
   simp only [pR]
   refine tk 7 ?_
   simp only [pR]
   refine tk 8 ?_
   simp only [pR]
   refine tk 9 ?_
   simp only [pR]
   refine tk 10 ?_
   simp only [pR]
   refine tw 11 rfl (by intro w hSw; (try dsimp only at hSw); (have x := (hSw.cell LT1.out).trans P0.out); clear hSw; go_simp; (try with_reducible rfl)) ?_
   simp only [pR]
   refine tk 12 ?_
   simp only [pR]
   refine tw 13 rfl (by intro w hSw; (try dsimp only at hSw); (have x := (hSw.cell LT0.out).trans K1.out); clear hSw; go_simp; (try with_reducible rfl)) ?_
   simp only [pR]
   refine tk 14 ?_
   simp only [pR]
   refine tw 15 rfl (by intro w hSw; (try dsimp only at hSw); (have x := (hSw.cell LT0.out).trans K2.out); clear hSw; go_simp; (try with_reducible rfl)) ?_
   simp only [pR]
   refine tk 16 ?_
   simp only [pR]
   refine tw 17 rfl (by intro w hSw; (try dsimp only at hSw); (have x := (hSw.cell LT0.out).trans K3.out); clear hSw; go_simp; (try with_reducible rfl)) ?_
   simp only [pR]
   refine tk 19 ?_
   simp only [pR]
   refine rd1 18 (fun K hK => ?_)
   go_simp
   refine (slWriteNo p x0.slot x0.n A0 m0 c0 wf (PD.out.to BF.out)).mono ?_
   rintro e w7 ⟨rfl, hb⟩
   have B7 := qH (BF.out.trans (hb.mono BF.out.size))
   clear hb
   go_wp2_with fail
   refine hK.out _ _ (B7.out) (fun hHeld => ?_)
   clear hK K
   refine tk 20 ?_
   simp only [pR]
   refine tk 21 ?_
   simp only [pR]
   refine tk 22 ?_
   simp only [pR]
   refine tk 23 ?_
   simp only [pR]
   refine tk 24 ?_
   simp only [pR]
   refine tk 25 ?_
   simp only [pR]
   refine tk 26 ?_
   simp only [pR]
   refine tk 27 ?_
   simp only [pR]
   refine tk 28 ?_
   simp only [pR]
   refine tk 29 ?_
   simp only [pR]
   refine wpAnyH_done (by kernel_rfl) ?_ _
   clear hHeld BF HWF B6
   go_wp2_with fail
   go_roundw
   case rel => exact ⟨k + 1, HLT.out, by go_num, B7.out⟩
   case measure => have := HLT.out; simp [intOf]; omega
  ·obtain rfl : 2 = k := by have := HK.out; omega
   go_wp2_with fail
   go_ret
   exact ⟨rfl, BL.out.trans (Bwr.out.mono BL.out.size)⟩
theorem lifted (os : Os) (started : os.Started) (H : Type) (enc : TypeId × Value → H) :
  ReturnsInHanded {} Tryd.checked os 3 .any (fun w args => (Rows.slotNilSpec.pre enc Tryd.prog Tryd.f3 Rows.slotNilRow.domain false w args ∧ laidMetH Tryd.prog Rows.slotNilRow.laid w) ∧ sizedMet enc Tryd.prog Tryd.f3 (OpenSpec.ofChange Rows.slotNilSpec) false w args)
   (Rows.slotNilSpec.post enc Tryd.prog Tryd.f3 false true false false) := by
 refine returnsInHanded_of_change_and (C := Tryd.checked) (X := fun w _ => laidMetH Tryd.prog Rows.slotNilRow.laid w) (fun _ _ _ hh h => h.of_heap hh) own started (by kernel_rfl) Tryd.func3
  (ChangeSpec.witness_shaped (enc := enc) (C := Tryd.checked) (os := os) (X := fun w _ => laidMetH Tryd.prog Rows.slotNilRow.laid w) false (World.doorLaid Tryd.prog 400 os) #[.agg #[.int .i64 0, .int .i64 0, .int .i64 0, .slice none 0 0, .bool false]] 8 rfl (World.shaped_of_RefB (by kernel_rfl) (by kernel_rfl)) (by kernel_rfl) (by kernel_rfl) (by kernel_rfl) (door_met os _)) ?_
 intro W base args ds gs before hval0 hW hcnd hsz0 hL _
 have hval : ∀ (j : Nat) t v, Tryd.f3.params[j]? = some t → args[j]? = some v → Value.okWide Tryd.prog W .any base t v := hval0
 have hsz : (DataW.weightsEach Tryd.prog (Tryd.f3.params.toList ++ Rows.slotNilSpec.plain.varTypes Tryd.prog) (ds ++ gs)).all (· ≤ reachBytes) = true := hsz0
 have hW' := hW
 obtain ⟨p, q, hA0, hV, rfl, hfz, hnd⟩ := hW
 have hA : DataW.TrodAll enc Tryd.prog W 0 (fun _ => true) true Tryd.f3.params.toList args.toList ds p := hA0
 rw [Tryd.params3] at hA hval hsz
 obtain ⟨v0, vs0, d0, ds0, p0, q0, hargs, rfl, rfl, h0, r0⟩ := trodAll_cons hA
 obtain ⟨rfl, rfl, rfl⟩ := trodAll_nil r0
 obtain rfl : args = #[v0] := by cases args; simp_all
 obtain ⟨rfl, rfl⟩ := trodVars_none hV
 have sz0 : ∀ x ∈ d0.weights Tryd.prog 24, x ≤ reachBytes := fun x hx => by simpa using List.all_eq_true.1 hsz _ (DataW.weights_mem_each (j := 0) rfl rfl x hx)
 have k0 := h0
 have lt0 : ∀ x ∈ p0, x.block < W.heap.size := by obtain ⟨m, hm⟩ := k0; exact DataW.trod_lt m _ _ _ hm
 obtain ⟨x0, A0, m0, c0, rfl, w0⟩ := open_sact (hval 0 24 v0 rfl rfl) h0 sz0
 clear hA0 hval0
 refine (walk x0 A0 m0 c0 W (pr_of_laid hL) w0).mono fun e W' ⟨he, bel⟩ => ?_
 subst he
 exact ⟨_, rfl, _, _, _, [], _, [], hW', trodAll_mk1 (shut_bool Tryd.underlying4 _), (trodAll_cons_mk (Below.trod laidOut (by kernel_rfl) (of_decide_eq_true (by kernel_rfl)) k0 bel lt0) trodAll_mk0), rfl, bel.frame _, fun h => by cases h⟩
theorem over : Rows.slotNilRow.holds Tryd.pinned (OpenSpec.ofChange Rows.slotNilSpec) :=
 OpenClaim.holds_of_wide 3 Tryd.f3 rfl rfl rfl rfl rfl rfl rfl ⟨rfl, rfl, rfl, rfl, rfl⟩ rfl rfl rfl rfl rfl (by kernel_rfl) Tryd.func3 (by kernel_rfl)
  (of_decide_eq_true (by kernel_rfl)) (by unfold Func.isWrapper; first | (rw [if_pos (by decide +kernel)]; kernel_rfl) | (rw [if_neg (by decide +kernel)]; exact ⟨rfl, rfl⟩))
  (fun os started H enc _ => lifted os started H enc)
theorem wants : ∀ (j : Nat) t, Tryd.f3.params[j]? = some t → Tryd.prog.wantsStandIn t = false := by
 intro j t ht
 rw [Tryd.params3] at ht
 rcases j with _ | j
 ·obtain rfl : 24 = t := by simpa using ht
  kernel_rfl
 simp at ht
theorem proved : Rows.SlotNilCardSaid :=
 Claim7.holds_tied_plain_at .later [] [.data] true Rows.slotNilCard.stood.harness Rows.slotNilCard.stood.looks over (fun _ h => by cases h) (by kernel_rfl) (fun _ h => by cases h) slotNil_row_tie rfl ⟨rfl, rfl⟩ (by kernel_rfl) rfl
  (fun f fn hf hfn => by
   obtain rfl : f = 3 := Option.some.inj ((show Tryd.prog.funcNamed "citadel/citadellaw15.SlotNil" = some 3 by kernel_rfl).symm.trans hf) |>.symm
   obtain rfl : fn = Tryd.f3 := (Option.some.inj (Tryd.func3.symm.trans hfn)).symm
   exact ⟨by kernel_rfl, wants⟩)
  (by kernel_rfl)
end Go.Proofs.YtopilgedcnbdaaaDoor.slotNil