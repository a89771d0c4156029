/- For any key, bytes and message of at most 600 bytes each and any two tags the law HmacOpens of citadellaw04 returns true: Seal, Open and Same of hmac answer as the chapter says. Conditions: none beyond those that the statement itself prints. -/
import Derived.Test.YtgkmkkfnpoapfaaDoorRows
import Derived.Test.YtgkmkkfnpoapfaaDoorTie
import Derived.Test.YtgkmkkfnpoapfaaDoorCards
import Derived.Test.YtgkmkkfnpoapfaaDoorShaLaid
import Derived.Test.YtgkmkkfnpoapfaaDoorHmacW
import Derived.Test.YtgkmkkfnpoapfaaDoorArrEq
import Derived.Deep.RegionHeld
import Derived.WalkKit
import Derived.ProofKit
import Derived.OpenShut
import Derived.ShutString
import Derived.ChangeOld
import Derived.Below
namespace Go.Proofs.YtgkmkkfnpoapfaaDoor.hmacOpens
open Go.ChangeShapes Go.WideShapes Go.ChangeAt Go.RowKit
open Go.ChangeMaps (open_string shut_string)
set_option linter.unusedVariables false
set_option linter.unusedSimpArgs false

theorem own : ownKnob Tryd.prog.godebug = none := by kernel_rfl
theorem laidOut : laidOutB Tryd.prog = true := by kernel_rfl

theorem arr_bytes {z : List Int} (hl : z.length = 32) (hwf : ∀ x ∈ z, (Lit.int .u8 x).wf = true) : (z.map (Value.int .u8)).toArray = arrB (bytesIn z) ∧ (bytesIn z).length = 32 := by
  refine ⟨?_, by simp [bytesIn, hl]⟩
  unfold arrB bytesIn
  rw [List.map_map]
  congr 1
  refine List.map_congr_left fun x hx => ?_
  obtain ⟨h1, h2⟩ := wf_u8 (hwf x hx)
  simp only [Function.comp, bval]
  congr 1
  rw [← u8_mod]
  omega
set_option maxRecDepth 100000 in
set_option maxHeartbeats 4000000 in
theorem walk (a0 : Option Addr) (len0 cap0 : Nat) (z0 : List Int) (a1 : Option Addr) (len1 cap1 : Nat) (z1 : List Int) (a2 : Option Addr) (len2 cap2 : Nat) (z2 : List Int) (z3 : List Int) (z4 : List Int) (w : World) (hpr : Pr w) (w0 : IsRow .u8 w a0 len0 cap0 z0) (w1 : IsRow .u8 w a1 len1 cap1 z1) (w2 : IsRow .u8 w a2 len2 cap2 z2) (w3 : z3.length = 32 ∧ ∀ z ∈ z3, (Lit.int .u8 z).wf = true) (w4 : z4.length = 32 ∧ ∀ z ∈ z4, (Lit.int .u8 z).wf = true) :
    Calls Tryd.prog 5 #[.slice a0 len0 cap0, .slice a1 len1 cap1, .slice a2 len2 cap2, .agg (z3.map (Value.int .u8)).toArray, .agg (z4.map (Value.int .u8)).toArray] w fun e w' => e = .returned (.bool true) ∧ Below w.heap.size w w' := by
  obtain ⟨hl3, hwf3⟩ := w3
  obtain ⟨hl4, hwf4⟩ := w4
  obtain ⟨harr3, hx⟩ := arr_bytes hl3 hwf3
  obtain ⟨harr4, hy⟩ := arr_bytes hl4 hwf4
  rw [harr3, harr4]
  generalize bytesIn z3 = X at hx
  generalize bytesIn z4 = Y at hy
  clear harr3 harr4 hl3 hl4 hwf3 hwf4
  obtain ⟨r0, hcap0, hcap0'⟩ := w0.rd
  obtain ⟨r1, hcap1, hcap1'⟩ := w1.rd
  obtain ⟨r2, hcap2, hcap2'⟩ := w2.rd
  generalize bytesIn (z0.take len0) = kk at r0
  generalize bytesIn (z1.take len1) = bs at r1
  generalize bytesIn (z2.take len2) = ms at r2
  clear w0 w1 w2
  have HX := Lib.hid hx
  have HY := Lib.hid hy
  obtain ⟨h1, h2⟩ := two_blocks w (arrB X) (arrB Y) 25
  have TX : Hid (TagAt ((w.alloc (.cells (arrB X) 25)).alloc (.cells (arrB Y) 25)) w.heap.size X) := ⟨hx, h1⟩
  have TY : Hid (TagAt ((w.alloc (.cells (arrB X) 25)).alloc (.cells (arrB Y) 25)) (w.heap.size + 1) Y) := ⟨hy, h2⟩
  have B : Hid (Below w.heap.size w ((w.alloc (.cells (arrB X) 25)).alloc (.cells (arrB Y) 25))) := ((Below.refl _ _).alloc (Nat.le_refl _) _).alloc (by simp) _
  have R := Lib.hid (r0.to B.out)
  have S := Lib.hid (r1.to B.out)
  have M := Lib.hid (r2.to B.out)
  have HP := Lib.hid (hpr.to B.out)
  clear r0 r1 r2 h1 h2 hpr
  by_cases hout : 600 < len0 ∨ 600 < len1 ∨ 600 < len2
  · clear hx hy R S M HP TX TY
    go_enter Tryd.func5, Tryd.ntmps5
    by_cases h1 : 600 < len0
    · go_wp2_with fail
      go_ret
      exact ⟨rfl, B.out⟩
    by_cases h2 : 600 < len1
    · go_wp2_with fail
      go_ret
      exact ⟨rfl, B.out⟩
    have h3 : 600 < len2 := by omega
    go_wp2_with fail
    go_ret
    exact ⟨rfl, B.out⟩
  have hl0 : len0 ≤ 600 := by omega
  have hl1 : len1 ≤ 600 := by omega
  have hl2 : len2 ≤ 600 := by omega
  clear hout
  go_enter Tryd.func5, Tryd.ntmps5
  go_wp2_with fail
  generalize ((w.alloc (.cells (arrB X) 25)).alloc (.cells (arrB Y) 25)) = w0 at *
  have HSL : Hid (∀ n, (sealL kk bs).length = n → n ≤ 632) := fun n h => by
    rw [sealL_len, S.out.1] at h
    omega
  refine (wSeal a0 a1 len0 len1 cap0 cap1 kk bs w0 HP.out R.out S.out (by omega) hcap0 hcap0' (by omega)).mono ?_
  rintro e w1 ⟨A1, n1, c1, rfl, hown1, hb⟩
  have U := Lib.hid (Rd.of_own hown1)
  have hn1 : n1 ≤ 632 := HSL.out _ U.out.1
  replace HP := Lib.hid (HP.out.to hb)
  replace TX := Lib.hid (TX.out.below hb)
  replace TY := Lib.hid (TY.out.below hb)
  clear hown1
  replace R := Lib.hid (R.out.to hb)
  replace S := Lib.hid (S.out.to hb)
  replace M := Lib.hid (M.out.to hb)
  replace B := Lib.hid (B.out.trans (hb.mono B.out.size))
  clear hb
  go_wp2_with fail
  refine (wOpen a0 a2 len0 len2 cap0 cap2 kk ms w1 HP.out R.out M.out (by omega) hcap0 hcap0' (by omega) hcap2 hcap2').mono ?_
  rintro e w2 ⟨A2, n2, c2, rfl, ho2, _, _, hb⟩
  have V := Lib.hid ho2.1
  have HOL : Hid (∀ n, (openL kk ms).length = n → n ≤ 600) := fun n h => by
    have h3 : (openL kk ms).length ≤ ms.length := by
      unfold openL
      split
      · rw [List.length_take]; omega
      · simp
    rw [M.out.1] at h3
    omega
  have hn2 : n2 ≤ 600 := HOL.out _ V.out.1
  replace TX := Lib.hid (TX.out.below hb)
  replace TY := Lib.hid (TY.out.below hb)
  clear ho2 HP
  replace R := Lib.hid (R.out.to hb)
  replace S := Lib.hid (S.out.to hb)
  replace M := Lib.hid (M.out.to hb)
  replace U := Lib.hid (U.out.to hb)
  replace B := Lib.hid (B.out.trans (hb.mono B.out.size))
  clear hb
  go_wp2_with fail
  refine (rOpen a0 a2 len0 len2 cap0 cap2 kk ms w2 R.out M.out (by omega) (by omega) hcap2 hcap2').mono ?_
  rintro e w3 ⟨A3, n3, c3, rfl, ho3, _, _, hb⟩
  have Z := Lib.hid ho3.1
  have hn3 : n3 ≤ 600 := HOL.out _ Z.out.1
  replace TX := Lib.hid (TX.out.below hb)
  replace TY := Lib.hid (TY.out.below hb)
  clear ho3 M
  replace R := Lib.hid (R.out.to hb)
  replace S := Lib.hid (S.out.to hb)
  replace U := Lib.hid (U.out.to hb)
  replace V := Lib.hid (V.out.to hb)
  replace B := Lib.hid (B.out.trans (hb.mono B.out.size))
  clear hb
  generalize openOk kk ms = ok at *
  have heq : ∀ w', (Op.equalIn 10000 25 (.agg (X.map bval).toArray) (.agg (Y.map bval).toArray)).run Tryd.prog w' = .ok (decide (X = Y)) w' := fun w' => run_eql_arrB (P := Tryd.prog) Tryd.underlying25 Tryd.underlying5 (sizeOf_one (by kernel_rfl)) X Y hx hy w'
  have hu := Tryd.underlying25
  have hix : (Tryd.prog.info? 25).map (·.size) = some (X.map bval).length := by rw [List.length_map, hx]; exact (zero_of_info tag_info).2
  have hiy : (Tryd.prog.info? 25).map (·.size) = some (Y.map bval).length := by rw [List.length_map, hy]; exact (zero_of_info tag_info).2
  have hgd : Tryd.prog.eqGuardType Tryd.prog.depth 25 = false := by kernel_rfl
  have hgb : Tryd.prog.eqGuardType Tryd.prog.depth 4 = false := by kernel_rfl
  clear hx hy
  obtain ⟨eq, heqv⟩ : ∃ b, decide (X = Y) = b := ⟨_, rfl⟩
  rw [heqv] at heq
  have HEQ := Lib.hid heqv
  clear heqv
  go_wp2_with fail
  replace R := Lib.hid R.out.drew'
  replace S := Lib.hid S.out.drew'
  replace U := Lib.hid U.out.drew'
  replace V := Lib.hid V.out.drew'
  replace Z := Lib.hid Z.out.drew'
  replace TX : Hid (TagAt w3.drew w.heap.size X) := TX.out
  replace TY : Hid (TagAt w3.drew (w.heap.size + 1) Y) := TY.out
  replace B := Lib.hid B.out.drew
  generalize hwd : w3.drew = wd at *
  have HWD := Lib.hid hwd
  clear hwd
  refine wp_region_held_drew (S := (fun w' => w'.rangeAt w.heap.size 0 (X.map bval) ∧ w'.rangeAt (w.heap.size + 1) 0 (Y.map bval))) (by kernel_rfl) ((by rw [HWD.out]; exact ⟨TX.out.range, TY.out.range⟩)) (fun hHeld => ?_)
  rw [HWD.out] at hHeld ⊢
  refine wpAnyH_take (i := 0) (v := ?_) rfl (by kernel_rfl) (by kernel_rfl) (by kernel_rfl) (fun _ _ _ h => h) (Or.inl ⟨by rfl, ?_⟩) (by assumption) ?_
  rotate_left 1
  · intro w hSw; (try dsimp only at hSw); go_simp; (try with_reducible rfl)
  simp only [Act.put, List.getElem_toArray, List.getElem_cons_zero, List.getElem_cons_succ, List.setIfInBounds_toArray, List.set_cons_zero, List.set_cons_succ]
  refine wpAnyH_take (i := 1) (v := ?_) rfl (by kernel_rfl) (by kernel_rfl) (by kernel_rfl) (fun _ _ _ h => h) (Or.inl ⟨by rfl, ?_⟩) (by assumption) ?_
  rotate_left 1
  · intro w hSw; (try dsimp only at hSw); go_simp; (try with_reducible rfl)
  simp only [Act.put, List.getElem_toArray, List.getElem_cons_zero, List.getElem_cons_succ, List.setIfInBounds_toArray, List.set_cons_zero, List.set_cons_succ]
  refine wpAnyH_take (i := 2) (v := ?_) rfl (by kernel_rfl) (by kernel_rfl) (by kernel_rfl) (fun _ _ _ h => h) (Or.inl ⟨by rfl, ?_⟩) (by assumption) ?_
  rotate_left 1
  · intro w hSw; (try dsimp only at hSw); go_simp; (try with_reducible rfl)
  simp only [Act.put, List.getElem_toArray, List.getElem_cons_zero, List.getElem_cons_succ, List.setIfInBounds_toArray, List.set_cons_zero, List.set_cons_succ]
  refine wpAnyH_ready (rs := [3]) (by kernel_rfl) (by simp) ?_
  refine AllReadyH.cons rfl (fun K hK => ?_) AllReadyH.nil
  go_simp
  refine (rSeal a0 a1 len0 len1 cap0 cap1 kk bs _ R.out S.out (by omega) (by omega)).mono ?_
  rintro e w4 ⟨A4, n4, c4, rfl, hown4, hb⟩
  have O := Lib.hid (Rd.of_own hown4)
  have hn4 : n4 ≤ 632 := HSL.out _ O.out.1
  replace U := Lib.hid (U.out.to hb)
  replace V := Lib.hid (V.out.to hb)
  replace Z := Lib.hid (Z.out.to hb)
  replace TX := Lib.hid (TX.out.below hb)
  replace TY := Lib.hid (TY.out.below hb)
  replace B := Lib.hid (B.out.trans (hb.mono B.out.size))
  clear hb hown4
  go_wp2_with fail
  refine hK.out _ _ (⟨TX.out.range, TY.out.range⟩) (fun hHeld => ?_)
  clear hK K
  refine wpAnyH_ready (rs := [4]) (by kernel_rfl) (by simp) ?_
  refine AllReadyH.cons rfl (fun K hK => ?_) AllReadyH.nil
  go_simp
  refine (refSameBT A1 A4 n1 n4 c1 c4 _ _ _ rfl U.out O.out (by omega) (by omega)).mono ?_
  rintro e w5 ⟨rfl, hb⟩
  replace V := Lib.hid (V.out.to hb)
  replace Z := Lib.hid (Z.out.to hb)
  replace TX := Lib.hid (TX.out.below hb)
  replace TY := Lib.hid (TY.out.below hb)
  replace B := Lib.hid (B.out.trans (hb.mono B.out.size))
  clear hb O
  go_wp2_with fail
  refine hK.out _ _ (⟨TX.out.range, TY.out.range⟩) (fun hHeld => ?_)
  clear hK K
  refine wpAnyH_take (i := 5) (v := ?_) rfl (by kernel_rfl) (by kernel_rfl) (by kernel_rfl) (fun _ _ _ h => h) (Or.inl ⟨by rfl, ?_⟩) (by assumption) ?_
  rotate_left 1
  · intro w hSw; (try dsimp only at hSw); go_simp; (try with_reducible rfl)
  simp only [Act.put, List.getElem_toArray, List.getElem_cons_zero, List.getElem_cons_succ, List.setIfInBounds_toArray, List.set_cons_zero, List.set_cons_succ]
  refine wpAnyH_take (i := 6) (v := ?_) rfl (by kernel_rfl) (by kernel_rfl) (by kernel_rfl) (fun _ _ _ h => h) (Or.inl ⟨by rfl, ?_⟩) (by assumption) ?_
  rotate_left 1
  · intro w hSw; (try dsimp only at hSw); go_simp; (try with_reducible rfl)
  simp only [Act.put, List.getElem_toArray, List.getElem_cons_zero, List.getElem_cons_succ, List.setIfInBounds_toArray, List.set_cons_zero, List.set_cons_succ]
  refine wpAnyH_take (i := 7) (v := ?_) rfl (by kernel_rfl) (by kernel_rfl) (by kernel_rfl) (fun _ _ _ h => h) (Or.inl ⟨by rfl, ?_⟩) (by assumption) ?_
  rotate_left 1
  · intro w hSw; (try dsimp only at hSw); go_simp; (try with_reducible rfl)
  simp only [Act.put, List.getElem_toArray, List.getElem_cons_zero, List.getElem_cons_succ, List.setIfInBounds_toArray, List.set_cons_zero, List.set_cons_succ]
  refine wpAnyH_ready (rs := [8]) (by kernel_rfl) (by simp) ?_
  refine AllReadyH.cons rfl (fun K hK => ?_) AllReadyH.nil
  go_simp
  refine (refSameBT A2 A3 n2 n3 c2 c3 _ _ _ rfl V.out Z.out (by omega) (by omega)).mono ?_
  rintro e w6 ⟨rfl, hb⟩
  replace TX := Lib.hid (TX.out.below hb)
  replace TY := Lib.hid (TY.out.below hb)
  replace B := Lib.hid (B.out.trans (hb.mono B.out.size))
  clear hb
  go_wp2_with fail
  refine hK.out _ _ (⟨TX.out.range, TY.out.range⟩) (fun hHeld => ?_)
  clear hK K
  refine wpAnyH_take (i := 9) (v := ?_) rfl (by kernel_rfl) (by kernel_rfl) (by kernel_rfl) (fun _ _ _ h => h) (Or.inl ⟨by rfl, ?_⟩) (by assumption) ?_
  rotate_left 1
  · intro w hSw; (try dsimp only at hSw); go_simp; (try with_reducible rfl)
  simp only [Act.put, List.getElem_toArray, List.getElem_cons_zero, List.getElem_cons_succ, List.setIfInBounds_toArray, List.set_cons_zero, List.set_cons_succ]
  refine wpAnyH_take (i := 10) (v := ?_) rfl (by kernel_rfl) (by kernel_rfl) (by kernel_rfl) (fun _ _ _ h => h) (Or.inl ⟨by rfl, ?_⟩) (by assumption) ?_
  rotate_left 1
  · intro w hSw; (try dsimp only at hSw); go_simp; (try with_reducible rfl)
  simp only [Act.put, List.getElem_toArray, List.getElem_cons_zero, List.getElem_cons_succ, List.setIfInBounds_toArray, List.set_cons_zero, List.set_cons_succ]
  refine wpAnyH_take (i := 11) (v := ?_) rfl (by kernel_rfl) (by kernel_rfl) (by kernel_rfl) (fun _ _ _ h => h) (Or.inl ⟨by rfl, ?_⟩) (by assumption) ?_
  rotate_left 1
  · intro w hSw; (try dsimp only at hSw); go_simp; (try with_reducible rfl)
  simp only [Act.put, List.getElem_toArray, List.getElem_cons_zero, List.getElem_cons_succ, List.setIfInBounds_toArray, List.set_cons_zero, List.set_cons_succ]
  refine wpAnyH_take (i := 12) (v := ?_) rfl (by kernel_rfl) (by kernel_rfl) (by kernel_rfl) (fun _ _ _ h => h) (Or.inl ⟨by rfl, ?_⟩) (by assumption) ?_
  rotate_left 1
  · intro w hSw; (try dsimp only at hSw); go_simp; (try with_reducible rfl)
  simp only [Act.put, List.getElem_toArray, List.getElem_cons_zero, List.getElem_cons_succ, List.setIfInBounds_toArray, List.set_cons_zero, List.set_cons_succ]
  refine wpAnyH_take (i := 13) (v := ?_) rfl (by kernel_rfl) (by kernel_rfl) (by kernel_rfl) (fun _ _ _ h => h) (Or.inl ⟨by rfl, ?_⟩) (by assumption) ?_
  rotate_left 1
  · intro w hSw; (try dsimp only at hSw); go_simp; (try with_reducible rfl)
  simp only [Act.put, List.getElem_toArray, List.getElem_cons_zero, List.getElem_cons_succ, List.setIfInBounds_toArray, List.set_cons_zero, List.set_cons_succ]
  refine wpAnyH_take (i := 14) (v := ?_) rfl (by kernel_rfl) (by kernel_rfl) (by kernel_rfl) (fun _ _ _ h => h) (Or.inl ⟨by rfl, ?_⟩) (by assumption) ?_
  rotate_left 1
  · intro w hSw; (try dsimp only at hSw); go_simp; (try with_reducible rfl)
  simp only [Act.put, List.getElem_toArray, List.getElem_cons_zero, List.getElem_cons_succ, List.setIfInBounds_toArray, List.set_cons_zero, List.set_cons_succ]
  refine wpAnyH_take (i := 15) (v := ?_) rfl (by kernel_rfl) (by kernel_rfl) (by kernel_rfl) (fun _ _ _ h => h) (Or.inl ⟨by rfl, ?_⟩) (by assumption) ?_
  rotate_left 1
  · intro w hSw; (try dsimp only at hSw); go_simp; (try with_reducible rfl)
  simp only [Act.put, List.getElem_toArray, List.getElem_cons_zero, List.getElem_cons_succ, List.setIfInBounds_toArray, List.set_cons_zero, List.set_cons_succ]
  refine wpAnyH_take (i := 16) (v := .agg (List.toArray (X.map bval))) rfl (by kernel_rfl) (by kernel_rfl) (by kernel_rfl) (fun _ _ _ h => h) (yieldsIf_load_mid (by rfl) 25 _ rfl w.heap.size 0 rfl (X.map bval) _ (fun _ h => h.1) hu rfl hix) (by assumption) ?_
  simp only [Act.put, List.getElem_toArray, List.getElem_cons_zero, List.getElem_cons_succ, List.setIfInBounds_toArray, List.set_cons_zero, List.set_cons_succ]
  refine wpAnyH_take (i := 19) (v := .agg (List.toArray (X.map bval))) rfl (by kernel_rfl) (by kernel_rfl) (by kernel_rfl) (fun _ _ _ h => h) (yieldsIf_load_mid (by rfl) 25 _ rfl w.heap.size 0 rfl (X.map bval) _ (fun _ h => h.1) hu rfl hix) (by assumption) ?_
  simp only [Act.put, List.getElem_toArray, List.getElem_cons_zero, List.getElem_cons_succ, List.setIfInBounds_toArray, List.set_cons_zero, List.set_cons_succ]
  refine wpAnyH_take (i := 17) (v := .agg (List.toArray (Y.map bval))) rfl (by kernel_rfl) (by kernel_rfl) (by kernel_rfl) (fun _ _ _ h => h) (yieldsIf_load_mid (by rfl) 25 _ rfl (w.heap.size + 1) 0 rfl (Y.map bval) _ (fun _ h => h.2) hu rfl hiy) (by assumption) ?_
  simp only [Act.put, List.getElem_toArray, List.getElem_cons_zero, List.getElem_cons_succ, List.setIfInBounds_toArray, List.set_cons_zero, List.set_cons_succ]
  refine wpAnyH_take (i := 20) (v := .agg (List.toArray (Y.map bval))) rfl (by kernel_rfl) (by kernel_rfl) (by kernel_rfl) (fun _ _ _ h => h) (yieldsIf_load_mid (by rfl) 25 _ rfl (w.heap.size + 1) 0 rfl (Y.map bval) _ (fun _ h => h.2) hu rfl hiy) (by assumption) ?_
  simp only [Act.put, List.getElem_toArray, List.getElem_cons_zero, List.getElem_cons_succ, List.setIfInBounds_toArray, List.set_cons_zero, List.set_cons_succ]
  refine wpAnyH_take (i := 21) (v := ?_) rfl (by kernel_rfl) (by kernel_rfl) (by kernel_rfl) (fun _ _ _ h => h) (Or.inl ⟨by rfl, ?_⟩) (by assumption) ?_
  rotate_left 1
  · intro w hSw; (try dsimp only at hSw); go_simp; (try with_reducible rfl)
  simp only [Act.put, List.getElem_toArray, List.getElem_cons_zero, List.getElem_cons_succ, List.setIfInBounds_toArray, List.set_cons_zero, List.set_cons_succ]
  refine wpAnyH_ready (rs := [18]) (by kernel_rfl) (by simp) ?_
  refine AllReadyH.cons rfl (fun K hK => ?_) AllReadyH.nil
  go_simp
  refine (wSameTag X Y _ HX.out HY.out).mono ?_
  rw [HEQ.out]
  rintro e w7 ⟨rfl, hb⟩
  replace TX := Lib.hid (TX.out.below hb)
  replace TY := Lib.hid (TY.out.below hb)
  replace B := Lib.hid (B.out.trans (hb.mono B.out.size))
  clear hb
  go_wp2_with fail
  refine hK.out _ _ (⟨TX.out.range, TY.out.range⟩) (fun hHeld => ?_)
  clear hK K
  refine wpAnyH_take (i := 22) (v := ?_) rfl (by kernel_rfl) (by kernel_rfl) (by kernel_rfl) (fun _ _ _ h => h) (Or.inl ⟨by rfl, ?_⟩) (by assumption) ?_
  rotate_left 1
  · intro w hSw; (try dsimp only at hSw); go_simp; (try with_reducible rfl)
  simp only [Act.put, List.getElem_toArray, List.getElem_cons_zero, List.getElem_cons_succ, List.setIfInBounds_toArray, List.set_cons_zero, List.set_cons_succ]
  refine wpAnyH_take (i := 23) (v := ?_) rfl (by kernel_rfl) (by kernel_rfl) (by kernel_rfl) (fun _ _ _ h => h) (Or.inl ⟨by rfl, ?_⟩) (by assumption) ?_
  rotate_left 1
  · intro w hSw; (try dsimp only at hSw); go_simp; (try with_reducible rfl)
  simp only [Act.put, List.getElem_toArray, List.getElem_cons_zero, List.getElem_cons_succ, List.setIfInBounds_toArray, List.set_cons_zero, List.set_cons_succ]
  refine wpAnyH_take (i := 24) (v := ?_) rfl (by kernel_rfl) (by kernel_rfl) (by kernel_rfl) (fun _ _ _ h => h) (Or.inl ⟨by rfl, ?_⟩) (by assumption) ?_
  rotate_left 1
  · intro w hSw; (try dsimp only at hSw); go_simp; (try with_reducible rfl)
  simp only [Act.put, List.getElem_toArray, List.getElem_cons_zero, List.getElem_cons_succ, List.setIfInBounds_toArray, List.set_cons_zero, List.set_cons_succ]
  refine wpAnyH_take (i := 25) (v := .agg (List.toArray (X.map bval))) rfl (by kernel_rfl) (by kernel_rfl) (by kernel_rfl) (fun _ _ _ h => h) (yieldsIf_load_mid (by rfl) 25 _ rfl w.heap.size 0 rfl (X.map bval) _ (fun _ h => h.1) hu rfl hix) (by assumption) ?_
  simp only [Act.put, List.getElem_toArray, List.getElem_cons_zero, List.getElem_cons_succ, List.setIfInBounds_toArray, List.set_cons_zero, List.set_cons_succ]
  refine wpAnyH_take (i := 26) (v := .agg (List.toArray (X.map bval))) rfl (by kernel_rfl) (by kernel_rfl) (by kernel_rfl) (fun _ _ _ h => h) (yieldsIf_load_mid (by rfl) 25 _ rfl w.heap.size 0 rfl (X.map bval) _ (fun _ h => h.1) hu rfl hix) (by assumption) ?_
  simp only [Act.put, List.getElem_toArray, List.getElem_cons_zero, List.getElem_cons_succ, List.setIfInBounds_toArray, List.set_cons_zero, List.set_cons_succ]
  refine wpAnyH_ready (rs := [27]) (by kernel_rfl) (by simp) ?_
  refine AllReadyH.cons rfl (fun K hK => ?_) AllReadyH.nil
  go_simp
  refine (wSameTag X X _ HX.out HX.out).mono ?_
  rw [show decide (X = X) = true from decide_eq_true rfl]
  rintro e w8 ⟨rfl, hb⟩
  replace TX := Lib.hid (TX.out.below hb)
  replace TY := Lib.hid (TY.out.below hb)
  replace B := Lib.hid (B.out.trans (hb.mono B.out.size))
  clear hb
  go_wp2_with fail
  refine hK.out _ _ (⟨TX.out.range, TY.out.range⟩) (fun hHeld => ?_)
  clear hK K
  refine wpAnyH_take (i := 28) (v := ?_) rfl (by kernel_rfl) (by kernel_rfl) (by kernel_rfl) (fun _ _ _ h => h) (Or.inl ⟨by rfl, ?_⟩) (by assumption) ?_
  rotate_left 1
  · intro w hSw; (try dsimp only at hSw); go_simp; (try with_reducible rfl)
  simp only [Act.put, List.getElem_toArray, List.getElem_cons_zero, List.getElem_cons_succ, List.setIfInBounds_toArray, List.set_cons_zero, List.set_cons_succ]
  refine wpAnyH_take (i := 29) (v := ?_) rfl (by kernel_rfl) (by kernel_rfl) (by kernel_rfl) (fun _ _ _ h => h) (Or.inl ⟨by rfl, ?_⟩) (by assumption) ?_
  rotate_left 1
  · intro w hSw; (try dsimp only at hSw); go_simp; (try with_reducible rfl)
  simp only [Act.put, List.getElem_toArray, List.getElem_cons_zero, List.getElem_cons_succ, List.setIfInBounds_toArray, List.set_cons_zero, List.set_cons_succ]
  refine wpAnyH_done (by kernel_rfl) ?_ _
  go_wp2_with fail
  go_ret
  exact ⟨rfl, B.out⟩

set_option maxRecDepth 100000 in
theorem lifted (os : Os) (started : os.Started) (H : Type) (enc : TypeId × Value → H) :
    ReturnsInHanded {} Tryd.checked os 5 .any (fun w args => (Rows.hmacOpensSpec.pre enc Tryd.prog Tryd.f5 Rows.hmacOpensRow.domain false w args ∧ laidMetH Tryd.prog Rows.hmacOpensRow.laid w) ∧ sizedMet enc Tryd.prog Tryd.f5 (OpenSpec.ofChange Rows.hmacOpensSpec) false w args)
      (Rows.hmacOpensSpec.post enc Tryd.prog Tryd.f5 false true false false) := by
  refine returnsInHanded_of_change_and (C := Tryd.checked) (X := fun w _ => laidMetH Tryd.prog Rows.hmacOpensRow.laid w) (fun _ _ _ hh h => h.of_heap hh) own started (by kernel_rfl) Tryd.func5
    (ChangeSpec.witness_shaped (enc := enc) (C := Tryd.checked) (os := os) (X := fun w _ => laidMetH Tryd.prog Rows.hmacOpensRow.laid w) false (World.doorLaid Tryd.prog 400 os) #[.slice none 0 0, .slice none 0 0, .slice none 0 0, .agg #[.int .u8 0, .int .u8 0, .int .u8 0, .int .u8 0, .int .u8 0, .int .u8 0, .int .u8 0, .int .u8 0, .int .u8 0, .int .u8 0, .int .u8 0, .int .u8 0, .int .u8 0, .int .u8 0, .int .u8 0, .int .u8 0, .int .u8 0, .int .u8 0, .int .u8 0, .int .u8 0, .int .u8 0, .int .u8 0, .int .u8 0, .int .u8 0, .int .u8 0, .int .u8 0, .int .u8 0, .int .u8 0, .int .u8 0, .int .u8 0, .int .u8 0, .int .u8 0], .agg #[.int .u8 0, .int .u8 0, .int .u8 0, .int .u8 0, .int .u8 0, .int .u8 0, .int .u8 0, .int .u8 0, .int .u8 0, .int .u8 0, .int .u8 0, .int .u8 0, .int .u8 0, .int .u8 0, .int .u8 0, .int .u8 0, .int .u8 0, .int .u8 0, .int .u8 0, .int .u8 0, .int .u8 0, .int .u8 0, .int .u8 0, .int .u8 0, .int .u8 0, .int .u8 0, .int .u8 0, .int .u8 0, .int .u8 0, .int .u8 0, .int .u8 0, .int .u8 0]] 8 rfl (World.shaped_of_RefB (by kernel_rfl) (by kernel_rfl)) (by kernel_rfl) (by kernel_rfl) (by kernel_rfl) (door_met os _)) ?_
  intro W base args ds gs before hval0 hW hcnd hsz0 hL _
  have hval : ∀ (j : Nat) t v, Tryd.f5.params[j]? = some t → args[j]? = some v → Value.okWide Tryd.prog W .any base t v := hval0
  have hW' := hW
  obtain ⟨p, q, hA0, hV, rfl, hfz, hnd⟩ := hW
  have hA : DataW.TrodAll enc Tryd.prog W 0 (fun _ => true) true Tryd.f5.params.toList args.toList ds p := hA0
  rw [Tryd.params5] at hA hval
  obtain ⟨v0, vs0, d0, ds0, p0, q0, hargs, rfl, rfl, h0, r0⟩ := trodAll_cons hA
  obtain ⟨v1, vs1, d1, ds1, p1, q1, rfl, rfl, rfl, h1, r1⟩ := trodAll_cons r0
  obtain ⟨v2, vs2, d2, ds2, p2, q2, rfl, rfl, rfl, h2, r2⟩ := trodAll_cons r1
  obtain ⟨v3, vs3, d3, ds3, p3, q3, rfl, rfl, rfl, h3, r3⟩ := trodAll_cons r2
  obtain ⟨v4, vs4, d4, ds4, p4, q4, rfl, rfl, rfl, h4, r4⟩ := trodAll_cons r3
  obtain ⟨rfl, rfl, rfl⟩ := trodAll_nil r4
  obtain rfl : args = #[v0, v1, v2, v3, v4] := by cases args; simp_all
  obtain ⟨rfl, rfl⟩ := trodVars_none hV
  obtain ⟨a0, len0, cap0, rfl⟩ := okWide_slice Tryd.underlying22 (hval 0 22 v0 rfl rfl)
  have k0 := h0
  have lt0 : ∀ x ∈ p0, x.block < W.heap.size := by obtain ⟨m, hm⟩ := k0; exact DataW.trod_lt m _ _ _ hm
  obtain ⟨z0, w0⟩ : ∃ zs, IsRow .u8 W a0 len0 cap0 zs := by
    obtain ⟨fuel, hf⟩ := h0
    rcases open_ints Tryd.underlying22 Tryd.underlying5 (by kernel_rfl) hf with ⟨hcs, _⟩ | ⟨x, l, c, zs, hcs, _, hl, hm, hz, _, hcell, hwz⟩
    · simp [Value.cells] at hcs
      obtain ⟨rfl, rfl, rfl⟩ := hcs
      exact ⟨[], .inl ⟨rfl, rfl, rfl, rfl⟩⟩
    · simp [Value.cells] at hcs
      obtain ⟨rfl, rfl, rfl⟩ := hcs
      exact ⟨zs, .inr ⟨_, rfl, hl, hm, by simpa using hz, hcell, hwz⟩⟩
  obtain ⟨a1, len1, cap1, rfl⟩ := okWide_slice Tryd.underlying22 (hval 1 22 v1 rfl rfl)
  have k1 := h1
  have lt1 : ∀ x ∈ p1, x.block < W.heap.size := by obtain ⟨m, hm⟩ := k1; exact DataW.trod_lt m _ _ _ hm
  obtain ⟨z1, w1⟩ : ∃ zs, IsRow .u8 W a1 len1 cap1 zs := by
    obtain ⟨fuel, hf⟩ := h1
    rcases open_ints Tryd.underlying22 Tryd.underlying5 (by kernel_rfl) hf with ⟨hcs, _⟩ | ⟨x, l, c, zs, hcs, _, hl, hm, hz, _, hcell, hwz⟩
    · simp [Value.cells] at hcs
      obtain ⟨rfl, rfl, rfl⟩ := hcs
      exact ⟨[], .inl ⟨rfl, rfl, rfl, rfl⟩⟩
    · simp [Value.cells] at hcs
      obtain ⟨rfl, rfl, rfl⟩ := hcs
      exact ⟨zs, .inr ⟨_, rfl, hl, hm, by simpa using hz, hcell, hwz⟩⟩
  obtain ⟨a2, len2, cap2, rfl⟩ := okWide_slice Tryd.underlying22 (hval 2 22 v2 rfl rfl)
  have k2 := h2
  have lt2 : ∀ x ∈ p2, x.block < W.heap.size := by obtain ⟨m, hm⟩ := k2; exact DataW.trod_lt m _ _ _ hm
  obtain ⟨z2, w2⟩ : ∃ zs, IsRow .u8 W a2 len2 cap2 zs := by
    obtain ⟨fuel, hf⟩ := h2
    rcases open_ints Tryd.underlying22 Tryd.underlying5 (by kernel_rfl) hf with ⟨hcs, _⟩ | ⟨x, l, c, zs, hcs, _, hl, hm, hz, _, hcell, hwz⟩
    · simp [Value.cells] at hcs
      obtain ⟨rfl, rfl, rfl⟩ := hcs
      exact ⟨[], .inl ⟨rfl, rfl, rfl, rfl⟩⟩
    · simp [Value.cells] at hcs
      obtain ⟨rfl, rfl, rfl⟩ := hcs
      exact ⟨zs, .inr ⟨_, rfl, hl, hm, by simpa using hz, hcell, hwz⟩⟩
  have k3 := h3
  have lt3 : ∀ x ∈ p3, x.block < W.heap.size := by obtain ⟨m, hm⟩ := k3; exact DataW.trod_lt m _ _ _ hm
  obtain ⟨z3, rfl, w3⟩ := open_arrK Tryd.underlying25 Tryd.underlying5 (by kernel_rfl) (by kernel_rfl) (hval 3 25 v3 rfl rfl) h3
  have k4 := h4
  have lt4 : ∀ x ∈ p4, x.block < W.heap.size := by obtain ⟨m, hm⟩ := k4; exact DataW.trod_lt m _ _ _ hm
  obtain ⟨z4, rfl, w4⟩ := open_arrK Tryd.underlying25 Tryd.underlying5 (by kernel_rfl) (by kernel_rfl) (hval 4 25 v4 rfl rfl) h4
  clear hA0 hval0
  refine (walk a0 len0 cap0 z0 a1 len1 cap1 z1 a2 len2 cap2 z2 z3 z4 W (pr_of_laid hL) w0 w1 w2 w3 w4).mono fun e W' ⟨he, bel⟩ => ?_
  subst he
  exact ⟨_, rfl, _, _, _, [], _, [], hW', trodAll_mk1 (shut_bool Tryd.underlying4 _), (trodAll_cons_mk (Below.trod laidOut (by kernel_rfl) (of_decide_eq_true (by kernel_rfl)) k0 bel lt0) (trodAll_cons_mk (Below.trod laidOut (by kernel_rfl) (of_decide_eq_true (by kernel_rfl)) k1 bel lt1) (trodAll_cons_mk (Below.trod laidOut (by kernel_rfl) (of_decide_eq_true (by kernel_rfl)) k2 bel lt2) (trodAll_cons_mk (Below.trod laidOut (by kernel_rfl) (of_decide_eq_true (by kernel_rfl)) k3 bel lt3) (trodAll_cons_mk (Below.trod laidOut (by kernel_rfl) (of_decide_eq_true (by kernel_rfl)) k4 bel lt4) trodAll_mk0))))), rfl, bel.frame _, fun h => by cases h⟩

theorem over : Rows.hmacOpensRow.holds Tryd.pinned (OpenSpec.ofChange Rows.hmacOpensSpec) :=
  OpenClaim.holds_of_wide 5 Tryd.f5 rfl rfl rfl rfl rfl rfl rfl ⟨rfl, rfl, rfl, rfl, rfl⟩ rfl rfl rfl rfl rfl (by kernel_rfl) Tryd.func5 (by kernel_rfl)
    (of_decide_eq_true (by kernel_rfl)) (by unfold Func.isWrapper; first | (rw [if_pos (by decide +kernel)]; kernel_rfl) | (rw [if_neg (by decide +kernel)]; exact ⟨rfl, rfl⟩))
    (fun os started H enc _ => lifted os started H enc)

theorem wants : ∀ (j : Nat) t, Tryd.f5.params[j]? = some t → Tryd.prog.wantsStandIn t = false := by
  intro j t ht
  rw [Tryd.params5] at ht
  rcases j with _ | j
  · obtain rfl : 22 = t := by simpa using ht
    kernel_rfl
  rcases j with _ | j
  · obtain rfl : 22 = t := by simpa using ht
    kernel_rfl
  rcases j with _ | j
  · obtain rfl : 22 = t := by simpa using ht
    kernel_rfl
  rcases j with _ | j
  · obtain rfl : 25 = t := by simpa using ht
    kernel_rfl
  rcases j with _ | j
  · obtain rfl : 25 = t := by simpa using ht
    kernel_rfl
  simp at ht
theorem proved : Rows.HmacOpensCardSaid :=
  Claim7.holds_tied_plain_at .later [] [.data] true Rows.hmacOpensCard.stood.harness Rows.hmacOpensCard.stood.looks over (fun _ h => by cases h) (by kernel_rfl) (fun _ h => by cases h) hmacOpens_row_tie rfl ⟨rfl, rfl⟩ (by kernel_rfl) rfl
    (fun f fn hf hfn => by
      obtain rfl : f = 5 := Option.some.inj ((show Tryd.prog.funcNamed "citadel/citadellaw04.HmacOpens" = some 5 by kernel_rfl).symm.trans hf) |>.symm
      obtain rfl : fn = Tryd.f5 := (Option.some.inj (Tryd.func5.symm.trans hfn)).symm
      exact ⟨by kernel_rfl, wants⟩)
    (by kernel_rfl)
end Go.Proofs.YtgkmkkfnpoapfaaDoor.hmacOpens
