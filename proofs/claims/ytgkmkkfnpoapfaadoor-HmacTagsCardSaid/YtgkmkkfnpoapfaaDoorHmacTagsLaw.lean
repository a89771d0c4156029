/- For any key and any bytes of at most 600 bytes each the law HmacTags of citadellaw04 returns true: Short and Sum of hmac answer as the chapter says, and leave what came in. Conditions: none beyond those that the statement itself prints. -/
import Derived.Test.YtgkmkkfnpoapfaaDoorRows
import Derived.Test.YtgkmkkfnpoapfaaDoorTie
import Derived.Test.YtgkmkkfnpoapfaaDoorCards
import Derived.Test.YtgkmkkfnpoapfaaDoorShaLaid
import Derived.Test.YtgkmkkfnpoapfaaDoorHmacW
import Derived.Test.YtgkmkkfnpoapfaaDoorArrEq
import Derived.Deep.RegionHeld
import Derived.WalkKit
import Derived.ProofKit
import Derived.OpenShut
import Derived.ShutString
import Derived.ChangeOld
import Derived.Below
namespace Go.Proofs.YtgkmkkfnpoapfaaDoor.hmacTags
open Go.ChangeShapes Go.WideShapes Go.ChangeAt Go.RowKit
open Go.ChangeMaps (open_string shut_string)
set_option linter.unusedVariables false
set_option linter.unusedSimpArgs false

theorem own : ownKnob Tryd.prog.godebug = none := by kernel_rfl
theorem laidOut : laidOutB Tryd.prog = true := by kernel_rfl

/-- The round that raises each byte of the short form: the tag stays. -/
def IncT (B n g : Nat) (A : Option Addr) (t : List UInt8) (w : World) (i : Value) (wr : World) : Prop :=
  ∃ (k : Nat) (bs : List UInt8), k ≤ n ∧ i = .int .i64 (k : Int) ∧ OwR wr B A n bs ∧ TagAt wr g t ∧ Below B w wr
set_option maxRecDepth 100000 in
set_option maxHeartbeats 4000000 in
theorem walk (a0 : Option Addr) (len0 cap0 : Nat) (z0 : List Int) (a1 : Option Addr) (len1 cap1 : Nat) (z1 : List Int) (w : World) (hpr : Pr w) (w0 : IsRow .u8 w a0 len0 cap0 z0) (w1 : IsRow .u8 w a1 len1 cap1 z1) :
    Calls Tryd.prog 3 #[.slice a0 len0 cap0, .slice a1 len1 cap1] w fun e w' => e = .returned (.bool true) ∧ Below w.heap.size w w' := by
  obtain ⟨r0, hcap0, hcap0'⟩ := w0.rd
  obtain ⟨r1, hcap1, hcap1'⟩ := w1.rd
  generalize bytesIn (z0.take len0) = kk at r0
  generalize bytesIn (z1.take len1) = bs at r1
  clear w0 w1
  have R := Lib.hid r0
  have S := Lib.hid r1
  clear r0 r1
  by_cases hout : 600 < len0 ∨ 600 < len1
  · go_enter Tryd.func3, Tryd.ntmps3
    by_cases h1 : 600 < len0
    · go_wp2_with fail
      go_ret
      exact ⟨rfl, Below.refl _ _⟩
    have h3 : 600 < len1 := by omega
    go_wp2_with fail
    go_ret
    exact ⟨rfl, Below.refl _ _⟩
  have hl0 : len0 ≤ 600 := by omega
  have hl1 : len1 ≤ 600 := by omega
  clear hout
  have hz := tag_zero
  have HP := Lib.hid hpr
  clear hpr
  go_enter Tryd.func3, Tryd.ntmps3
  go_wp2_with fail
  refine (refCopy a0 len0 cap0 kk w R.out (by omega)).mono ?_
  rintro e w1 ⟨A1, n1, c1, rfl, hown1, hb⟩
  have M := Lib.hid (Rd.of_own hown1)
  obtain rfl : n1 = len0 := (Rd.of_own hown1).1.symm.trans R.out.1
  obtain ⟨hcp1, hcp1'⟩ := own_cap hown1
  have B := Lib.hid hb
  replace HP := Lib.hid (HP.out.to hb)
  replace R := Lib.hid (R.out.to hb)
  replace S := Lib.hid (S.out.to hb)
  clear hown1 hb
  go_wp2_with fail
  refine (refCopy a1 len1 cap1 bs w1 S.out (by omega)).mono ?_
  rintro e w2 ⟨A2, n2, c2, rfl, hown2, hb⟩
  have N := Lib.hid (Rd.of_own hown2)
  obtain rfl : n2 = len1 := (Rd.of_own hown2).1.symm.trans S.out.1
  clear hown2
  replace HP := Lib.hid (HP.out.to hb)
  replace R := Lib.hid (R.out.to hb)
  replace S := Lib.hid (S.out.to hb)
  replace M := Lib.hid (M.out.to hb)
  replace B := Lib.hid (B.out.trans (hb.mono B.out.size))
  clear hb
  have HSL := Lib.hid (shortL_len kk)
  go_wp2_with fail
  refine (wShort A1 n1 c1 kk w2 HP.out M.out (by omega) hcp1 hcp1').mono ?_
  rintro e w3 ⟨A3, n3, c3, rfl, ho3, hcp3, hcp3', hb⟩
  have O := Lib.hid ho3
  have hn3 : n3 ≤ 64 := by rw [← ho3.1.1]; exact HSL.out
  have B2 := Lib.hid hb
  have HB3 : Hid (∀ b o, 0 < n3 → A3 = some ⟨b, o, none⟩ → b < w3.heap.size) := fun b o h0 e => by
    obtain ⟨b', o', e', hlt, _⟩ := ho3.1.2 h0
    rw [e] at e'
    injection e' with e'; injection e' with e1 _
    omega
  clear ho3 hb
  go_wp2_with fail
  refine (wHmac A1 A2 n1 n2 c1 c2 kk bs w3 (HP.out.to B2.out) (M.out.to B2.out) (N.out.to B2.out) (by omega) hcp1 hcp1' (by omega)).mono ?_
  have hcl := hmacL_len kk bs
  obtain ⟨t, ht⟩ : ∃ t, hmacL kk bs = t := ⟨_, rfl⟩
  rw [ht] at hcl
  have HT := Lib.hid ht
  clear ht
  rintro e w4 ⟨rfl, hb⟩
  rw [HT.out]
  have HG4 : Hid (w3.heap.size ≤ w4.heap.size) := hb.size
  replace O := Lib.hid (O.out.to hb)
  replace B2 := Lib.hid (B2.out.trans (hb.mono B2.out.size))
  clear hb
  have S1 := Lib.hid (tag_size hcl)
  have E1 : Hid ((arrB zeros32).size = (arrB t).size) := by
    show _ = _
    rw [arrB_size, arrB_size, hcl]; rfl
  go_wp2_with (refine wpList_store_row rfl 25 _ _ rfl w4.heap.size (arrB t) rfl rfl 25 (arrB zeros32) (heap_alloc_last w4 _) S1.out E1.out (arrB_one _) ?_; rw [World.setRow_alloc_new])
  have hb1 : Below w4.heap.size w4 (w4.alloc (.cells (arrB t) 25)) := (Below.refl _ _).alloc (Nat.le_refl _) _
  have T1 : Hid (TagAt (w4.alloc (.cells (arrB t) 25)) w4.heap.size t) := ⟨hcl, heap_alloc_last w4 _⟩
  replace O := Lib.hid (O.out.to hb1)
  replace B2 := Lib.hid (B2.out.trans (hb1.mono B2.out.size))
  have HLT : Hid (∀ b o, 0 < n3 → A3 = some ⟨b, o, none⟩ → b < w4.heap.size) := fun b o h0 e => Nat.lt_of_lt_of_le (HB3.out b o h0 e) HG4.out
  clear hb1 E1 hz HG4 HB3
  generalize w4.heap.size = g at *
  generalize w4.alloc (.cells (arrB t) 25) = w5 at *
  have heq : ∀ w', (Op.equalIn 10000 25 (.agg (t.map bval).toArray) (.agg (arrB t))).run Tryd.prog w' = .ok (decide (t = t)) w' := fun w' => run_eql_arrB (P := Tryd.prog) Tryd.underlying25 Tryd.underlying5 (sizeOf_one (by kernel_rfl)) t t hcl hcl w'
  have heq2 : ∀ w', (Op.equalIn 10000 25 (.agg (arrB t)) (.agg (t.map bval).toArray)).run Tryd.prog w' = .ok (decide (t = t)) w' := fun w' => run_eql_arrB (P := Tryd.prog) Tryd.underlying25 Tryd.underlying5 (sizeOf_one (by kernel_rfl)) t t hcl hcl w'
  have hu := Tryd.underlying25
  have hi : (Tryd.prog.info? 25).map (·.size) = some (t.map bval).length := by rw [List.length_map, hcl]; exact (zero_of_info tag_info).2
  have hgd : Tryd.prog.eqGuardType Tryd.prog.depth 25 = false := by kernel_rfl
  rw [show decide (t = t) = true from decide_eq_true rfl] at heq heq2
  replace O : Hid (OwR w5.drew w2.heap.size A3 n3 (shortL kk)) := O.out
  replace T1 : Hid (TagAt w5.drew g t) := T1.out
  replace B2 := Lib.hid B2.out.drew
  generalize hwd : w5.drew = wd at *
  have HWD := Lib.hid hwd
  clear hwd
  refine wp_region_held_drew (S := (fun w' => w'.rangeAt g 0 (t.map bval))) (by kernel_rfl) ((by rw [HWD.out]; exact T1.out.range)) (fun hHeld => ?_)
  rw [HWD.out] at hHeld ⊢
  refine wpAnyH_take (i := 0) (v := .agg (List.toArray (t.map bval))) rfl (by kernel_rfl) (by kernel_rfl) (by kernel_rfl) (fun _ _ _ h => h) (yieldsIf_load_mid (by rfl) 25 _ rfl g 0 rfl (t.map bval) _ (fun _ h => h) hu rfl hi) (by assumption) ?_
  simp only [Act.put, List.getElem_toArray, List.getElem_cons_zero, List.getElem_cons_succ, List.setIfInBounds_toArray, List.set_cons_zero, List.set_cons_succ]
  refine wpAnyH_take (i := 1) (v := ?_) rfl (by kernel_rfl) (by kernel_rfl) (by kernel_rfl) (fun _ _ _ h => h) (Or.inl ⟨by rfl, ?_⟩) (by assumption) ?_
  rotate_left 1
  · intro w hSw; (try dsimp only at hSw); go_simp; (try with_reducible rfl)
  simp only [Act.put, List.getElem_toArray, List.getElem_cons_zero, List.getElem_cons_succ, List.setIfInBounds_toArray, List.set_cons_zero, List.set_cons_succ]
  refine wpAnyH_take (i := 2) (v := ?_) rfl (by kernel_rfl) (by kernel_rfl) (by kernel_rfl) (fun _ _ _ h => h) (Or.inl ⟨by rfl, ?_⟩) (by assumption) ?_
  rotate_left 1
  · intro w hSw; (try dsimp only at hSw); go_simp; (try with_reducible rfl)
  simp only [Act.put, List.getElem_toArray, List.getElem_cons_zero, List.getElem_cons_succ, List.setIfInBounds_toArray, List.set_cons_zero, List.set_cons_succ]
  refine wpAnyH_ready (rs := [3]) (by kernel_rfl) (by simp) ?_
  refine AllReadyH.cons rfl (fun K hK => ?_) AllReadyH.nil
  go_simp
  refine (rHmac a0 a1 n1 n2 cap0 cap1 kk bs _ (R.out.to B2.out) (S.out.to B2.out) (by omega) (by omega)).mono ?_
  rintro e w6 ⟨rfl, hb⟩
  rw [HT.out]
  replace O := Lib.hid (O.out.to hb)
  replace T1 := Lib.hid (T1.out.below hb)
  replace B2 := Lib.hid (B2.out.trans (hb.mono B2.out.size))
  clear hb
  go_wp2_with fail
  refine hK.out _ _ (T1.out.range) (fun hHeld => ?_)
  clear hK K
  refine wpAnyH_take (i := 4) (v := ?_) rfl (by kernel_rfl) (by kernel_rfl) (by kernel_rfl) (fun _ _ _ h => h) (Or.inl ⟨by rfl, ?_⟩) (by assumption) ?_
  rotate_left 1
  · intro w hSw; (try dsimp only at hSw); go_simp; (try with_reducible rfl)
  simp only [Act.put, List.getElem_toArray, List.getElem_cons_zero, List.getElem_cons_succ, List.setIfInBounds_toArray, List.set_cons_zero, List.set_cons_succ]
  refine wpAnyH_take (i := 5) (v := ?_) rfl (by kernel_rfl) (by kernel_rfl) (by kernel_rfl) (fun _ _ _ h => h) (Or.inl ⟨by rfl, ?_⟩) (by assumption) ?_
  rotate_left 1
  · intro w hSw; (try dsimp only at hSw); go_simp; (try with_reducible rfl)
  simp only [Act.put, List.getElem_toArray, List.getElem_cons_zero, List.getElem_cons_succ, List.setIfInBounds_toArray, List.set_cons_zero, List.set_cons_succ]
  refine wpAnyH_take (i := 6) (v := ?_) rfl (by kernel_rfl) (by kernel_rfl) (by kernel_rfl) (fun _ _ _ h => h) (Or.inl ⟨by rfl, ?_⟩) (by assumption) ?_
  rotate_left 1
  · intro w hSw; (try dsimp only at hSw); go_simp; (try with_reducible rfl)
  simp only [Act.put, List.getElem_toArray, List.getElem_cons_zero, List.getElem_cons_succ, List.setIfInBounds_toArray, List.set_cons_zero, List.set_cons_succ]
  refine wpAnyH_take (i := 7) (v := ?_) rfl (by kernel_rfl) (by kernel_rfl) (by kernel_rfl) (fun _ _ _ h => h) (Or.inl ⟨by rfl, ?_⟩) (by assumption) ?_
  rotate_left 1
  · intro w hSw; (try dsimp only at hSw); go_simp; (try with_reducible rfl)
  simp only [Act.put, List.getElem_toArray, List.getElem_cons_zero, List.getElem_cons_succ, List.setIfInBounds_toArray, List.set_cons_zero, List.set_cons_succ]
  refine wpAnyH_ready (rs := [8]) (by kernel_rfl) (by simp) ?_
  refine AllReadyH.cons rfl (fun K hK => ?_) AllReadyH.nil
  go_simp
  refine (rShort a0 n1 cap0 kk _ (R.out.to B2.out) (by omega)).mono ?_
  rintro e w7 ⟨A7, n7, c7, rfl, hown7, hb⟩
  have U := Lib.hid (Rd.of_own hown7)
  have hn7 : n7 ≤ 64 := Nat.le_trans (Nat.le_of_eq U.out.1.symm) HSL.out
  replace O := Lib.hid (O.out.to hb)
  replace T1 := Lib.hid (T1.out.below hb)
  replace B2 := Lib.hid (B2.out.trans (hb.mono B2.out.size))
  clear hb hown7
  go_wp2_with fail
  refine hK.out _ _ (T1.out.range) (fun hHeld => ?_)
  clear hK K
  refine wpAnyH_ready (rs := [9]) (by kernel_rfl) (by simp) ?_
  refine AllReadyH.cons rfl (fun K hK => ?_) AllReadyH.nil
  go_simp
  refine (refSameBT A3 A7 n3 n7 c3 c7 _ _ _ rfl O.out.1 U.out (by omega) (by omega)).mono ?_
  rintro e w8 ⟨rfl, hb⟩
  replace O := Lib.hid (O.out.to hb)
  replace T1 := Lib.hid (T1.out.below hb)
  replace B2 := Lib.hid (B2.out.trans (hb.mono B2.out.size))
  clear hb U
  go_wp2_with fail
  refine hK.out _ _ (T1.out.range) (fun hHeld => ?_)
  clear hK K
  refine wpAnyH_take (i := 10) (v := ?_) rfl (by kernel_rfl) (by kernel_rfl) (by kernel_rfl) (fun _ _ _ h => h) (Or.inl ⟨by rfl, ?_⟩) (by assumption) ?_
  rotate_left 1
  · intro w hSw; (try dsimp only at hSw); go_simp; (try with_reducible rfl)
  simp only [Act.put, List.getElem_toArray, List.getElem_cons_zero, List.getElem_cons_succ, List.setIfInBounds_toArray, List.set_cons_zero, List.set_cons_succ]
  refine wpAnyH_take (i := 11) (v := ?_) rfl (by kernel_rfl) (by kernel_rfl) (by kernel_rfl) (fun _ _ _ h => h) (Or.inl ⟨by rfl, ?_⟩) (by assumption) ?_
  rotate_left 1
  · intro w hSw; (try dsimp only at hSw); go_simp; (try with_reducible rfl)
  simp only [Act.put, List.getElem_toArray, List.getElem_cons_zero, List.getElem_cons_succ, List.setIfInBounds_toArray, List.set_cons_zero, List.set_cons_succ]
  refine wpAnyH_done (by kernel_rfl) ?_ _
  clear hHeld
  go_wp2_with fail
  go_loopw [9] (fun i wr => IncT w2.heap.size n3 g A3 t w2 i wr) (fun i _ => n3 - (intOf i).toNat)
  case atStart => exact ⟨0, _, Nat.zero_le _, rfl, O.out, T1.out, B2.out⟩
  case round =>
    clear O T1 B2
    obtain ⟨k, ys, hk, rfl, ho, ht, hb⟩ := hrel
    have O := Lib.hid ho
    have T1 := Lib.hid ht
    have B2 := Lib.hid hb
    have HK := Lib.hid hk
    clear ho ht hb hk
    by_cases hlt : k < n3
    · obtain ⟨b, o, rfl, hbB, hcell, hfr⟩ := O.out.cell hlt
      have hinc := u8_inc (nth ys k)
      have HN := Lib.hid hinc
      have HBG := Lib.hid (HLT.out b o (by omega) rfl)
      have HBB := Lib.hid hbB
      clear hbB
      go_wp2_with fail
      go_roundw
      case rel =>
        refine ⟨k + 1, ys.set k (UInt8.ofNat (nth ys k + 1)), by omega, by go_num, ?_, T1.out.other _ _ (Nat.ne_of_gt HBG.out), B2.out.setCell HBB.out _⟩
        first
        | exact O.out.set hlt _ rfl
        | exact O.out.set hlt _ HN.out
      case measure => simp [intOf]; omega
    · obtain rfl : k = n3 := by have := HK.out; omega
      have R1 := Lib.hid (R.out.to B2.out)
      have S1 := Lib.hid (S.out.to B2.out)
      have M1 := Lib.hid (M.out.to B2.out)
      have N1 := Lib.hid (N.out.to B2.out)
      have P1 := Lib.hid (HP.out.to B2.out)
      have BB := Lib.hid (B.out.trans (B2.out.mono B.out.size))
      clear O B2 R S M N HP B HLT
      go_wp2_with fail
      replace R1 := Lib.hid R1.out.drew'
      replace S1 := Lib.hid S1.out.drew'
      replace M1 := Lib.hid M1.out.drew'
      replace N1 := Lib.hid N1.out.drew'
      replace P1 : Hid (Pr wr.drew) := P1.out
      replace T1 : Hid (TagAt wr.drew g t) := T1.out
      replace BB := Lib.hid BB.out.drew
      generalize hwx : wr.drew = wx at *
      have HWX := Lib.hid hwx
      clear hwx
      refine wp_region_held_drew (S := (fun w' => w'.rangeAt g 0 (t.map bval))) (by kernel_rfl) ((by rw [HWX.out]; exact T1.out.range)) (fun hHeld => ?_)
      rw [HWX.out] at hHeld ⊢
      refine wpAnyH_take (i := 0) (v := ?_) rfl (by kernel_rfl) (by kernel_rfl) (by kernel_rfl) (fun _ _ _ h => h) (Or.inl ⟨by rfl, ?_⟩) (by assumption) ?_
      rotate_left 1
      · intro w hSw; (try dsimp only at hSw); go_simp; (try with_reducible rfl)
      simp only [Act.put, List.getElem_toArray, List.getElem_cons_zero, List.getElem_cons_succ, List.setIfInBounds_toArray, List.set_cons_zero, List.set_cons_succ]
      refine wpAnyH_take (i := 1) (v := ?_) rfl (by kernel_rfl) (by kernel_rfl) (by kernel_rfl) (fun _ _ _ h => h) (Or.inl ⟨by rfl, ?_⟩) (by assumption) ?_
      rotate_left 1
      · intro w hSw; (try dsimp only at hSw); go_simp; (try with_reducible rfl)
      simp only [Act.put, List.getElem_toArray, List.getElem_cons_zero, List.getElem_cons_succ, List.setIfInBounds_toArray, List.set_cons_zero, List.set_cons_succ]
      refine wpAnyH_ready (rs := [2]) (by kernel_rfl) (by simp) ?_
      refine AllReadyH.cons rfl (fun K hK => ?_) AllReadyH.nil
      go_simp
      refine (refSameBT A1 a0 n1 n1 c1 cap0 kk kk _ rfl M1.out R1.out (by omega) (by omega)).mono ?_
      rintro e w9 ⟨rfl, hb⟩
      replace S1 := Lib.hid (S1.out.to hb)
      replace M1 := Lib.hid (M1.out.to hb)
      replace N1 := Lib.hid (N1.out.to hb)
      replace P1 := Lib.hid (P1.out.to hb)
      replace T1 := Lib.hid (T1.out.below hb)
      replace BB := Lib.hid (BB.out.trans (hb.mono BB.out.size))
      clear hb R1
      go_wp2_with fail
      refine hK.out _ _ (T1.out.range) (fun hHeld => ?_)
      clear hK K
      refine wpAnyH_take (i := 3) (v := ?_) rfl (by kernel_rfl) (by kernel_rfl) (by kernel_rfl) (fun _ _ _ h => h) (Or.inl ⟨by rfl, ?_⟩) (by assumption) ?_
      rotate_left 1
      · intro w hSw; (try dsimp only at hSw); go_simp; (try with_reducible rfl)
      simp only [Act.put, List.getElem_toArray, List.getElem_cons_zero, List.getElem_cons_succ, List.setIfInBounds_toArray, List.set_cons_zero, List.set_cons_succ]
      refine wpAnyH_take (i := 4) (v := ?_) rfl (by kernel_rfl) (by kernel_rfl) (by kernel_rfl) (fun _ _ _ h => h) (Or.inl ⟨by rfl, ?_⟩) (by assumption) ?_
      rotate_left 1
      · intro w hSw; (try dsimp only at hSw); go_simp; (try with_reducible rfl)
      simp only [Act.put, List.getElem_toArray, List.getElem_cons_zero, List.getElem_cons_succ, List.setIfInBounds_toArray, List.set_cons_zero, List.set_cons_succ]
      refine wpAnyH_take (i := 5) (v := ?_) rfl (by kernel_rfl) (by kernel_rfl) (by kernel_rfl) (fun _ _ _ h => h) (Or.inl ⟨by rfl, ?_⟩) (by assumption) ?_
      rotate_left 1
      · intro w hSw; (try dsimp only at hSw); go_simp; (try with_reducible rfl)
      simp only [Act.put, List.getElem_toArray, List.getElem_cons_zero, List.getElem_cons_succ, List.setIfInBounds_toArray, List.set_cons_zero, List.set_cons_succ]
      refine wpAnyH_ready (rs := [6]) (by kernel_rfl) (by simp) ?_
      refine AllReadyH.cons rfl (fun K hK => ?_) AllReadyH.nil
      go_simp
      refine (refSameBT A2 a1 n2 n2 c2 cap1 bs bs _ rfl N1.out S1.out (by omega) (by omega)).mono ?_
      rintro e w10 ⟨rfl, hb⟩
      replace M1 := Lib.hid (M1.out.to hb)
      replace N1 := Lib.hid (N1.out.to hb)
      replace P1 := Lib.hid (P1.out.to hb)
      replace T1 := Lib.hid (T1.out.below hb)
      replace BB := Lib.hid (BB.out.trans (hb.mono BB.out.size))
      clear hb S1
      go_wp2_with fail
      refine hK.out _ _ (T1.out.range) (fun hHeld => ?_)
      clear hK K
      refine wpAnyH_take (i := 7) (v := ?_) rfl (by kernel_rfl) (by kernel_rfl) (by kernel_rfl) (fun _ _ _ h => h) (Or.inl ⟨by rfl, ?_⟩) (by assumption) ?_
      rotate_left 1
      · intro w hSw; (try dsimp only at hSw); go_simp; (try with_reducible rfl)
      simp only [Act.put, List.getElem_toArray, List.getElem_cons_zero, List.getElem_cons_succ, List.setIfInBounds_toArray, List.set_cons_zero, List.set_cons_succ]
      refine wpAnyH_take (i := 8) (v := ?_) rfl (by kernel_rfl) (by kernel_rfl) (by kernel_rfl) (fun _ _ _ h => h) (Or.inl ⟨by rfl, ?_⟩) (by assumption) ?_
      rotate_left 1
      · intro w hSw; (try dsimp only at hSw); go_simp; (try with_reducible rfl)
      simp only [Act.put, List.getElem_toArray, List.getElem_cons_zero, List.getElem_cons_succ, List.setIfInBounds_toArray, List.set_cons_zero, List.set_cons_succ]
      refine wpAnyH_take (i := 9) (v := ?_) rfl (by kernel_rfl) (by kernel_rfl) (by kernel_rfl) (fun _ _ _ h => h) (Or.inl ⟨by rfl, ?_⟩) (by assumption) ?_
      rotate_left 1
      · intro w hSw; (try dsimp only at hSw); go_simp; (try with_reducible rfl)
      simp only [Act.put, List.getElem_toArray, List.getElem_cons_zero, List.getElem_cons_succ, List.setIfInBounds_toArray, List.set_cons_zero, List.set_cons_succ]
      refine wpAnyH_take (i := 10) (v := ?_) rfl (by kernel_rfl) (by kernel_rfl) (by kernel_rfl) (fun _ _ _ h => h) (Or.inl ⟨by rfl, ?_⟩) (by assumption) ?_
      rotate_left 1
      · intro w hSw; (try dsimp only at hSw); go_simp; (try with_reducible rfl)
      simp only [Act.put, List.getElem_toArray, List.getElem_cons_zero, List.getElem_cons_succ, List.setIfInBounds_toArray, List.set_cons_zero, List.set_cons_succ]
      refine wpAnyH_take (i := 12) (v := .agg (List.toArray (t.map bval))) rfl (by kernel_rfl) (by kernel_rfl) (by kernel_rfl) (fun _ _ _ h => h) (yieldsIf_load_mid (by rfl) 25 _ rfl g 0 rfl (t.map bval) _ (fun _ h => h) hu rfl hi) (by assumption) ?_
      simp only [Act.put, List.getElem_toArray, List.getElem_cons_zero, List.getElem_cons_succ, List.setIfInBounds_toArray, List.set_cons_zero, List.set_cons_succ]
      refine wpAnyH_ready (rs := [11]) (by kernel_rfl) (by simp) ?_
      refine AllReadyH.cons rfl (fun K hK => ?_) AllReadyH.nil
      go_simp
      refine (wHmac A1 A2 n1 n2 c1 c2 kk bs _ P1.out M1.out N1.out (by omega) hcp1 hcp1' (by omega)).mono ?_
      rintro e w11 ⟨rfl, hb⟩
      rw [HT.out]
      replace T1 := Lib.hid (T1.out.below hb)
      replace BB := Lib.hid (BB.out.trans (hb.mono BB.out.size))
      clear hb M1 N1
      go_wp2_with fail
      refine hK.out _ _ (T1.out.range) (fun hHeld => ?_)
      clear hK K
      refine wpAnyH_take (i := 13) (v := ?_) rfl (by kernel_rfl) (by kernel_rfl) (by kernel_rfl) (fun _ _ _ h => h) (Or.inl ⟨by rfl, ?_⟩) (by assumption) ?_
      rotate_left 1
      · intro w hSw; (try dsimp only at hSw); go_simp; (try with_reducible rfl)
      simp only [Act.put, List.getElem_toArray, List.getElem_cons_zero, List.getElem_cons_succ, List.setIfInBounds_toArray, List.set_cons_zero, List.set_cons_succ]
      refine wpAnyH_take (i := 14) (v := ?_) rfl (by kernel_rfl) (by kernel_rfl) (by kernel_rfl) (fun _ _ _ h => h) (Or.inl ⟨by rfl, ?_⟩) (by assumption) ?_
      rotate_left 1
      · intro w hSw; (try dsimp only at hSw); go_simp; (try with_reducible rfl)
      simp only [Act.put, List.getElem_toArray, List.getElem_cons_zero, List.getElem_cons_succ, List.setIfInBounds_toArray, List.set_cons_zero, List.set_cons_succ]
      refine wpAnyH_take (i := 15) (v := ?_) rfl (by kernel_rfl) (by kernel_rfl) (by kernel_rfl) (fun _ _ _ h => h) (Or.inl ⟨by rfl, ?_⟩) (by assumption) ?_
      rotate_left 1
      · intro w hSw; (try dsimp only at hSw); go_simp; (try with_reducible rfl)
      simp only [Act.put, List.getElem_toArray, List.getElem_cons_zero, List.getElem_cons_succ, List.setIfInBounds_toArray, List.set_cons_zero, List.set_cons_succ]
      refine wpAnyH_done (by kernel_rfl) ?_ _
      go_wp2_with fail
      go_ret
      exact ⟨rfl, BB.out⟩

set_option maxRecDepth 100000 in
theorem lifted (os : Os) (started : os.Started) (H : Type) (enc : TypeId × Value → H) :
    ReturnsInHanded {} Tryd.checked os 3 .any (fun w args => (Rows.hmacTagsSpec.pre enc Tryd.prog Tryd.f3 Rows.hmacTagsRow.domain false w args ∧ laidMetH Tryd.prog Rows.hmacTagsRow.laid w) ∧ sizedMet enc Tryd.prog Tryd.f3 (OpenSpec.ofChange Rows.hmacTagsSpec) false w args)
      (Rows.hmacTagsSpec.post enc Tryd.prog Tryd.f3 false true false false) := by
  refine returnsInHanded_of_change_and (C := Tryd.checked) (X := fun w _ => laidMetH Tryd.prog Rows.hmacTagsRow.laid w) (fun _ _ _ hh h => h.of_heap hh) own started (by kernel_rfl) Tryd.func3
    (ChangeSpec.witness_shaped (enc := enc) (C := Tryd.checked) (os := os) (X := fun w _ => laidMetH Tryd.prog Rows.hmacTagsRow.laid w) false (World.doorLaid Tryd.prog 400 os) #[.slice none 0 0, .slice none 0 0] 8 rfl (World.shaped_of_RefB (by kernel_rfl) (by kernel_rfl)) (by kernel_rfl) (by kernel_rfl) (by kernel_rfl) (door_met os _)) ?_
  intro W base args ds gs before hval0 hW hcnd hsz0 hL _
  have hval : ∀ (j : Nat) t v, Tryd.f3.params[j]? = some t → args[j]? = some v → Value.okWide Tryd.prog W .any base t v := hval0
  have hW' := hW
  obtain ⟨p, q, hA0, hV, rfl, hfz, hnd⟩ := hW
  have hA : DataW.TrodAll enc Tryd.prog W 0 (fun _ => true) true Tryd.f3.params.toList args.toList ds p := hA0
  rw [Tryd.params3] at hA hval
  obtain ⟨v0, vs0, d0, ds0, p0, q0, hargs, rfl, rfl, h0, r0⟩ := trodAll_cons hA
  obtain ⟨v1, vs1, d1, ds1, p1, q1, rfl, rfl, rfl, h1, r1⟩ := trodAll_cons r0
  obtain ⟨rfl, rfl, rfl⟩ := trodAll_nil r1
  obtain rfl : args = #[v0, v1] := by cases args; simp_all
  obtain ⟨rfl, rfl⟩ := trodVars_none hV
  obtain ⟨a0, len0, cap0, rfl⟩ := okWide_slice Tryd.underlying22 (hval 0 22 v0 rfl rfl)
  have k0 := h0
  have lt0 : ∀ x ∈ p0, x.block < W.heap.size := by obtain ⟨m, hm⟩ := k0; exact DataW.trod_lt m _ _ _ hm
  obtain ⟨z0, w0⟩ : ∃ zs, IsRow .u8 W a0 len0 cap0 zs := by
    obtain ⟨fuel, hf⟩ := h0
    rcases open_ints Tryd.underlying22 Tryd.underlying5 (by kernel_rfl) hf with ⟨hcs, _⟩ | ⟨x, l, c, zs, hcs, _, hl, hm, hz, _, hcell, hwz⟩
    · simp [Value.cells] at hcs
      obtain ⟨rfl, rfl, rfl⟩ := hcs
      exact ⟨[], .inl ⟨rfl, rfl, rfl, rfl⟩⟩
    · simp [Value.cells] at hcs
      obtain ⟨rfl, rfl, rfl⟩ := hcs
      exact ⟨zs, .inr ⟨_, rfl, hl, hm, by simpa using hz, hcell, hwz⟩⟩
  obtain ⟨a1, len1, cap1, rfl⟩ := okWide_slice Tryd.underlying22 (hval 1 22 v1 rfl rfl)
  have k1 := h1
  have lt1 : ∀ x ∈ p1, x.block < W.heap.size := by obtain ⟨m, hm⟩ := k1; exact DataW.trod_lt m _ _ _ hm
  obtain ⟨z1, w1⟩ : ∃ zs, IsRow .u8 W a1 len1 cap1 zs := by
    obtain ⟨fuel, hf⟩ := h1
    rcases open_ints Tryd.underlying22 Tryd.underlying5 (by kernel_rfl) hf with ⟨hcs, _⟩ | ⟨x, l, c, zs, hcs, _, hl, hm, hz, _, hcell, hwz⟩
    · simp [Value.cells] at hcs
      obtain ⟨rfl, rfl, rfl⟩ := hcs
      exact ⟨[], .inl ⟨rfl, rfl, rfl, rfl⟩⟩
    · simp [Value.cells] at hcs
      obtain ⟨rfl, rfl, rfl⟩ := hcs
      exact ⟨zs, .inr ⟨_, rfl, hl, hm, by simpa using hz, hcell, hwz⟩⟩
  clear hA0 hval0
  refine (walk a0 len0 cap0 z0 a1 len1 cap1 z1 W (pr_of_laid hL) w0 w1).mono fun e W' ⟨he, bel⟩ => ?_
  subst he
  exact ⟨_, rfl, _, _, _, [], _, [], hW', trodAll_mk1 (shut_bool Tryd.underlying4 _), (trodAll_cons_mk (Below.trod laidOut (by kernel_rfl) (of_decide_eq_true (by kernel_rfl)) k0 bel lt0) (trodAll_cons_mk (Below.trod laidOut (by kernel_rfl) (of_decide_eq_true (by kernel_rfl)) k1 bel lt1) trodAll_mk0)), rfl, bel.frame _, fun h => by cases h⟩

theorem over : Rows.hmacTagsRow.holds Tryd.pinned (OpenSpec.ofChange Rows.hmacTagsSpec) :=
  OpenClaim.holds_of_wide 3 Tryd.f3 rfl rfl rfl rfl rfl rfl rfl ⟨rfl, rfl, rfl, rfl, rfl⟩ rfl rfl rfl rfl rfl (by kernel_rfl) Tryd.func3 (by kernel_rfl)
    (of_decide_eq_true (by kernel_rfl)) (by unfold Func.isWrapper; first | (rw [if_pos (by decide +kernel)]; kernel_rfl) | (rw [if_neg (by decide +kernel)]; exact ⟨rfl, rfl⟩))
    (fun os started H enc _ => lifted os started H enc)

theorem wants : ∀ (j : Nat) t, Tryd.f3.params[j]? = some t → Tryd.prog.wantsStandIn t = false := by
  intro j t ht
  rw [Tryd.params3] at ht
  rcases j with _ | j
  · obtain rfl : 22 = t := by simpa using ht
    kernel_rfl
  rcases j with _ | j
  · obtain rfl : 22 = t := by simpa using ht
    kernel_rfl
  simp at ht
theorem proved : Rows.HmacTagsCardSaid :=
  Claim7.holds_tied_plain_at .later [] [.data] true Rows.hmacTagsCard.stood.harness Rows.hmacTagsCard.stood.looks over (fun _ h => by cases h) (by kernel_rfl) (fun _ h => by cases h) hmacTags_row_tie rfl ⟨rfl, rfl⟩ (by kernel_rfl) rfl
    (fun f fn hf hfn => by
      obtain rfl : f = 3 := Option.some.inj ((show Tryd.prog.funcNamed "citadel/citadellaw04.HmacTags" = some 3 by kernel_rfl).symm.trans hf) |>.symm
      obtain rfl : fn = Tryd.f3 := (Option.some.inj (Tryd.func3.symm.trans hfn)).symm
      exact ⟨by kernel_rfl, wants⟩)
    (by kernel_rfl)
end Go.Proofs.YtgkmkkfnpoapfaaDoor.hmacTags
