/- For any state and any row of at most 200 bytes the law ShaEats of citadellaw03 returns true: First, Eat and Print of sha answer as the chapter says, and the row stays. Conditions: none beyond those that the statement itself prints. -/
import Derived.Test.YtbgcnhhdgnalgaaDoorRows
import Derived.Test.YtbgcnhhdgnalgaaDoorTie
import Derived.Test.YtbgcnhhdgnalgaaDoorCards
import Derived.Test.YtbgcnhhdgnalgaaDoorShaLaid
import Derived.Test.YtbgcnhhdgnalgaaDoorShaD
import Derived.Test.YtbgcnhhdgnalgaaDoorShaT
import Derived.Test.YtbgcnhhdgnalgaaDoorArrEq
import Derived.Deep.RegionHeld
import Derived.WalkKit
import Derived.ProofKit
import Derived.OpenShut
import Derived.ShutString
import Derived.ChangeOld
import Derived.Below
namespace Go.Proofs.YtbgcnhhdgnalgaaDoor.shaEats
open Go.ChangeShapes Go.WideShapes Go.ChangeAt Go.RowKit
open Go.ChangeMaps (open_string shut_string)
set_option linter.unusedVariables false
set_option linter.unusedSimpArgs false

theorem own : ownKnob Tryd.prog.godebug = none := by kernel_rfl
theorem laidOut : laidOutB Tryd.prog = true := by kernel_rfl

theorem wf_nat {x : Int} (h : (Lit.int .u32 x).wf = true) : 0 ≤ x ∧ x < 4294967296 := by
  have h1 : IntKind.u32.min = 0 := rfl
  have h2 : IntKind.u32.max = 4294967295 := rfl
  simp only [Lit.wf, Bool.and_eq_true, decide_eq_true_eq, h1, h2] at h
  omega
theorem arr_nat {z : List Int} (hl : z.length = 8) (hw : ∀ x ∈ z, (Lit.int .u32 x).wf = true) :
    (z.map (Value.int .u32)).toArray = arrN .u32 (z.map Int.toNat) ∧ Is8 (z.map Int.toNat) := by
  refine ⟨?_, by simpa using hl, fun j => ?_⟩
  · unfold arrN
    rw [List.map_map]
    congr 1
    apply List.map_congr_left
    intro x hx
    have := wf_nat (hw x hx)
    simp only [Function.comp, kv]
    congr 1
    omega
  · by_cases hj : j < z.length
    · have h1 := wf_nat (hw z[j] (List.getElem_mem hj))
      rw [nx_of_lt (by simpa using hj)]
      simp only [List.getElem_map]
      omega
    · have e : (z.map Int.toNat).length ≤ j := by simpa using Nat.le_of_not_lt hj
      simp [nx, List.getD, List.getElem?_eq_none e]
def z8 : Array Value := #[.int .u32 0, .int .u32 0, .int .u32 0, .int .u32 0, .int .u32 0, .int .u32 0, .int .u32 0, .int .u32 0]
theorem z8_is : arrN .u32 zeros8 = z8 := rfl
theorem eq_z8 (w : World) : (Op.equalIn 10000 24 (.agg z8) (.agg z8)).run Tryd.prog w = .ok true w := by
  have h := run_eql_arr (P := Tryd.prog) Tryd.underlying24 Tryd.underlying22 (sizeOf_one (by kernel_rfl)) z8 z8 .u32 zeros8 zeros8 (fun i hi => by rw [← z8_is]; exact arrN_at hi) (fun i hi => by rw [← z8_is]; exact arrN_at hi) rfl rfl w
  rwa [show decide (zeros8 = zeros8) = true from decide_eq_true rfl] at h
theorem eq_tag (t : List UInt8) (hl : t.length = 32) (w : World) : (Op.equalIn 10000 36 (.agg (arrB t)) (.agg (arrB t))).run Tryd.prog w = .ok true w := by
  have h := run_eql_arrB (P := Tryd.prog) Tryd.underlying36 Tryd.underlying5 (sizeOf_one (by kernel_rfl)) t t hl hl w
  rwa [show decide (t = t) = true from decide_eq_true rfl] at h
theorem same_t (A : Option Addr) (c : Nat) (s : List Nat) (w : World) (hs : s.length = 8) (hl : RdK .u32 w w.heap.size A 8 s) :
    Calls Tryd.prog 11 #[.agg (arrN .u32 s), .slice A 8 c] w fun e w' => e = .returned (.bool true) ∧ Below w.heap.size w w' := by
  refine (lSame A c s s w hs hl).mono ?_
  rintro e w' ⟨rfl, hb⟩
  exact ⟨by simp, hb⟩
set_option maxRecDepth 100000 in
set_option maxHeartbeats 4000000 in
theorem walk (z0 : List Int) (a1 : Option Addr) (len1 cap1 : Nat) (z1 : List Int) (w : World) (hpr : Pr w) (w0 : z0.length = 8 ∧ ∀ z ∈ z0, (Lit.int .u32 z).wf = true) (w1 : IsRow .u8 w a1 len1 cap1 z1) :
    Calls Tryd.prog 3 #[.agg (z0.map (Value.int .u32)).toArray, .slice a1 len1 cap1] w fun e w' => e = .returned (.bool true) ∧ Below w.heap.size w w' := by
  obtain ⟨hl0, hwf⟩ := w0
  obtain ⟨harr, hs8⟩ := arr_nat hl0 hwf
  rw [harr]
  generalize z0.map Int.toNat = s at hs8
  clear harr hl0 hwf
  obtain ⟨r1, hcap1, hcap1'⟩ := w1.rd
  generalize bytesIn (z1.take len1) = bs at r1
  have R := Lib.hid r1
  have HS8 := Lib.hid hs8
  have HSS := Lib.hid (st_size hs8.1)
  clear w1 r1 hs8
  have hb0 : Below w.heap.size w (w.alloc (.cells (arrN .u32 s) 24)) := (Below.refl _ _).alloc (Nat.le_refl _) _
  have N0 := Lib.hid (NumAt.new 24 .u32 w s)
  have B := Lib.hid hb0
  have HP := Lib.hid (hpr.to hb0)
  replace R := Lib.hid (R.out.to hb0)
  clear hb0 hpr
  go_enter Tryd.func3, Tryd.ntmps3
  by_cases h200 : 200 < len1
  · go_wp2_with fail
    go_ret
    exact ⟨rfl, B.out⟩
  go_wp2_with fail
  generalize w.alloc (.cells (arrN .u32 s) 24) = w2 at *
  refine (refCopy a1 len1 cap1 bs w2 R.out (by omega)).mono ?_
  rintro e w3 ⟨A1, n1, c1, rfl, hown1, hb⟩
  have M := Lib.hid (Rd.of_own hown1)
  have HC1 := Lib.hid (own_cap hown1)
  obtain rfl : n1 = len1 := by rw [← M.out.1, R.out.1]
  replace R := Lib.hid (R.out.to hb)
  replace HP := Lib.hid (HP.out.to hb)
  replace N0 := Lib.hid (N0.out.to hb)
  replace B := Lib.hid (B.out.trans (hb.mono B.out.size))
  clear hown1 hb
  have hgd : Tryd.prog.eqGuardType Tryd.prog.depth 36 = false := by kernel_rfl
  have HPT := Lib.hid (printL_len HS8.out.1)
  by_cases h64 : n1 = 64
  · subst h64
    have HE8 := Lib.hid (eatL_8 s bs)
    have HES := Lib.hid (st_size HE8.out.1)
    have HEE := Lib.hid (same_size (k := .u32) (xs := zeros8) (ys := eatL s bs) HE8.out.1.symm)
    have hz := st_zero
    go_wp2_with (refine wpList_load_row rfl 24 _ rfl w.heap.size rfl 24 (arrN .u32 s) (0, 0) _ N0.out Tryd.underlying24 rfl HSS.out ?_)
    refine (wEat A1 c1 s bs w3 HP.out HS8.out M.out HC1.out.1 HC1.out.2).mono ?_
    rintro e w5 ⟨rfl, hb⟩
    replace R := Lib.hid (R.out.to hb)
    replace M := Lib.hid (M.out.to hb)
    replace HP := Lib.hid (HP.out.to hb)
    replace N0 := Lib.hid (N0.out.to hb)
    replace B := Lib.hid (B.out.trans (hb.mono B.out.size))
    clear hb
    obtain ⟨e8, he8⟩ : ∃ x, eatL s bs = x := ⟨_, rfl⟩
    rw [he8] at HE8 HES HEE
    have HE := Lib.hid he8
    rw [he8]
    clear he8
    go_wp2_with (refine wpList_store_row rfl 24 _ _ rfl w5.heap.size (arrN .u32 e8) rfl rfl 24 (arrN .u32 zeros8) (heap_alloc_last w5 _) HES.out HEE.out (arrN_one _ _) ?_; rw [World.setRow_alloc_new])
    clear hz
    have hba : Below w5.heap.size w5 (w5.alloc (.cells (arrN .u32 e8) 24)) := (Below.refl _ _).alloc (Nat.le_refl _) _
    have N6 := Lib.hid (NumAt.new 24 .u32 w5 e8)
    replace R := Lib.hid (R.out.to hba)
    replace M := Lib.hid (M.out.to hba)
    replace HP := Lib.hid (HP.out.to hba)
    replace N0 := Lib.hid (N0.out.to hba)
    replace B := Lib.hid (B.out.trans (hba.mono B.out.size))
    clear hba
    generalize w5.heap.size = g6 at *
    generalize w5.alloc (.cells (arrN .u32 e8) 24) = w6 at *
    replace M : Hid (Rd w6.drew w6.drew.heap.size A1 _ bs) := M.out.drew'
    replace R : Hid (Rd w6.drew w6.drew.heap.size a1 _ bs) := R.out.drew'
    replace HP := Lib.hid HP.out.drew
    replace N0 := Lib.hid N0.out.drew
    replace N6 := Lib.hid N6.out.drew
    replace B := Lib.hid B.out.drew
    generalize hwd : w6.drew = wd at *
    have HWD := Lib.hid hwd
    clear hwd
    have BT := Lib.hid (Below.refl wd.heap.size wd)
    have heq := eq_tag (printL s) HPT.out
    refine wp_region_held_drew (S := (fun w' => NumAt 24 .u32 w' w.heap.size s)) (by kernel_rfl) ((by rw [HWD.out]; exact N0.out)) (fun hHeld => ?_)
    rw [HWD.out] at hHeld ⊢
    refine wpAnyH_take (i := 0) (v := ?_) rfl (by kernel_rfl) (by kernel_rfl) (by kernel_rfl) (fun _ _ _ h => h) (Or.inl ⟨by rfl, ?_⟩) (by assumption) ?_
    rotate_left 1
    · intro w hSw; (try dsimp only at hSw); go_simp; (try with_reducible rfl)
    simp only [Act.put, List.getElem_toArray, List.getElem_cons_zero, List.getElem_cons_succ, List.setIfInBounds_toArray, List.set_cons_zero, List.set_cons_succ]
    refine wpAnyH_take (i := 1) (v := ?_) rfl (by kernel_rfl) (by kernel_rfl) (by kernel_rfl) (fun _ _ _ h => h) (Or.inl ⟨by rfl, ?_⟩) (by assumption) ?_
    rotate_left 1
    · intro w hSw; (try dsimp only at hSw); go_simp; (try with_reducible rfl)
    simp only [Act.put, List.getElem_toArray, List.getElem_cons_zero, List.getElem_cons_succ, List.setIfInBounds_toArray, List.set_cons_zero, List.set_cons_succ]
    refine wpAnyH_ready (rs := [2]) (by kernel_rfl) (by simp) ?_
    refine AllReadyH.cons rfl (fun K hK => ?_) AllReadyH.nil
    go_simp
    refine (refSameBT A1 a1 _ _ c1 cap1 bs bs _ rfl (M.out.to BT.out) (R.out.to BT.out) (by omega) (by omega)).mono ?_
    rintro e w7 ⟨rfl, hb⟩
    replace BT := Lib.hid (BT.out.trans (hb.mono BT.out.size))
    clear hb
    go_wp2_with fail
    refine hK.out _ _ ((N0.out.to BT.out)) (fun hHeld => ?_)
    clear hK K
    refine wpAnyH_take (i := 3) (v := ?_) rfl (by kernel_rfl) (by kernel_rfl) (by kernel_rfl) (fun _ _ _ h => h) (Or.inl ⟨by rfl, ?_⟩) (by assumption) ?_
    rotate_left 1
    · intro w hSw; (try dsimp only at hSw); go_simp; (try with_reducible rfl)
    simp only [Act.put, List.getElem_toArray, List.getElem_cons_zero, List.getElem_cons_succ, List.setIfInBounds_toArray, List.set_cons_zero, List.set_cons_succ]
    refine wpAnyH_take (i := 4) (v := ?_) rfl (by kernel_rfl) (by kernel_rfl) (by kernel_rfl) (fun _ _ _ h => h) (Or.inl ⟨by rfl, ?_⟩) (by assumption) ?_
    rotate_left 1
    · intro w hSw; (try dsimp only at hSw); go_simp; (try with_reducible rfl)
    simp only [Act.put, List.getElem_toArray, List.getElem_cons_zero, List.getElem_cons_succ, List.setIfInBounds_toArray, List.set_cons_zero, List.set_cons_succ]
    refine wpAnyH_ready (rs := [5]) (by kernel_rfl) (by simp) ?_
    refine AllReadyH.cons rfl (fun K hK => ?_) AllReadyH.nil
    go_simp
    refine (wFirst _ (HP.out.to BT.out)).mono ?_
    rintro e w8 ⟨rfl, hb⟩
    replace BT := Lib.hid (BT.out.trans (hb.mono BT.out.size))
    clear hb
    go_wp2_with fail
    refine hK.out _ _ ((N0.out.to BT.out)) (fun hHeld => ?_)
    clear hK K
    refine wpAnyH_ready (rs := [6]) (by kernel_rfl) (by simp) ?_
    refine AllReadyH.cons rfl (fun K hK => ?_) AllReadyH.nil
    go_simp
    refine (wFirstRow _).mono ?_
    rintro e w9 ⟨A9, n9, c9, rfl, hown9, hb⟩
    have F9 := Lib.hid (RdK.of_own hown9)
    obtain rfl : n9 = 8 := (F9.out.1).symm
    replace BT := Lib.hid (BT.out.trans (hb.mono BT.out.size))
    clear hb hown9
    go_wp2_with fail
    refine hK.out _ _ ((N0.out.to BT.out)) (fun hHeld => ?_)
    clear hK K
    refine wpAnyH_ready (rs := [7]) (by kernel_rfl) (by simp) ?_
    refine AllReadyH.cons rfl (fun K hK => ?_) AllReadyH.nil
    go_simp
    refine (same_t A9 c9 shaF _ rfl F9.out).mono ?_
    rintro e w10 ⟨rfl, hb⟩
    replace BT := Lib.hid (BT.out.trans (hb.mono BT.out.size))
    clear hb F9
    go_wp2_with fail
    refine hK.out _ _ ((N0.out.to BT.out)) (fun hHeld => ?_)
    clear hK K
    refine wpAnyH_take (i := 8) (v := ?_) rfl (by kernel_rfl) (by kernel_rfl) (by kernel_rfl) (fun _ _ _ h => h) (Or.inl ⟨by rfl, ?_⟩) (by assumption) ?_
    rotate_left 1
    · intro w hSw; (try dsimp only at hSw); go_simp; (try with_reducible rfl)
    simp only [Act.put, List.getElem_toArray, List.getElem_cons_zero, List.getElem_cons_succ, List.setIfInBounds_toArray, List.set_cons_zero, List.set_cons_succ]
    refine wpAnyH_take (i := 9) (v := ?_) rfl (by kernel_rfl) (by kernel_rfl) (by kernel_rfl) (fun _ _ _ h => h) (Or.inl ⟨by rfl, ?_⟩) (by assumption) ?_
    rotate_left 1
    · intro w hSw; (try dsimp only at hSw); go_simp; (try with_reducible rfl)
    simp only [Act.put, List.getElem_toArray, List.getElem_cons_zero, List.getElem_cons_succ, List.setIfInBounds_toArray, List.set_cons_zero, List.set_cons_succ]
    refine wpAnyH_take (i := 10) (v := ?_) rfl (by kernel_rfl) (by kernel_rfl) (by kernel_rfl) (fun _ _ _ h => h) (Or.inl ⟨by rfl, ?_⟩) (by assumption) ?_
    rotate_left 1
    · intro w hSw; (try dsimp only at hSw); go_simp; (try with_reducible rfl)
    simp only [Act.put, List.getElem_toArray, List.getElem_cons_zero, List.getElem_cons_succ, List.setIfInBounds_toArray, List.set_cons_zero, List.set_cons_succ]
    refine wpAnyH_take (i := 11) (v := .agg (arrN .u32 s)) rfl (by kernel_rfl) (by kernel_rfl) (by kernel_rfl) (fun _ _ _ h => h) (yieldsIf_load_row (by rfl) 24 _ rfl w.heap.size rfl 24 (arrN .u32 s) (0, 0) _ (fun _ h => h) Tryd.underlying24 rfl HSS.out) (by assumption) ?_
    simp only [Act.put, List.getElem_toArray, List.getElem_cons_zero, List.getElem_cons_succ, List.setIfInBounds_toArray, List.set_cons_zero, List.set_cons_succ]
    refine wpAnyH_take (i := 13) (v := .agg (arrN .u32 s)) rfl (by kernel_rfl) (by kernel_rfl) (by kernel_rfl) (fun _ _ _ h => h) (yieldsIf_load_row (by rfl) 24 _ rfl w.heap.size rfl 24 (arrN .u32 s) (0, 0) _ (fun _ h => h) Tryd.underlying24 rfl HSS.out) (by assumption) ?_
    simp only [Act.put, List.getElem_toArray, List.getElem_cons_zero, List.getElem_cons_succ, List.setIfInBounds_toArray, List.set_cons_zero, List.set_cons_succ]
    refine wpAnyH_ready (rs := [12]) (by kernel_rfl) (by simp) ?_
    refine AllReadyH.cons rfl (fun K hK => ?_) AllReadyH.nil
    go_simp
    refine (wPrint s _ HS8.out).mono ?_
    rintro e w11 ⟨rfl, hb⟩
    replace BT := Lib.hid (BT.out.trans (hb.mono BT.out.size))
    clear hb
    go_wp2_with fail
    refine hK.out _ _ ((N0.out.to BT.out)) (fun hHeld => ?_)
    clear hK K
    refine wpAnyH_ready (rs := [14]) (by kernel_rfl) (by simp) ?_
    refine AllReadyH.cons rfl (fun K hK => ?_) AllReadyH.nil
    go_simp
    refine (lRow s _ HS8.out.1).mono ?_
    rintro e w12 ⟨A12, n12, c12, rfl, hown12, hb⟩
    have F12 := Lib.hid (RdK.of_own hown12)
    obtain rfl : n12 = 8 := (F12.out.1.symm.trans HS8.out.1)
    replace BT := Lib.hid (BT.out.trans (hb.mono BT.out.size))
    clear hb hown12
    go_wp2_with fail
    refine hK.out _ _ ((N0.out.to BT.out)) (fun hHeld => ?_)
    clear hK K
    refine wpAnyH_ready (rs := [15]) (by kernel_rfl) (by simp) ?_
    refine AllReadyH.cons rfl (fun K hK => ?_) AllReadyH.nil
    go_simp
    refine (rPrint A12 c12 s _ F12.out HS8.out).mono ?_
    rintro e w13 ⟨rfl, hb⟩
    replace BT := Lib.hid (BT.out.trans (hb.mono BT.out.size))
    clear hb F12
    go_wp2_with fail
    refine hK.out _ _ ((N0.out.to BT.out)) (fun hHeld => ?_)
    clear hK K
    refine wpAnyH_take (i := 16) (v := ?_) rfl (by kernel_rfl) (by kernel_rfl) (by kernel_rfl) (fun _ _ _ h => h) (Or.inl ⟨by rfl, ?_⟩) (by assumption) ?_
    rotate_left 1
    · intro w hSw; (try dsimp only at hSw); go_simp; (try with_reducible rfl)
    simp only [Act.put, List.getElem_toArray, List.getElem_cons_zero, List.getElem_cons_succ, List.setIfInBounds_toArray, List.set_cons_zero, List.set_cons_succ]
    refine wpAnyH_take (i := 17) (v := ?_) rfl (by kernel_rfl) (by kernel_rfl) (by kernel_rfl) (fun _ _ _ h => h) (Or.inl ⟨by rfl, ?_⟩) (by assumption) ?_
    rotate_left 1
    · intro w hSw; (try dsimp only at hSw); go_simp; (try with_reducible rfl)
    simp only [Act.put, List.getElem_toArray, List.getElem_cons_zero, List.getElem_cons_succ, List.setIfInBounds_toArray, List.set_cons_zero, List.set_cons_succ]
    refine wpAnyH_done (by kernel_rfl) ?_ _
    clear hHeld heq
    replace N6 := Lib.hid (N6.out.to BT.out)
    replace N0 := Lib.hid (N0.out.to BT.out)
    replace R := Lib.hid (R.out.to BT.out)
    replace B := Lib.hid (B.out.trans (BT.out.mono B.out.size))
    clear BT M HP HWD
    go_wp2_with fail
    replace N6 := Lib.hid N6.out.drew
    replace N0 := Lib.hid N0.out.drew
    replace R : Hid (Rd w13.drew w13.drew.heap.size a1 64 bs) := R.out.drew'
    replace B := Lib.hid B.out.drew
    generalize hwd : w13.drew = wd at *
    have HWD := Lib.hid hwd
    clear hwd
    have BT := Lib.hid (Below.refl wd.heap.size wd)
    refine wp_region_held_drew (S := (fun w' => NumAt 24 .u32 w' g6 e8 ∧ NumAt 24 .u32 w' w.heap.size s)) (by kernel_rfl) ((by rw [HWD.out]; exact ⟨N6.out, N0.out⟩)) (fun hHeld => ?_)
    rw [HWD.out] at hHeld ⊢
    refine wpAnyH_take (i := 0) (v := ?_) rfl (by kernel_rfl) (by kernel_rfl) (by kernel_rfl) (fun _ _ _ h => h) (Or.inl ⟨by rfl, ?_⟩) (by assumption) ?_
    rotate_left 1
    · intro w hSw; (try dsimp only at hSw); go_simp; (try with_reducible rfl)
    simp only [Act.put, List.getElem_toArray, List.getElem_cons_zero, List.getElem_cons_succ, List.setIfInBounds_toArray, List.set_cons_zero, List.set_cons_succ]
    refine wpAnyH_take (i := 1) (v := ?_) rfl (by kernel_rfl) (by kernel_rfl) (by kernel_rfl) (fun _ _ _ h => h) (Or.inl ⟨by rfl, ?_⟩) (by assumption) ?_
    rotate_left 1
    · intro w hSw; (try dsimp only at hSw); go_simp; (try with_reducible rfl)
    simp only [Act.put, List.getElem_toArray, List.getElem_cons_zero, List.getElem_cons_succ, List.setIfInBounds_toArray, List.set_cons_zero, List.set_cons_succ]
    refine wpAnyH_take (i := 2) (v := ?_) rfl (by kernel_rfl) (by kernel_rfl) (by kernel_rfl) (fun _ _ _ h => h) (Or.inl ⟨by rfl, ?_⟩) (by assumption) ?_
    rotate_left 1
    · intro w hSw; (try dsimp only at hSw); go_simp; (try with_reducible rfl)
    simp only [Act.put, List.getElem_toArray, List.getElem_cons_zero, List.getElem_cons_succ, List.setIfInBounds_toArray, List.set_cons_zero, List.set_cons_succ]
    refine wpAnyH_take (i := 3) (v := .agg (arrN .u32 e8)) rfl (by kernel_rfl) (by kernel_rfl) (by kernel_rfl) (fun _ _ _ h => h) (yieldsIf_load_row (by rfl) 24 _ rfl g6 rfl 24 (arrN .u32 e8) (0, 0) _ (fun _ h => h.1) Tryd.underlying24 rfl HES.out) (by assumption) ?_
    simp only [Act.put, List.getElem_toArray, List.getElem_cons_zero, List.getElem_cons_succ, List.setIfInBounds_toArray, List.set_cons_zero, List.set_cons_succ]
    refine wpAnyH_take (i := 4) (v := .agg (arrN .u32 s)) rfl (by kernel_rfl) (by kernel_rfl) (by kernel_rfl) (fun _ _ _ h => h) (yieldsIf_load_row (by rfl) 24 _ rfl w.heap.size rfl 24 (arrN .u32 s) (0, 0) _ (fun _ h => h.2) Tryd.underlying24 rfl HSS.out) (by assumption) ?_
    simp only [Act.put, List.getElem_toArray, List.getElem_cons_zero, List.getElem_cons_succ, List.setIfInBounds_toArray, List.set_cons_zero, List.set_cons_succ]
    refine wpAnyH_take (i := 6) (v := ?_) rfl (by kernel_rfl) (by kernel_rfl) (by kernel_rfl) (fun _ _ _ h => h) (Or.inl ⟨by rfl, ?_⟩) (by assumption) ?_
    rotate_left 1
    · intro w hSw; (try dsimp only at hSw); go_simp; (try with_reducible rfl)
    simp only [Act.put, List.getElem_toArray, List.getElem_cons_zero, List.getElem_cons_succ, List.setIfInBounds_toArray, List.set_cons_zero, List.set_cons_succ]
    refine wpAnyH_ready (rs := [5]) (by kernel_rfl) (by simp) ?_
    refine AllReadyH.cons rfl (fun K hK => ?_) AllReadyH.nil
    go_simp
    refine (lRow s _ HS8.out.1).mono ?_
    rintro e w14 ⟨A14, n14, c14, rfl, hown14, hb⟩
    have F14 := Lib.hid (RdK.of_own hown14)
    obtain rfl : n14 = 8 := (F14.out.1.symm.trans HS8.out.1)
    replace BT := Lib.hid (BT.out.trans (hb.mono BT.out.size))
    clear hb hown14
    go_wp2_with fail
    refine hK.out _ _ (⟨N6.out.to BT.out, N0.out.to BT.out⟩) (fun hHeld => ?_)
    clear hK K
    refine wpAnyH_ready (rs := [7]) (by kernel_rfl) (by simp) ?_
    refine AllReadyH.cons rfl (fun K hK => ?_) AllReadyH.nil
    go_simp
    refine (rEat A14 a1 c14 cap1 s bs _ F14.out HS8.out (R.out.to BT.out) hcap1 hcap1').mono ?_
    rintro e w15 ⟨A15, n15, c15, rfl, hown15, hb⟩
    rw [HE.out] at hown15
    have F15 := Lib.hid (RdK.of_own hown15)
    obtain rfl : n15 = 8 := (F15.out.1.symm.trans HE8.out.1)
    replace BT := Lib.hid (BT.out.trans (hb.mono BT.out.size))
    clear hb hown15 F14
    go_wp2_with fail
    refine hK.out _ _ (⟨N6.out.to BT.out, N0.out.to BT.out⟩) (fun hHeld => ?_)
    clear hK K
    refine wpAnyH_ready (rs := [8]) (by kernel_rfl) (by simp) ?_
    refine AllReadyH.cons rfl (fun K hK => ?_) AllReadyH.nil
    go_simp
    refine (same_t A15 c15 e8 _ HE8.out.1 F15.out).mono ?_
    rintro e w16 ⟨rfl, hb⟩
    replace BT := Lib.hid (BT.out.trans (hb.mono BT.out.size))
    clear hb F15
    go_wp2_with fail
    refine hK.out _ _ (⟨N6.out.to BT.out, N0.out.to BT.out⟩) (fun hHeld => ?_)
    clear hK K
    refine wpAnyH_take (i := 9) (v := ?_) rfl (by kernel_rfl) (by kernel_rfl) (by kernel_rfl) (fun _ _ _ h => h) (Or.inl ⟨by rfl, ?_⟩) (by assumption) ?_
    rotate_left 1
    · intro w hSw; (try dsimp only at hSw); go_simp; (try with_reducible rfl)
    simp only [Act.put, List.getElem_toArray, List.getElem_cons_zero, List.getElem_cons_succ, List.setIfInBounds_toArray, List.set_cons_zero, List.set_cons_succ]
    refine wpAnyH_take (i := 10) (v := ?_) rfl (by kernel_rfl) (by kernel_rfl) (by kernel_rfl) (fun _ _ _ h => h) (Or.inl ⟨by rfl, ?_⟩) (by assumption) ?_
    rotate_left 1
    · intro w hSw; (try dsimp only at hSw); go_simp; (try with_reducible rfl)
    simp only [Act.put, List.getElem_toArray, List.getElem_cons_zero, List.getElem_cons_succ, List.setIfInBounds_toArray, List.set_cons_zero, List.set_cons_succ]
    refine wpAnyH_done (by kernel_rfl) ?_ _
    clear hHeld
    have BE := Lib.hid (B.out.trans (BT.out.mono B.out.size))
    go_wp2_with fail
    go_ret
    exact ⟨rfl, BE.out⟩
  · have HZS := Lib.hid (st_size (xs := zeros8) rfl)
    have hz := st_zero
    have hn64 : ((n1 : Int) != 64) = true := by simp; omega
    have hn64' : ¬ ((n1 : Int) = 64) := by omega
    go_wp2_with (refine wpList_load_row rfl 24 _ rfl w.heap.size rfl 24 (arrN .u32 s) (0, 0) _ N0.out Tryd.underlying24 rfl HSS.out ?_)
    refine (wEatNo A1 n1 c1 s w3 h64 (by omega)).mono ?_
    rintro e w5 ⟨rfl, hb⟩
    replace R := Lib.hid (R.out.to hb)
    replace M := Lib.hid (M.out.to hb)
    replace HP := Lib.hid (HP.out.to hb)
    replace N0 := Lib.hid (N0.out.to hb)
    replace B := Lib.hid (B.out.trans (hb.mono B.out.size))
    clear hb
    go_wp2_with (refine wpList_store_row rfl 24 _ _ rfl w5.heap.size (arrN .u32 zeros8) rfl rfl 24 (arrN .u32 zeros8) (heap_alloc_last w5 _) HZS.out rfl (arrN_one _ _) ?_; rw [World.setRow_alloc_new])
    have hba : Below w5.heap.size w5 (w5.alloc (.cells (arrN .u32 zeros8) 24)) := (Below.refl _ _).alloc (Nat.le_refl _) _
    have N6 := Lib.hid (NumAt.new 24 .u32 w5 zeros8)
    replace R := Lib.hid (R.out.to hba)
    replace M := Lib.hid (M.out.to hba)
    replace HP := Lib.hid (HP.out.to hba)
    replace N0 := Lib.hid (N0.out.to hba)
    replace B := Lib.hid (B.out.trans (hba.mono B.out.size))
    clear hba
    generalize w5.heap.size = g6 at *
    generalize w5.alloc (.cells (arrN .u32 zeros8) 24) = w6 at *
    replace M : Hid (Rd w6.drew w6.drew.heap.size A1 _ bs) := M.out.drew'
    replace R : Hid (Rd w6.drew w6.drew.heap.size a1 _ bs) := R.out.drew'
    replace HP := Lib.hid HP.out.drew
    replace N0 := Lib.hid N0.out.drew
    replace N6 := Lib.hid N6.out.drew
    replace B := Lib.hid B.out.drew
    generalize hwd : w6.drew = wd at *
    have HWD := Lib.hid hwd
    clear hwd
    have BT := Lib.hid (Below.refl wd.heap.size wd)
    have heq := eq_tag (printL s) HPT.out
    refine wp_region_held_drew (S := (fun w' => NumAt 24 .u32 w' w.heap.size s)) (by kernel_rfl) ((by rw [HWD.out]; exact N0.out)) (fun hHeld => ?_)
    rw [HWD.out] at hHeld ⊢
    refine wpAnyH_take (i := 0) (v := ?_) rfl (by kernel_rfl) (by kernel_rfl) (by kernel_rfl) (fun _ _ _ h => h) (Or.inl ⟨by rfl, ?_⟩) (by assumption) ?_
    rotate_left 1
    · intro w hSw; (try dsimp only at hSw); go_simp; (try with_reducible rfl)
    simp only [Act.put, List.getElem_toArray, List.getElem_cons_zero, List.getElem_cons_succ, List.setIfInBounds_toArray, List.set_cons_zero, List.set_cons_succ]
    refine wpAnyH_take (i := 1) (v := ?_) rfl (by kernel_rfl) (by kernel_rfl) (by kernel_rfl) (fun _ _ _ h => h) (Or.inl ⟨by rfl, ?_⟩) (by assumption) ?_
    rotate_left 1
    · intro w hSw; (try dsimp only at hSw); go_simp; (try with_reducible rfl)
    simp only [Act.put, List.getElem_toArray, List.getElem_cons_zero, List.getElem_cons_succ, List.setIfInBounds_toArray, List.set_cons_zero, List.set_cons_succ]
    refine wpAnyH_ready (rs := [2]) (by kernel_rfl) (by simp) ?_
    refine AllReadyH.cons rfl (fun K hK => ?_) AllReadyH.nil
    go_simp
    refine (refSameBT A1 a1 _ _ c1 cap1 bs bs _ rfl (M.out.to BT.out) (R.out.to BT.out) (by omega) (by omega)).mono ?_
    rintro e w7 ⟨rfl, hb⟩
    replace BT := Lib.hid (BT.out.trans (hb.mono BT.out.size))
    clear hb
    go_wp2_with fail
    refine hK.out _ _ ((N0.out.to BT.out)) (fun hHeld => ?_)
    clear hK K
    refine wpAnyH_take (i := 3) (v := ?_) rfl (by kernel_rfl) (by kernel_rfl) (by kernel_rfl) (fun _ _ _ h => h) (Or.inl ⟨by rfl, ?_⟩) (by assumption) ?_
    rotate_left 1
    · intro w hSw; (try dsimp only at hSw); go_simp; (try with_reducible rfl)
    simp only [Act.put, List.getElem_toArray, List.getElem_cons_zero, List.getElem_cons_succ, List.setIfInBounds_toArray, List.set_cons_zero, List.set_cons_succ]
    refine wpAnyH_take (i := 4) (v := ?_) rfl (by kernel_rfl) (by kernel_rfl) (by kernel_rfl) (fun _ _ _ h => h) (Or.inl ⟨by rfl, ?_⟩) (by assumption) ?_
    rotate_left 1
    · intro w hSw; (try dsimp only at hSw); go_simp; (try with_reducible rfl)
    simp only [Act.put, List.getElem_toArray, List.getElem_cons_zero, List.getElem_cons_succ, List.setIfInBounds_toArray, List.set_cons_zero, List.set_cons_succ]
    refine wpAnyH_ready (rs := [5]) (by kernel_rfl) (by simp) ?_
    refine AllReadyH.cons rfl (fun K hK => ?_) AllReadyH.nil
    go_simp
    refine (wFirst _ (HP.out.to BT.out)).mono ?_
    rintro e w8 ⟨rfl, hb⟩
    replace BT := Lib.hid (BT.out.trans (hb.mono BT.out.size))
    clear hb
    go_wp2_with fail
    refine hK.out _ _ ((N0.out.to BT.out)) (fun hHeld => ?_)
    clear hK K
    refine wpAnyH_ready (rs := [6]) (by kernel_rfl) (by simp) ?_
    refine AllReadyH.cons rfl (fun K hK => ?_) AllReadyH.nil
    go_simp
    refine (wFirstRow _).mono ?_
    rintro e w9 ⟨A9, n9, c9, rfl, hown9, hb⟩
    have F9 := Lib.hid (RdK.of_own hown9)
    obtain rfl : n9 = 8 := (F9.out.1).symm
    replace BT := Lib.hid (BT.out.trans (hb.mono BT.out.size))
    clear hb hown9
    go_wp2_with fail
    refine hK.out _ _ ((N0.out.to BT.out)) (fun hHeld => ?_)
    clear hK K
    refine wpAnyH_ready (rs := [7]) (by kernel_rfl) (by simp) ?_
    refine AllReadyH.cons rfl (fun K hK => ?_) AllReadyH.nil
    go_simp
    refine (same_t A9 c9 shaF _ rfl F9.out).mono ?_
    rintro e w10 ⟨rfl, hb⟩
    replace BT := Lib.hid (BT.out.trans (hb.mono BT.out.size))
    clear hb F9
    go_wp2_with fail
    refine hK.out _ _ ((N0.out.to BT.out)) (fun hHeld => ?_)
    clear hK K
    refine wpAnyH_take (i := 8) (v := ?_) rfl (by kernel_rfl) (by kernel_rfl) (by kernel_rfl) (fun _ _ _ h => h) (Or.inl ⟨by rfl, ?_⟩) (by assumption) ?_
    rotate_left 1
    · intro w hSw; (try dsimp only at hSw); go_simp; (try with_reducible rfl)
    simp only [Act.put, List.getElem_toArray, List.getElem_cons_zero, List.getElem_cons_succ, List.setIfInBounds_toArray, List.set_cons_zero, List.set_cons_succ]
    refine wpAnyH_take (i := 9) (v := ?_) rfl (by kernel_rfl) (by kernel_rfl) (by kernel_rfl) (fun _ _ _ h => h) (Or.inl ⟨by rfl, ?_⟩) (by assumption) ?_
    rotate_left 1
    · intro w hSw; (try dsimp only at hSw); go_simp; (try with_reducible rfl)
    simp only [Act.put, List.getElem_toArray, List.getElem_cons_zero, List.getElem_cons_succ, List.setIfInBounds_toArray, List.set_cons_zero, List.set_cons_succ]
    refine wpAnyH_take (i := 10) (v := ?_) rfl (by kernel_rfl) (by kernel_rfl) (by kernel_rfl) (fun _ _ _ h => h) (Or.inl ⟨by rfl, ?_⟩) (by assumption) ?_
    rotate_left 1
    · intro w hSw; (try dsimp only at hSw); go_simp; (try with_reducible rfl)
    simp only [Act.put, List.getElem_toArray, List.getElem_cons_zero, List.getElem_cons_succ, List.setIfInBounds_toArray, List.set_cons_zero, List.set_cons_succ]
    refine wpAnyH_take (i := 11) (v := .agg (arrN .u32 s)) rfl (by kernel_rfl) (by kernel_rfl) (by kernel_rfl) (fun _ _ _ h => h) (yieldsIf_load_row (by rfl) 24 _ rfl w.heap.size rfl 24 (arrN .u32 s) (0, 0) _ (fun _ h => h) Tryd.underlying24 rfl HSS.out) (by assumption) ?_
    simp only [Act.put, List.getElem_toArray, List.getElem_cons_zero, List.getElem_cons_succ, List.setIfInBounds_toArray, List.set_cons_zero, List.set_cons_succ]
    refine wpAnyH_take (i := 13) (v := .agg (arrN .u32 s)) rfl (by kernel_rfl) (by kernel_rfl) (by kernel_rfl) (fun _ _ _ h => h) (yieldsIf_load_row (by rfl) 24 _ rfl w.heap.size rfl 24 (arrN .u32 s) (0, 0) _ (fun _ h => h) Tryd.underlying24 rfl HSS.out) (by assumption) ?_
    simp only [Act.put, List.getElem_toArray, List.getElem_cons_zero, List.getElem_cons_succ, List.setIfInBounds_toArray, List.set_cons_zero, List.set_cons_succ]
    refine wpAnyH_ready (rs := [12]) (by kernel_rfl) (by simp) ?_
    refine AllReadyH.cons rfl (fun K hK => ?_) AllReadyH.nil
    go_simp
    refine (wPrint s _ HS8.out).mono ?_
    rintro e w11 ⟨rfl, hb⟩
    replace BT := Lib.hid (BT.out.trans (hb.mono BT.out.size))
    clear hb
    go_wp2_with fail
    refine hK.out _ _ ((N0.out.to BT.out)) (fun hHeld => ?_)
    clear hK K
    refine wpAnyH_ready (rs := [14]) (by kernel_rfl) (by simp) ?_
    refine AllReadyH.cons rfl (fun K hK => ?_) AllReadyH.nil
    go_simp
    refine (lRow s _ HS8.out.1).mono ?_
    rintro e w12 ⟨A12, n12, c12, rfl, hown12, hb⟩
    have F12 := Lib.hid (RdK.of_own hown12)
    obtain rfl : n12 = 8 := (F12.out.1.symm.trans HS8.out.1)
    replace BT := Lib.hid (BT.out.trans (hb.mono BT.out.size))
    clear hb hown12
    go_wp2_with fail
    refine hK.out _ _ ((N0.out.to BT.out)) (fun hHeld => ?_)
    clear hK K
    refine wpAnyH_ready (rs := [15]) (by kernel_rfl) (by simp) ?_
    refine AllReadyH.cons rfl (fun K hK => ?_) AllReadyH.nil
    go_simp
    refine (rPrint A12 c12 s _ F12.out HS8.out).mono ?_
    rintro e w13 ⟨rfl, hb⟩
    replace BT := Lib.hid (BT.out.trans (hb.mono BT.out.size))
    clear hb F12
    go_wp2_with fail
    refine hK.out _ _ ((N0.out.to BT.out)) (fun hHeld => ?_)
    clear hK K
    refine wpAnyH_take (i := 16) (v := ?_) rfl (by kernel_rfl) (by kernel_rfl) (by kernel_rfl) (fun _ _ _ h => h) (Or.inl ⟨by rfl, ?_⟩) (by assumption) ?_
    rotate_left 1
    · intro w hSw; (try dsimp only at hSw); go_simp; (try with_reducible rfl)
    simp only [Act.put, List.getElem_toArray, List.getElem_cons_zero, List.getElem_cons_succ, List.setIfInBounds_toArray, List.set_cons_zero, List.set_cons_succ]
    refine wpAnyH_take (i := 17) (v := ?_) rfl (by kernel_rfl) (by kernel_rfl) (by kernel_rfl) (fun _ _ _ h => h) (Or.inl ⟨by rfl, ?_⟩) (by assumption) ?_
    rotate_left 1
    · intro w hSw; (try dsimp only at hSw); go_simp; (try with_reducible rfl)
    simp only [Act.put, List.getElem_toArray, List.getElem_cons_zero, List.getElem_cons_succ, List.setIfInBounds_toArray, List.set_cons_zero, List.set_cons_succ]
    refine wpAnyH_done (by kernel_rfl) ?_ _
    clear hHeld heq
    replace N6 := Lib.hid (N6.out.to BT.out)
    replace B := Lib.hid (B.out.trans (BT.out.mono B.out.size))
    clear BT M HP HWD R N0
    have f0 : w13.cell? ⟨g6, 0, none⟩ = some (.int .u32 0) := (N6.out.cell (j := 0) (by decide)).1
    have f1 : w13.cell? ⟨g6, 1, none⟩ = some (.int .u32 0) := (N6.out.cell (j := 1) (by decide)).1
    have f2 : w13.cell? ⟨g6, 2, none⟩ = some (.int .u32 0) := (N6.out.cell (j := 2) (by decide)).1
    have f3 : w13.cell? ⟨g6, 3, none⟩ = some (.int .u32 0) := (N6.out.cell (j := 3) (by decide)).1
    have f4 : w13.cell? ⟨g6, 4, none⟩ = some (.int .u32 0) := (N6.out.cell (j := 4) (by decide)).1
    have f5 : w13.cell? ⟨g6, 5, none⟩ = some (.int .u32 0) := (N6.out.cell (j := 5) (by decide)).1
    have f6 : w13.cell? ⟨g6, 6, none⟩ = some (.int .u32 0) := (N6.out.cell (j := 6) (by decide)).1
    have f7 : w13.cell? ⟨g6, 7, none⟩ = some (.int .u32 0) := (N6.out.cell (j := 7) (by decide)).1
    have h8 : ∀ w', (Op.equalIn 10000 24 (.agg #[.int .u32 0, .int .u32 0, .int .u32 0, .int .u32 0, .int .u32 0, .int .u32 0, .int .u32 0, .int .u32 0]) (.agg (arrN .u32 zeros8))).run Tryd.prog w' = .ok true w' := eq_z8
    have hgd8 : Tryd.prog.eqGuardType Tryd.prog.depth 24 = false := by kernel_rfl
    go_wp2_with fail
    go_ret
    exact ⟨rfl, B.out⟩

set_option maxRecDepth 100000 in
theorem lifted (os : Os) (started : os.Started) (H : Type) (enc : TypeId × Value → H) :
    ReturnsInHanded {} Tryd.checked os 3 .any (fun w args => (Rows.shaEatsSpec.pre enc Tryd.prog Tryd.f3 Rows.shaEatsRow.domain false w args ∧ laidMetH Tryd.prog Rows.shaEatsRow.laid w) ∧ sizedMet enc Tryd.prog Tryd.f3 (OpenSpec.ofChange Rows.shaEatsSpec) false w args)
      (Rows.shaEatsSpec.post enc Tryd.prog Tryd.f3 false true false false) := by
  refine returnsInHanded_of_change_and (C := Tryd.checked) (X := fun w _ => laidMetH Tryd.prog Rows.shaEatsRow.laid w) (fun _ _ _ hh h => h.of_heap hh) own started (by kernel_rfl) Tryd.func3
    (ChangeSpec.witness_shaped (enc := enc) (C := Tryd.checked) (os := os) (X := fun w _ => laidMetH Tryd.prog Rows.shaEatsRow.laid w) false (World.doorLaid Tryd.prog 400 os) #[.agg #[.int .u32 0, .int .u32 0, .int .u32 0, .int .u32 0, .int .u32 0, .int .u32 0, .int .u32 0, .int .u32 0], .slice none 0 0] 8 rfl (World.shaped_of_RefB (by kernel_rfl) (by kernel_rfl)) (by kernel_rfl) (by kernel_rfl) (by kernel_rfl) (door_met os _)) ?_
  intro W base args ds gs before hval0 hW hcnd hsz0 hL _
  have hval : ∀ (j : Nat) t v, Tryd.f3.params[j]? = some t → args[j]? = some v → Value.okWide Tryd.prog W .any base t v := hval0
  have hW' := hW
  obtain ⟨p, q, hA0, hV, rfl, hfz, hnd⟩ := hW
  have hA : DataW.TrodAll enc Tryd.prog W 0 (fun _ => true) true Tryd.f3.params.toList args.toList ds p := hA0
  rw [Tryd.params3] at hA hval
  obtain ⟨v0, vs0, d0, ds0, p0, q0, hargs, rfl, rfl, h0, r0⟩ := trodAll_cons hA
  obtain ⟨v1, vs1, d1, ds1, p1, q1, rfl, rfl, rfl, h1, r1⟩ := trodAll_cons r0
  obtain ⟨rfl, rfl, rfl⟩ := trodAll_nil r1
  obtain rfl : args = #[v0, v1] := by cases args; simp_all
  obtain ⟨rfl, rfl⟩ := trodVars_none hV
  have k0 := h0
  have lt0 : ∀ x ∈ p0, x.block < W.heap.size := by obtain ⟨m, hm⟩ := k0; exact DataW.trod_lt m _ _ _ hm
  obtain ⟨z0, rfl, w0⟩ := open_arrK Tryd.underlying24 Tryd.underlying22 (by kernel_rfl) (by kernel_rfl) (hval 0 24 v0 rfl rfl) h0
  obtain ⟨a1, len1, cap1, rfl⟩ := okWide_slice Tryd.underlying25 (hval 1 25 v1 rfl rfl)
  have k1 := h1
  have lt1 : ∀ x ∈ p1, x.block < W.heap.size := by obtain ⟨m, hm⟩ := k1; exact DataW.trod_lt m _ _ _ hm
  obtain ⟨z1, w1⟩ : ∃ zs, IsRow .u8 W a1 len1 cap1 zs := by
    obtain ⟨fuel, hf⟩ := h1
    rcases open_ints Tryd.underlying25 Tryd.underlying5 (by kernel_rfl) hf with ⟨hcs, _⟩ | ⟨x, l, c, zs, hcs, _, hl, hm, hz, _, hcell, hwz⟩
    · simp [Value.cells] at hcs
      obtain ⟨rfl, rfl, rfl⟩ := hcs
      exact ⟨[], .inl ⟨rfl, rfl, rfl, rfl⟩⟩
    · simp [Value.cells] at hcs
      obtain ⟨rfl, rfl, rfl⟩ := hcs
      exact ⟨zs, .inr ⟨_, rfl, hl, hm, by simpa using hz, hcell, hwz⟩⟩
  clear hA0 hval0
  refine (walk z0 a1 len1 cap1 z1 W (pr_of_laid hL) w0 w1).mono fun e W' ⟨he, bel⟩ => ?_
  subst he
  exact ⟨_, rfl, _, _, _, [], _, [], hW', trodAll_mk1 (shut_bool Tryd.underlying4 _), (trodAll_cons_mk (Below.trod laidOut (by kernel_rfl) (of_decide_eq_true (by kernel_rfl)) k0 bel lt0) (trodAll_cons_mk (Below.trod laidOut (by kernel_rfl) (of_decide_eq_true (by kernel_rfl)) k1 bel lt1) trodAll_mk0)), rfl, bel.frame _, fun h => by cases h⟩

theorem over : Rows.shaEatsRow.holds Tryd.pinned (OpenSpec.ofChange Rows.shaEatsSpec) :=
  OpenClaim.holds_of_wide 3 Tryd.f3 rfl rfl rfl rfl rfl rfl rfl ⟨rfl, rfl, rfl, rfl, rfl⟩ rfl rfl rfl rfl rfl (by kernel_rfl) Tryd.func3 (by kernel_rfl)
    (of_decide_eq_true (by kernel_rfl)) (by unfold Func.isWrapper; first | (rw [if_pos (by decide +kernel)]; kernel_rfl) | (rw [if_neg (by decide +kernel)]; exact ⟨rfl, rfl⟩))
    (fun os started H enc _ => lifted os started H enc)

theorem wants : ∀ (j : Nat) t, Tryd.f3.params[j]? = some t → Tryd.prog.wantsStandIn t = false := by
  intro j t ht
  rw [Tryd.params3] at ht
  rcases j with _ | j
  · obtain rfl : 24 = t := by simpa using ht
    kernel_rfl
  rcases j with _ | j
  · obtain rfl : 25 = t := by simpa using ht
    kernel_rfl
  simp at ht
theorem proved : Rows.ShaEatsCardSaid :=
  Claim7.holds_tied_plain_at .later [] [.data] true Rows.shaEatsCard.stood.harness Rows.shaEatsCard.stood.looks over (fun _ h => by cases h) (by kernel_rfl) (fun _ h => by cases h) shaEats_row_tie rfl ⟨rfl, rfl⟩ (by kernel_rfl) rfl
    (fun f fn hf hfn => by
      obtain rfl : f = 3 := Option.some.inj ((show Tryd.prog.funcNamed "citadel/citadellaw03.ShaEats" = some 3 by kernel_rfl).symm.trans hf) |>.symm
      obtain rfl : fn = Tryd.f3 := (Option.some.inj (Tryd.func3.symm.trans hfn)).symm
      exact ⟨by kernel_rfl, wants⟩)
    (by kernel_rfl)
end Go.Proofs.YtbgcnhhdgnalgaaDoor.shaEats
