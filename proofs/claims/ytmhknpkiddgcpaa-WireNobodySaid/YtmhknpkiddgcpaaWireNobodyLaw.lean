/- For any field the law WireNobody of citadellaw05 returns true: of a writer, a reader that nobody made nothing comes. Conditions: none beyond those that the statement itself prints. -/
import Derived.Test.YtmhknpkiddgcpaaRows
import Derived.Test.YtmhknpkiddgcpaaWireFldS
import Derived.Test.YtmhknpkiddgcpaaArrEq
import Derived.Deep.RegionHeld
import Derived.SizedLaws
import Derived.WalkKit
import Derived.ProofKit
import Derived.OpenShut
import Derived.ShutString
import Derived.ChangeOld
import Derived.Below
namespace Go.Proofs.Ytmhknpkiddgcpaa.wireNobody
open Go.ChangeShapes Go.WideShapes Go.ChangeAt Go.RowKit
open Go.ChangeMaps (open_string shut_string)
set_option linter.unusedVariables false
set_option linter.unusedSimpArgs false

theorem own : ownKnob Try.prog.godebug = none := by kernel_rfl
theorem laidOut : laidOutB Try.prog = true := by kernel_rfl

section
variable {H : Type} {enc : TypeId × Value → H} {W : World} {base : Nat} {held : Bool}
set_option maxRecDepth 100000 in
/-- How a field comes in. -/
theorem open_fld {r : Reach} {b0 : Nat} {v : Value} {d : DataW H} {ps : List MemPlace} (hval : Value.okWide Try.prog W r b0 31 v) (hd : DataW.Trod enc Try.prog W base (fun _ => true) held 31 v d ps)
    (hw : ∀ y ∈ d.weights Try.prog 31, y ≤ reachBytes) : ∃ f A m c, v = .agg (fldL f A m c).toArray ∧ FldOk W W.heap.size f A m c := by
  obtain ⟨cs, rfl, _⟩ := okWide_struct Try.underlying31 hval
  obtain ⟨fuel, hf⟩ := hd
  obtain ⟨f, A, m, c, hcs, hok⟩ := trod_fld hf hw
  refine ⟨f, A, m, c, ?_, hok⟩
  have h : cs.toList = fldL f A m c := by simpa [Value.cells] using hcs
  rw [← h]
end
theorem four_blocks (w : World) (ca cb cc cd : Array Value) (ta tb tc td : TypeId) : ∃ w6, (((w.alloc (.cells ca ta)).alloc (.cells cb tb)).alloc (.cells cc tc)).alloc (.cells cd td) = w6 ∧ w6.heap.size = w.heap.size + 4 ∧ Below w.heap.size w w6 ∧ w6.heap[w.heap.size]? = some (.cells ca ta (0, 0)) ∧ w6.heap[w.heap.size + 1]? = some (.cells cb tb (0, 0)) ∧ w6.heap[w.heap.size + 1 + 1]? = some (.cells cc tc (0, 0)) ∧ w6.heap[w.heap.size + 1 + 1 + 1]? = some (.cells cd td (0, 0)) := by
  have s1 : (w.alloc (.cells ca ta)).heap.size = w.heap.size + 1 := by simp
  have s2 : ((w.alloc (.cells ca ta)).alloc (.cells cb tb)).heap.size = w.heap.size + 1 + 1 := by simp
  have s3 : (((w.alloc (.cells ca ta)).alloc (.cells cb tb)).alloc (.cells cc tc)).heap.size = w.heap.size + 1 + 1 + 1 := by simp
  have a := heap_alloc_last w (.cells ca ta)
  have b := heap_alloc_last (w.alloc (.cells ca ta)) (.cells cb tb)
  have c := heap_alloc_last ((w.alloc (.cells ca ta)).alloc (.cells cb tb)) (.cells cc tc)
  have d := heap_alloc_last (((w.alloc (.cells ca ta)).alloc (.cells cb tb)).alloc (.cells cc tc)) (.cells cd td)
  rw [s1] at b
  rw [s2] at c
  rw [s3] at d
  refine ⟨_, rfl, by simp, (((Below.refl _ w).alloc (Nat.le_refl _) _ |>.alloc (by rw [s1]; omega) _).alloc (by rw [s2]; omega) _).alloc (by rw [s3]; omega) _, ?_, ?_, ?_, d⟩
  · exact (Below.heap_alloc _ _ _ (by rw [s3]; omega)).trans ((Below.heap_alloc _ _ _ (by rw [s2]; omega)).trans ((Below.heap_alloc _ _ _ (by rw [s1]; omega)).trans a))
  · exact (Below.heap_alloc _ _ _ (by rw [s3]; omega)).trans ((Below.heap_alloc _ _ _ (by rw [s2]; omega)).trans b)
  · exact (Below.heap_alloc _ _ _ (by rw [s3]; omega)).trans c
def NobodyRel (w6 : World) (i : Value) (wr : World) : Prop := ∃ k : Nat, k ≤ 2 ∧ i = .int .i64 (k : Int) ∧ Below w6.heap.size w6 wr
theorem fld_zinfo : (Try.prog.info? 31).map (fun i => (i.zero, i.size)) = some (some (.agg (fldL Fld.zero none 0 0).toArray), 37) := by kernel_rfl
set_option maxRecDepth 100000 in
set_option maxHeartbeats 4000000 in
theorem walk (f0 : Fld) (A0 : Option Addr) (m0 c0 : Nat) (w : World) (w0 : FldOk w w.heap.size f0 A0 m0 c0) :
    Calls Try.prog 5 #[.agg (fldL f0 A0 m0 c0).toArray] w fun e w' => e = .returned (.bool true) ∧ Below w.heap.size w w' := by
  have F0 := FldAt.new w f0 A0 m0 c0 31
  have hu := Try.underlying31
  have hi : (Try.prog.info? 31).map (·.size) = some (fldL f0 A0 m0 c0).length := by rw [fldL_len w0.tl]; kernel_rfl
  have hrg0 : (w.alloc (.cells (fldL f0 A0 m0 c0).toArray 31)).rangeAt w.heap.size 0 (fldL f0 A0 m0 c0) := fun j v hv => by
    rw [Nat.zero_add, World.cell?_alloc_at _ _ _ _ (by rfl)]
    simpa using hv
  have W0 := Lib.hid w0
  have hinf := fld_zinfo
  have S37 : Hid ((fldL f0 A0 m0 c0).toArray.size = 37) := by (show _ = _); rw [List.size_toArray]; exact fldL_len w0.tl A0 m0 c0
  have hb0 : Below w.heap.size w (w.alloc (.cells (fldL f0 A0 m0 c0).toArray 31)) := (Below.refl _ _).alloc (Nat.le_refl _) _
  have B := Lib.hid hb0
  replace W0 := Lib.hid (w0.to hb0)
  have hrd := fldS_rd W0.out
  have hsz0 : (w.alloc (.cells (fldL f0 A0 m0 c0).toArray 31)).heap.size = w.heap.size + 1 := by simp
  rw [hsz0] at hrd
  have HRD := Lib.hid hrd
  have HM := Lib.hid w0.rd.1
  clear F0 w0 hb0 hrd hsz0
  go_enter Try.func5, Try.ntmps5
  go_wp2_with (first | (refine wpList_load_mid rfl 31 _ rfl w.heap.size 0 rfl (fldL f0 A0 m0 c0) _ hrg0 hu rfl hi ?_) | (refine wpList_buildField rfl _ rfl (fldL f0 A0 m0 c0).toArray rfl Try.underlying22 hinf S37.out ?_))
  have hb2 : Below w.heap.size w ((w.alloc (.cells (fldL f0 A0 m0 c0).toArray 31)).alloc (.cells (fldL f0 A0 m0 c0).toArray 31)) := B.out.alloc B.out.size _
  have hb2' : Below (w.alloc (.cells (fldL f0 A0 m0 c0).toArray 31)).heap.size (w.alloc (.cells (fldL f0 A0 m0 c0).toArray 31)) ((w.alloc (.cells (fldL f0 A0 m0 c0).toArray 31)).alloc (.cells (fldL f0 A0 m0 c0).toArray 31)) := (Below.refl _ _).alloc (Nat.le_refl _) _
  have hlt0 : w.heap.size < (w.alloc (.cells (fldL f0 A0 m0 c0).toArray 31)).heap.size := by simp
  have T1 := Lib.hid (rangeAt_below hrg0 hb2' hlt0)
  have W2 := Lib.hid (W0.out.to hb2')
  have HL2 := Lib.hid (Nat.lt_of_lt_of_le hlt0 hb2'.size)
  obtain ⟨w2, hw2⟩ : ∃ w2, (w.alloc (.cells (fldL f0 A0 m0 c0).toArray 31)).alloc (.cells (fldL f0 A0 m0 c0).toArray 31) = w2 := ⟨_, rfl⟩
  rw [hw2] at T1 W2 HL2 hb2 HRD
  rw [hw2]
  have B2 := Lib.hid hb2
  clear hw2 hb2 hb2' hlt0 hrg0 W0 B
  obtain ⟨big, hbig⟩ : ∃ b, decide (5000 < sumF [f0]) = b := ⟨_, rfl⟩
  refine (rGreat (some ⟨w.heap.size + 1, 0, none⟩) 1 1 _ [f0] w2 HRD.out (by decide)).mono ?_
  rw [hbig]
  rintro e w' ⟨rfl, rfl⟩
  cases big
  rotate_left 1
  · go_wp2_with fail
    go_ret
    exact ⟨rfl, B2.out⟩
  have HM5 : Hid (m0 ≤ 1000000) := by
    have h := of_decide_eq_false hbig
    have h1 : sumF [f0] = 40 + f0.b.length := by simp [sumF]
    show _ ≤ _
    rw [h1, HM.out] at h; omega
  clear hbig HRD HM
  obtain ⟨w6, hw6, hs6, hb6, h1, h2, h3, h4⟩ := four_blocks w2 #[.bool false, .slice none 0 0, .int .i64 0] #[.pointer none, .pointer (some ⟨w2.heap.size, 0, none⟩)] #[.bool false, .slice none 0 0, .int .i64 0] #[.pointer none, .pointer (some ⟨w2.heap.size + 1 + 1, 0, none⟩)] 49 24 52 38
  have cw := (cells3 h1).1
  have cr := (cells3 h3).1
  have BW6 : Hid (BadW (.pointer (some ⟨w2.heap.size, 0, none⟩)) w6) := BadW.unmade (by omega) cw
  have BR6 : Hid (BadR (.pointer (some ⟨w2.heap.size + 1 + 1, 0, none⟩)) w6) := BadR.unmade (by omega) cr
  have CW0 : Hid (w6.cell? ⟨w2.heap.size + 1, 0, none⟩ = some (.pointer none)) := by (show _ = _); rw [cell_of_row _ _ _ _ _ _ h2]; rfl
  have CW1 : Hid (w6.cell? ⟨w2.heap.size + 1, 1, none⟩ = some (.pointer (some ⟨w2.heap.size, 0, none⟩))) := by (show _ = _); rw [cell_of_row _ _ _ _ _ _ h2]; rfl
  have CR0 : Hid (w6.cell? ⟨w2.heap.size + 1 + 1 + 1, 0, none⟩ = some (.pointer none)) := by (show _ = _); rw [cell_of_row _ _ _ _ _ _ h4]; rfl
  have CR1 : Hid (w6.cell? ⟨w2.heap.size + 1 + 1 + 1, 1, none⟩ = some (.pointer (some ⟨w2.heap.size + 1 + 1, 0, none⟩))) := by (show _ = _); rw [cell_of_row _ _ _ _ _ _ h4]; rfl
  have T6 : Hid (w6.rangeAt w.heap.size 0 (fldL f0 A0 m0 c0)) := rangeAt_below T1.out hb6 HL2.out
  have W6 := Lib.hid (W2.out.to hb6)
  have B6 := Lib.hid (B2.out.trans (hb6.mono B2.out.size))
  have HS6 := Lib.hid hs6
  have HW6 := Lib.hid hw6
  clear hw6 hs6 hb6 h1 h2 h3 h4 cw cr T1 W2 B2
  go_wp2_with fail
  rw [HW6.out]
  obtain ⟨g1, hg1⟩ : ∃ g, w2.heap.size = g := ⟨_, rfl⟩
  rw [hg1] at BW6 BR6 CW0 CW1 CR0 CR1 HS6 HL2
  rw [hg1]
  clear hg1 HW6
  go_loopw [7, 8, 9, 10] (fun i _ _ _ wr => NobodyRel w6 i wr) (fun i _ _ _ _ => 2 - (intOf i).toNat)
  case atStart => exact ⟨0, by decide, rfl, Below.refl _ _⟩
  case round =>
    obtain ⟨k, hk, rfl, hb⟩ := hrel
    have BT := Lib.hid hb
    clear hb
    have hgd : Try.prog.eqGuardType Try.prog.depth 29 = false := by kernel_rfl
    have heq : ∀ w', (Op.equalIn 10000 29 (.agg (arrB zeros32)) (.agg (arrB zeros32))).run Try.prog w' = .ok (decide (zeros32 = zeros32)) w' := fun w' => run_eql_arrB (P := Try.prog) Try.underlying29 Try.underlying5 (sizeOf_one (by kernel_rfl)) zeros32 zeros32 rfl rfl w'
    rw [show decide (zeros32 = zeros32) = true from decide_eq_true rfl] at heq
    have hz := tag_zero
    have hs0 : strB [] = ⟨#[]⟩ := rfl
    have HL6 : Hid (w.heap.size < w6.heap.size) := by (show _ < _); rw [HS6.out]; have := HL2.out; omega
    have HG1 : Hid (g1 + 1 < w6.heap.size ∧ g1 + 1 + 1 + 1 < w6.heap.size) := ⟨by rw [HS6.out]; omega, by rw [HS6.out]; omega⟩
    obtain rfl | rfl | rfl : k = 0 ∨ k = 1 ∨ k = 2 := by omega
    · have _h := hz
      clear _h
      go_wp2_with fail
      replace BT := Lib.hid BT.out.drew
      have CW := Lib.hid ((BT.out.cell (show (⟨g1 + 1, 0, none⟩ : Addr).block < w6.heap.size from HG1.out.1)).trans CW0.out)
      have TT := Lib.hid (rangeAt_below T6.out BT.out HL6.out)
      generalize hwd : wr.drew = wd at *
      have HWD := Lib.hid hwd
      clear hwd
      refine wp_region_held_drew (S := (fun w' => w'.cell? ⟨g1 + 1, 0, none⟩ = some (.pointer none) ∧ w'.rangeAt w.heap.size 0 (fldL f0 A0 m0 c0))) (by kernel_rfl) ((by rw [HWD.out]; exact ⟨CW.out, TT.out⟩)) (fun hHeld => ?_)
      rw [HWD.out] at hHeld ⊢
      refine wpAnyH_take (i := 0) (v := ?_) rfl (by kernel_rfl) (by kernel_rfl) (by kernel_rfl) (fun _ _ _ h => h) (Or.inl ⟨by rfl, ?_⟩) (by assumption) ?_
      rotate_left 1
      · intro w hSw; (try dsimp only at hSw); go_simp; (try with_reducible rfl)
      simp only [Act.put, List.getElem_toArray, List.getElem_cons_zero, List.getElem_cons_succ, List.setIfInBounds_toArray, List.set_cons_zero, List.set_cons_succ]
      refine wpAnyH_take (i := 1) (v := ?_) rfl (by kernel_rfl) (by kernel_rfl) (by kernel_rfl) (fun _ _ _ h => h) (Or.inl ⟨by rfl, ?_⟩) (by assumption) ?_
      rotate_left 1
      · intro w hSw; (try dsimp only at hSw); go_simp; (try with_reducible rfl)
      simp only [Act.put, List.getElem_toArray, List.getElem_cons_zero, List.getElem_cons_succ, List.setIfInBounds_toArray, List.set_cons_zero, List.set_cons_succ]
      refine wpAnyH_take (i := 2) (v := ?_) rfl (by kernel_rfl) (by kernel_rfl) (by kernel_rfl) (fun _ _ _ h => h) (Or.inl ⟨by rfl, ?_⟩) (by assumption) ?_
      rotate_left 1
      · intro w hSw; (try dsimp only at hSw); go_simp; (try with_reducible rfl)
      simp only [Act.put, List.getElem_toArray, List.getElem_cons_zero, List.getElem_cons_succ, List.setIfInBounds_toArray, List.set_cons_zero, List.set_cons_succ]
      refine wpAnyH_take (i := 3) (v := ?_) rfl (by kernel_rfl) (by kernel_rfl) (by kernel_rfl) (fun _ _ _ h => h) (Or.inl ⟨by rfl, ?_⟩) (by assumption) ?_
      rotate_left 1
      · intro w hSw; (try dsimp only at hSw); go_simp; (try with_reducible rfl)
      simp only [Act.put, List.getElem_toArray, List.getElem_cons_zero, List.getElem_cons_succ, List.setIfInBounds_toArray, List.set_cons_zero, List.set_cons_succ]
      refine wpAnyH_take (i := 4) (v := .agg (List.toArray (fldL f0 A0 m0 c0))) rfl (by kernel_rfl) (by kernel_rfl) (by kernel_rfl) (fun _ _ _ h => h) (yieldsIf_load_mid (by rfl) 31 _ rfl w.heap.size 0 rfl (fldL f0 A0 m0 c0) _ (fun _ h => h.2) hu rfl hi) (by assumption) ?_
      simp only [Act.put, List.getElem_toArray, List.getElem_cons_zero, List.getElem_cons_succ, List.setIfInBounds_toArray, List.set_cons_zero, List.set_cons_succ]
      refine wpAnyH_ready (rs := [5]) (by kernel_rfl) (by simp) ?_
      refine AllReadyH.cons rfl (fun K hK => ?_) AllReadyH.nil
      go_simp
      refine (rAddBad (.pointer none) f0 A0 m0 c0 wd (BadW.nil _) (W6.out.to BT.out) HM5.out).mono ?_
      rintro e w8 ⟨rfl, hb⟩
      have BU := Lib.hid (BT.out.trans (hb.mono BT.out.size))
      clear hb
      go_wp2_with fail
      refine hK.out _ _ (⟨(BU.out.cell (show (⟨g1 + 1, 0, none⟩ : Addr).block < w6.heap.size from HG1.out.1)).trans CW0.out, rangeAt_below T6.out BU.out HL6.out⟩) (fun hHeld => ?_)
      clear hK K
      refine wpAnyH_done (by kernel_rfl) ?_ _
      clear hHeld BT CW TT HWD
      have hcw := (BU.out.cell (show (⟨g1 + 1, 0, none⟩ : Addr).block < w6.heap.size from HG1.out.1)).trans CW0.out
      have hcr := (BU.out.cell (show (⟨g1 + 1 + 1 + 1, 0, none⟩ : Addr).block < w6.heap.size from HG1.out.2)).trans CR0.out
      go_wp2_with fail
      refine (cDone (.pointer none) w8 (BadW.nil _)).mono ?_
      rintro e w9 ⟨rfl, rfl⟩
      go_wp2_with fail
      clear hcw hcr
      refine (bByte (.pointer none) _ (BadR.nil _)).mono ?_
      rintro e w9 ⟨rfl, hb⟩
      replace BU := Lib.hid (BU.out.trans (hb.mono BU.out.size))
      clear hb
      go_wp2_with fail
      refine (bInt (.pointer none) _ (BadR.nil _)).mono ?_
      rintro e w9 ⟨rfl, hb⟩
      replace BU := Lib.hid (BU.out.trans (hb.mono BU.out.size))
      clear hb
      go_wp2_with fail
      refine (bFlag (.pointer none) _ (BadR.nil _)).mono ?_
      rintro e w9 ⟨rfl, hb⟩
      replace BU := Lib.hid (BU.out.trans (hb.mono BU.out.size))
      clear hb
      go_wp2_with fail
      refine (bBytes (.pointer none) _ (BadR.nil _)).mono ?_
      rintro e w9 ⟨rfl, hb⟩
      replace BU := Lib.hid (BU.out.trans (hb.mono BU.out.size))
      clear hb
      go_wp2_with fail
      refine (bText (.pointer none) _ (BadR.nil _)).mono ?_
      rintro e w9 ⟨rfl, hb⟩
      replace BU := Lib.hid (BU.out.trans (hb.mono BU.out.size))
      clear hb
      go_wp2_with fail
      refine (bTag (.pointer none) _ (BadR.nil _)).mono ?_
      rintro e w9 ⟨rfl, hb⟩
      replace BU := Lib.hid (BU.out.trans (hb.mono BU.out.size))
      clear hb
      have hcn : World.cell? _ ⟨w.heap.size, 2, none⟩ = some (.int .i64 f0.n) := rangeAt_below T6.out BU.out HL6.out 2 _ rfl
      go_wp2_with fail
      clear hcn
      refine (bCount (.pointer none) f0.n _ (BadR.nil _)).mono ?_
      rintro e w9 ⟨rfl, hb⟩
      replace BU := Lib.hid (BU.out.trans (hb.mono BU.out.size))
      clear hb
      go_wp2_with fail
      refine (pLeft_bad (.pointer none) 1 _ (BadR.nil _).err (by decide)).mono ?_
      rintro e w9 ⟨rfl, rfl⟩
      go_wp2_with fail
      refine ((BadR.nil _).err).mono ?_
      rintro e w9 ⟨rfl, rfl⟩
      go_wp2_with fail
      refine (pEnd_bad (.pointer none) 1 _ (BadR.nil _).err (by decide)).mono ?_
      rintro e w9 ⟨rfl, rfl⟩
      go_wp2_with fail
      go_roundw
      case rel => exact ⟨0 + 1, by decide, by go_num, BU.out⟩
      case measure => simp [intOf]
    · have _h := hz
      clear _h
      go_wp2_with fail
      replace BT := Lib.hid BT.out.drew
      have CW := Lib.hid ((BT.out.cell (show (⟨g1 + 1, 1, none⟩ : Addr).block < w6.heap.size from HG1.out.1)).trans CW1.out)
      have TT := Lib.hid (rangeAt_below T6.out BT.out HL6.out)
      generalize hwd : wr.drew = wd at *
      have HWD := Lib.hid hwd
      clear hwd
      refine wp_region_held_drew (S := (fun w' => w'.cell? ⟨g1 + 1, 1, none⟩ = some (.pointer (some ⟨g1, 0, none⟩)) ∧ w'.rangeAt w.heap.size 0 (fldL f0 A0 m0 c0))) (by kernel_rfl) ((by rw [HWD.out]; exact ⟨CW.out, TT.out⟩)) (fun hHeld => ?_)
      rw [HWD.out] at hHeld ⊢
      refine wpAnyH_take (i := 0) (v := ?_) rfl (by kernel_rfl) (by kernel_rfl) (by kernel_rfl) (fun _ _ _ h => h) (Or.inl ⟨by rfl, ?_⟩) (by assumption) ?_
      rotate_left 1
      · intro w hSw; (try dsimp only at hSw); go_simp; (try with_reducible rfl)
      simp only [Act.put, List.getElem_toArray, List.getElem_cons_zero, List.getElem_cons_succ, List.setIfInBounds_toArray, List.set_cons_zero, List.set_cons_succ]
      refine wpAnyH_take (i := 1) (v := ?_) rfl (by kernel_rfl) (by kernel_rfl) (by kernel_rfl) (fun _ _ _ h => h) (Or.inl ⟨by rfl, ?_⟩) (by assumption) ?_
      rotate_left 1
      · intro w hSw; (try dsimp only at hSw); go_simp; (try with_reducible rfl)
      simp only [Act.put, List.getElem_toArray, List.getElem_cons_zero, List.getElem_cons_succ, List.setIfInBounds_toArray, List.set_cons_zero, List.set_cons_succ]
      refine wpAnyH_take (i := 2) (v := ?_) rfl (by kernel_rfl) (by kernel_rfl) (by kernel_rfl) (fun _ _ _ h => h) (Or.inl ⟨by rfl, ?_⟩) (by assumption) ?_
      rotate_left 1
      · intro w hSw; (try dsimp only at hSw); go_simp; (try with_reducible rfl)
      simp only [Act.put, List.getElem_toArray, List.getElem_cons_zero, List.getElem_cons_succ, List.setIfInBounds_toArray, List.set_cons_zero, List.set_cons_succ]
      refine wpAnyH_take (i := 3) (v := ?_) rfl (by kernel_rfl) (by kernel_rfl) (by kernel_rfl) (fun _ _ _ h => h) (Or.inl ⟨by rfl, ?_⟩) (by assumption) ?_
      rotate_left 1
      · intro w hSw; (try dsimp only at hSw); go_simp; (try with_reducible rfl)
      simp only [Act.put, List.getElem_toArray, List.getElem_cons_zero, List.getElem_cons_succ, List.setIfInBounds_toArray, List.set_cons_zero, List.set_cons_succ]
      refine wpAnyH_take (i := 4) (v := .agg (List.toArray (fldL f0 A0 m0 c0))) rfl (by kernel_rfl) (by kernel_rfl) (by kernel_rfl) (fun _ _ _ h => h) (yieldsIf_load_mid (by rfl) 31 _ rfl w.heap.size 0 rfl (fldL f0 A0 m0 c0) _ (fun _ h => h.2) hu rfl hi) (by assumption) ?_
      simp only [Act.put, List.getElem_toArray, List.getElem_cons_zero, List.getElem_cons_succ, List.setIfInBounds_toArray, List.set_cons_zero, List.set_cons_succ]
      refine wpAnyH_ready (rs := [5]) (by kernel_rfl) (by simp) ?_
      refine AllReadyH.cons rfl (fun K hK => ?_) AllReadyH.nil
      go_simp
      refine (rAddBad (.pointer (some ⟨g1, 0, none⟩)) f0 A0 m0 c0 wd (BW6.out.to BT.out) (W6.out.to BT.out) HM5.out).mono ?_
      rintro e w8 ⟨rfl, hb⟩
      have BU := Lib.hid (BT.out.trans (hb.mono BT.out.size))
      clear hb
      go_wp2_with fail
      refine hK.out _ _ (⟨(BU.out.cell (show (⟨g1 + 1, 1, none⟩ : Addr).block < w6.heap.size from HG1.out.1)).trans CW1.out, rangeAt_below T6.out BU.out HL6.out⟩) (fun hHeld => ?_)
      clear hK K
      refine wpAnyH_done (by kernel_rfl) ?_ _
      clear hHeld BT CW TT HWD
      have hcw := (BU.out.cell (show (⟨g1 + 1, 1, none⟩ : Addr).block < w6.heap.size from HG1.out.1)).trans CW1.out
      have hcr := (BU.out.cell (show (⟨g1 + 1 + 1 + 1, 1, none⟩ : Addr).block < w6.heap.size from HG1.out.2)).trans CR1.out
      go_wp2_with fail
      refine (cDone (.pointer (some ⟨g1, 0, none⟩)) w8 (BW6.out.to BU.out)).mono ?_
      rintro e w9 ⟨rfl, rfl⟩
      go_wp2_with fail
      clear hcw hcr
      refine (bByte (.pointer (some ⟨g1 + 1 + 1, 0, none⟩)) _ (BR6.out.to BU.out)).mono ?_
      rintro e w9 ⟨rfl, hb⟩
      replace BU := Lib.hid (BU.out.trans (hb.mono BU.out.size))
      clear hb
      go_wp2_with fail
      refine (bInt (.pointer (some ⟨g1 + 1 + 1, 0, none⟩)) _ (BR6.out.to BU.out)).mono ?_
      rintro e w9 ⟨rfl, hb⟩
      replace BU := Lib.hid (BU.out.trans (hb.mono BU.out.size))
      clear hb
      go_wp2_with fail
      refine (bFlag (.pointer (some ⟨g1 + 1 + 1, 0, none⟩)) _ (BR6.out.to BU.out)).mono ?_
      rintro e w9 ⟨rfl, hb⟩
      replace BU := Lib.hid (BU.out.trans (hb.mono BU.out.size))
      clear hb
      go_wp2_with fail
      refine (bBytes (.pointer (some ⟨g1 + 1 + 1, 0, none⟩)) _ (BR6.out.to BU.out)).mono ?_
      rintro e w9 ⟨rfl, hb⟩
      replace BU := Lib.hid (BU.out.trans (hb.mono BU.out.size))
      clear hb
      go_wp2_with fail
      refine (bText (.pointer (some ⟨g1 + 1 + 1, 0, none⟩)) _ (BR6.out.to BU.out)).mono ?_
      rintro e w9 ⟨rfl, hb⟩
      replace BU := Lib.hid (BU.out.trans (hb.mono BU.out.size))
      clear hb
      go_wp2_with fail
      refine (bTag (.pointer (some ⟨g1 + 1 + 1, 0, none⟩)) _ (BR6.out.to BU.out)).mono ?_
      rintro e w9 ⟨rfl, hb⟩
      replace BU := Lib.hid (BU.out.trans (hb.mono BU.out.size))
      clear hb
      have hcn : World.cell? _ ⟨w.heap.size, 2, none⟩ = some (.int .i64 f0.n) := rangeAt_below T6.out BU.out HL6.out 2 _ rfl
      go_wp2_with fail
      clear hcn
      refine (bCount (.pointer (some ⟨g1 + 1 + 1, 0, none⟩)) f0.n _ (BR6.out.to BU.out)).mono ?_
      rintro e w9 ⟨rfl, hb⟩
      replace BU := Lib.hid (BU.out.trans (hb.mono BU.out.size))
      clear hb
      go_wp2_with fail
      refine (pLeft_bad (.pointer (some ⟨g1 + 1 + 1, 0, none⟩)) 1 _ (BR6.out.to BU.out).err (by decide)).mono ?_
      rintro e w9 ⟨rfl, rfl⟩
      go_wp2_with fail
      refine ((BR6.out.to BU.out).err).mono ?_
      rintro e w9 ⟨rfl, rfl⟩
      go_wp2_with fail
      refine (pEnd_bad (.pointer (some ⟨g1 + 1 + 1, 0, none⟩)) 1 _ (BR6.out.to BU.out).err (by decide)).mono ?_
      rintro e w9 ⟨rfl, rfl⟩
      go_wp2_with fail
      go_roundw
      case rel => exact ⟨1 + 1, by decide, by go_num, BU.out⟩
      case measure => simp [intOf]
    · go_wp2_with fail
      go_ret
      exact ⟨rfl, B6.out.trans (BT.out.mono B6.out.size)⟩

set_option maxRecDepth 100000 in
theorem lifted (os : Os) (started : os.Started) (H : Type) (enc : TypeId × Value → H) :
    ReturnsInHanded {} Try.checked os 5 .any (Rows.wireNobodySpec.pre6 enc Try.prog Try.f5 Rows.wireNobodyRow.domain false) (Rows.wireNobodySpec.post enc Try.prog Try.f5 false true false false) := by
  refine returnsInHanded_of_change_sized (C := Try.checked) own started (by kernel_rfl) Try.func5
    (ChangeSpec.witness6 (enc := enc) (C := Try.checked) false ⟨#[], #[.agg #[.int .i64 0, .int .u8 0, .int .i64 0, .bool false, .slice none 0 0, .int .u8 0, .int .u8 0, .int .u8 0, .int .u8 0, .int .u8 0, .int .u8 0, .int .u8 0, .int .u8 0, .int .u8 0, .int .u8 0, .int .u8 0, .int .u8 0, .int .u8 0, .int .u8 0, .int .u8 0, .int .u8 0, .int .u8 0, .int .u8 0, .int .u8 0, .int .u8 0, .int .u8 0, .int .u8 0, .int .u8 0, .int .u8 0, .int .u8 0, .int .u8 0, .int .u8 0, .int .u8 0, .int .u8 0, .int .u8 0, .int .u8 0, .int .u8 0]], []⟩ 8 (by kernel_rfl) (by kernel_rfl) (by kernel_rfl) (by kernel_rfl)) ?_
  intro W base args ds gs before hval0 hW hcnd hsz0 _
  have hval : ∀ (j : Nat) t v, Try.f5.params[j]? = some t → args[j]? = some v → Value.okWide Try.prog W .any base t v := hval0
  have hsz : (DataW.weightsEach Try.prog (Try.f5.params.toList ++ Rows.wireNobodySpec.plain.varTypes Try.prog) (ds ++ gs)).all (· ≤ reachBytes) = true := hsz0
  have hW' := hW
  obtain ⟨p, q, hA0, hV, rfl, hfz, hnd⟩ := hW
  have hA : DataW.TrodAll enc Try.prog W 0 (fun _ => true) true Try.f5.params.toList args.toList ds p := hA0
  rw [Try.params5] at hA hval hsz
  obtain ⟨v0, vs0, d0, ds0, p0, q0, hargs, rfl, rfl, h0, r0⟩ := trodAll_cons hA
  obtain ⟨rfl, rfl, rfl⟩ := trodAll_nil r0
  obtain rfl : args = #[v0] := by cases args; simp_all
  obtain ⟨rfl, rfl⟩ := trodVars_none hV
  have sz0 : ∀ x ∈ d0.weights Try.prog 31, x ≤ reachBytes := fun x hx => by simpa using List.all_eq_true.1 hsz _ (DataW.weights_mem_each (j := 0) rfl rfl x hx)
  have k0 := h0
  have lt0 : ∀ x ∈ p0, x.block < W.heap.size := by obtain ⟨m, hm⟩ := k0; exact DataW.trod_lt m _ _ _ hm
  obtain ⟨f0, A0, m0, c0, rfl, w0⟩ := open_fld (hval 0 31 v0 rfl rfl) h0 sz0
  clear hA0 hval0
  refine (walk f0 A0 m0 c0 W w0).mono fun e W' ⟨he, bel⟩ => ?_
  subst he
  exact ⟨_, rfl, _, _, _, [], _, [], hW', trodAll_mk1 (shut_bool Try.underlying4 _), (trodAll_cons_mk (Below.trod laidOut (by kernel_rfl) (of_decide_eq_true (by kernel_rfl)) k0 bel lt0) trodAll_mk0), rfl, bel.frame _, fun h => by cases h⟩

theorem over : Rows.wireNobodyRow.holds Try.pinned (OpenSpec.ofChange Rows.wireNobodySpec) :=
  OpenClaim.holds_of_wide 5 Try.f5 rfl rfl rfl rfl rfl rfl rfl ⟨rfl, rfl, rfl, rfl, rfl⟩ rfl rfl rfl rfl rfl (by kernel_rfl) Try.func5 (by kernel_rfl)
    (of_decide_eq_true (by kernel_rfl)) (by unfold Func.isWrapper; first | (rw [if_pos (by decide +kernel)]; kernel_rfl) | (rw [if_neg (by decide +kernel)]; exact ⟨rfl, rfl⟩))
    (fun os started H enc _ => lifted os started H enc)

theorem proved : Rows.WireNobodySaid := over
end Go.Proofs.Ytmhknpkiddgcpaa.wireNobody
