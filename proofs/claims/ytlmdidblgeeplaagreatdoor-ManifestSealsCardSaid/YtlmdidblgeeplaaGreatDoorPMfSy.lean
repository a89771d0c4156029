/- Several texts in one (a claim has 60 files at most): MfS. -/
import Derived.Test.YtlmdidblgeeplaaGreatDoorTz
import Derived.Test.YtlmdidblgeeplaaGreatDoorPHmacRefOx
import Derived.Test.YtlmdidblgeeplaaGreatDoorPChDx
import Derived.Test.YtlmdidblgeeplaaGreatDoorPCfTy
namespace Go.Proofs.YtlmdidblgeeplaaGreatDoor
set_option maxRecDepth 1000000
set_option maxHeartbeats 8000000
set_option linter.unusedVariables false
set_option linter.unusedSimpArgs false
section
open Go.RowKit
theorem rKeyM (A : Option Addr) (n c : Nat) (kk : List UInt8) (w : World) (ha : Rd w w.heap.size A n kk) (hn : n ≤ 1000000000) :
  Calls Tryz.prog 55 #[.slice A n c, .string { data := #[109, 97, 110, 105, 102, 101, 115, 116] }, .slice none 0 0] w fun e w' => RetB 5 w (hmacL kk (formI labelM [])) e w' :=
 rDerive A none n 0 c 0 kk { data := #[109, 97, 110, 105, 102, 101, 115, 116] } [] w ha ⟨rfl, fun h => absurd h (Nat.lt_irrefl 0)⟩ hn (by decide) (by decide)
theorem sealM_t {key : List UInt8} {m : Mf} (h : MfT m) : MfT (sealM key m) := by
 unfold sealM
 split
 ·exact ⟨h.prev, hmacL_len _ _⟩
 ·exact h
theorem sealM_cf (key : List UInt8) (m : Mf) : (sealM key m).cf = m.cf := by
 unfold sealM
 split <;> rfl
theorem rSealM (A : Option Addr) (n c : Nat) (kk : List UInt8) (v : CV) (m : Mf) (w : World) (ha : Rd w w.heap.size A n kk) (hn : n ≤ 1000000000) (h : RdM w w.heap.size v m) (d : Bd v) :
  Calls Tryz.prog 20 #[.slice A n c, .agg (mfL m v).toArray] w fun x w' => x = .returned (.agg (mfL (sealM kk m) v).toArray) ∧ Below w.heap.size w w' := by
 have hz := mf_zero
 have B1 := qH ((Below.refl w.heap.size w).alloc (Nat.le_refl _) (.cells (mfL m v).toArray 30))
 have M := qH (MB.new w h.t v)
 have R := qH (h.to B1.out)
 have KA := qH (ha.to B1.out)
 have HS : Hid ((w.alloc (.cells (mfL m v).toArray 30)).heap.size = w.heap.size + 1) := by (show _ = _); simp
 have D := qH d
 have HN := qH hn
 have HT := qH h.t
 have S69 := qH (mf_size h.t v)
 have HV : Hid (sealM kk m = if canM m = true then ⟨m.ver, m.prev, m.trial, m.cf, macM kk m⟩ else m) := rfl
 clear h d ha hn
 go_enter Tryz.func20, Tryz.ntmps20
 go_upto_region 1 with (fail)
 generalize w.alloc (.cells (mfL m v).toArray 30) = w1 at *
 have B2 : Hid (Below w1.heap.size w1 (w1.alloc (.cells (mfL Mf.zero nilV).toArray 30))) := (Below.refl _ _).alloc (Nat.le_refl _) _
 have Z := qH (MB.new w1 MfT.zero nilV)
 rw [HS.out] at Z
 replace M := qH (M.out.to B2.out)
 replace R := qH (R.out.to B2.out)
 replace KA := qH (KA.out.to B2.out)
 have HS2 : Hid ((w1.alloc (.cells (mfL Mf.zero nilV).toArray 30)).heap.size = w.heap.size + 2) := by (show _ = _); simp [HS.out]
 replace B2 := qH (B1.out.trans (B2.out.mono B1.out.size))
 generalize w1.alloc (.cells (mfL Mf.zero nilV).toArray 30) = w2 at *
 clear B1 HS hz
 go_wp2_with (refine wpList_load_row rfl 30 _ rfl w.heap.size rfl 30 (mfL m v).toArray (0, 0) _ M.out.row Tryz.underlying30 rfl S69.out ?_)
 refine (rCanM v m w2 R.out D.out).mono ?_
 rintro e w3 ⟨rfl, hb⟩
 replace M := qH (M.out.to hb)
 replace Z := qH (Z.out.to hb)
 replace R := qH (R.out.to hb)
 replace KA := qH (KA.out.to hb)
 have HS3 : Hid (w.heap.size + 2 ≤ w3.heap.size) := by (show _ ≤ _); rw [← HS2.out]; exact hb.size
 replace B2 := qH (B2.out.trans (hb.mono B2.out.size))
 clear hb HS2
 cases hc : canM m
 ·rw [hc] at HV
  replace HV : Hid (sealM kk m = m) := by (show _ = _); rw [HV.out, if_neg (by decide)]
  clear hc
  have SZ : Hid ((mfL Mf.zero nilV).toArray.size = (mfL m v).toArray.size) := by (show _ = _); rw [mfL_size MfT.zero, mfL_size HT.out]
  go_wp2_with (first | (refine wpList_load_row rfl 30 _ rfl w.heap.size rfl 30 (mfL m v).toArray (0, 0) _ M.out.row Tryz.underlying30 rfl S69.out ?_) | (refine wpList_store_row rfl 30 _ _ rfl (w.heap.size + 1) (mfL m v).toArray rfl rfl 30 (mfL Mf.zero nilV).toArray Z.out.row S69.out SZ.out (mf_one _ _) ?_))
  (try simp only [Exit.inBlock, Exit.then])
  refine bodyPost_ret (results_mf rfl _ _ (w.heap.size + 1) m v rfl (Z.out.setRow HT.out v)) rfl ?_
  exact ⟨by rw [HV.out], below_setRow B2.out (by omega) _⟩
 ·rw [hc] at HV
  replace HV : Hid (sealM kk m = ⟨m.ver, m.prev, m.trial, m.cf, macM kk m⟩) := by (show _ = _); rw [HV.out, if_pos rfl]
  have HC := qH (canM_iff.1 hc).2.2.2.2
  have HL := qH (headM_len HT.out.prev hc)
  clear hc
  go_upto_region 2 with (fail)
  have hu := Tryz.underlying23
  obtain ⟨wd, hwd⟩ : ∃ x, w3.drew = x := ⟨_, rfl⟩
  have BS : Hid (Below w3.heap.size w3 wd) := by (show Below _ _ _); rw [← hwd]; exact (Below.refl _ _).drew
  refine AnyE.start (m := 6) (S := (fun w' => Below w3.heap.size w3 w')) (by kernel_rfl) ((Below.refl _ _).drew) (fun hHeld => ?_)
  rw [hwd] at hHeld ⊢
  clear hwd hHeld
  have hHeld := BS.out
  refine AnyE.take (i := 0) (v := ?_) rfl (by kernel_rfl) (by kernel_rfl) (by kernel_rfl) (by kernel_rfl) (fun _ _ _ h => h) (Or.inl ⟨by rfl, ?_⟩) (by assumption) ?_
  rotate_left 1
  ·intro w hSw; (try dsimp only at hSw); go_simp; (try with_reducible rfl)
  simp only [pR]
  refine AnyE.take (i := 2) (v := .agg (mfL m v).toArray) rfl (by kernel_rfl) (by kernel_rfl) (by kernel_rfl) (by kernel_rfl) (fun _ _ _ h => h) (yieldsIf_load_row (by rfl) 30 _ rfl w.heap.size rfl 30 (mfL m v).toArray (0, 0) _ (fun w' h => (M.out.to h).row) Tryz.underlying30 rfl S69.out) (by assumption) ?_
  simp only [pR]
  clear hHeld
  refine AnyE.ready (rs := [1]) (by kernel_rfl) (by simp) ?_
  refine ReadyE.cons rfl (fun K hK => ?_) ReadyE.nil
  go_simp
  refine (rKeyM A n c kk wd (KA.out.to BS.out) HN.out).mono ?_
  rintro e w5 ⟨A5, n5, c5, rfl, hown, hb⟩
  replace BS := qH (BS.out.trans (hb.mono BS.out.size))
  have R5 := qH (Rd.of_own hown)
  clear hown hb
  go_wp2_with fail
  refine hK.out _ _ (BS.out) (fun hHeld => ?_)
  clear hK K
  clear hHeld
  refine AnyE.ready (rs := [3]) (by kernel_rfl) (by simp) ?_
  refine ReadyE.cons rfl (fun K hK => ?_) ReadyE.nil
  go_simp
  refine (rHeadM v m w5 (R.out.to BS.out) HC.out).mono ?_
  rintro e w6 ⟨A6, n6, c6, rfl, hown, hb⟩
  replace BS := qH (BS.out.trans (hb.mono BS.out.size))
  replace R5 := qH (R5.out.to hb)
  have R6 := qH (Rd.of_own hown)
  clear hown hb
  go_wp2_with fail
  refine hK.out _ _ (BS.out) (fun hHeld => ?_)
  clear hK K
  clear hHeld
  have H5 : Hid (n5 ≤ 1000000000) := by (show _ ≤ _); rw [← R5.out.1, hmacL_len]; decide
  have H6 : Hid (n6 ≤ 999999000) := by (show _ ≤ _); rw [← R6.out.1]; have := HL.out; omega
  refine AnyE.ready (rs := [4]) (by kernel_rfl) (by simp) ?_
  refine ReadyE.cons rfl (fun K hK => ?_) ReadyE.nil
  go_simp
  refine (rHmac A5 A6 n5 n6 c5 c6 (hmacL kk (formI labelM [])) (headM m) w6 R5.out R6.out H5.out H6.out).mono ?_
  rintro e w7 ⟨rfl, hb⟩
  replace BS := qH (BS.out.trans (hb.mono BS.out.size))
  clear hb
  go_wp2_with fail
  refine hK.out _ _ (BS.out) (fun hHeld => ?_)
  clear hK K
  clear hHeld
  have hHeld := BS.out
  refine AnyE.take (i := 5) (v := ?_) rfl (by kernel_rfl) (by kernel_rfl) (by kernel_rfl) (by kernel_rfl) (fun _ _ _ h => h) (Or.inl ⟨by rfl, ?_⟩) (by assumption) ?_
  rotate_left 1
  ·intro w hSw; (try dsimp only at hSw); go_simp; (try with_reducible rfl)
  simp only [pR]
  clear hHeld
  replace M := qH (M.out.to BS.out)
  replace Z := qH (Z.out.to BS.out)
  replace B2 := qH (B2.out.trans (BS.out.mono B2.out.size))
  have TL : Hid ((macM kk m).length = 32) := hmacL_len _ _
  have ST : Hid ((Tryz.prog.info? 23).map (·.size) = some (arrB (macM kk m)).size) := tag_size TL.out
  have TH : Hid (w7.there w.heap.size 37 (arrB (macM kk m)).size) := M.out.there (by rw [arrB_size, TL.out]; decide)
  refine AnyE.ready (rs := [6]) (by kernel_rfl) (by simp) ?_
  refine ReadyE.last rfl (by kernel_rfl) (fun K hK => ?_)
  rw [if_pos (by rfl)]
  refine wp_store_mid 23 _ _ rfl w.heap.size 37 (arrB (macM kk m)) rfl rfl TH.out ST.out (arrB_one _) ?_
  refine hK.out _ _ trivial (fun _ => ?_)
  clear hK K
  refine AnyE.done (by kernel_rfl) ?_ _
  have M8 := qH (M.out.setTag TL.out)
  have Z8 := qH (Z.out.kept (R := (· = w.heap.size)) (keep_setCellsM (Keep.refl _ _) w.heap.size 37 (arrB (macM kk m)).toList rfl) (by omega))
  have B8 := qH (below_setCellsM B2.out (Nat.le_refl _) 37 (arrB (macM kk m)).toList)
  have HV2 : Hid (MfT ⟨m.ver, m.prev, m.trial, m.cf, macM kk m⟩) := ⟨HT.out.prev, TL.out⟩
  have S8 := qH (mf_size HV2.out v)
  have SZ : Hid ((mfL Mf.zero nilV).toArray.size = (mfL ⟨m.ver, m.prev, m.trial, m.cf, macM kk m⟩ v).toArray.size) := by (show _ = _); rw [mfL_size MfT.zero, mfL_size HV2.out]
  generalize w7.setCells w.heap.size 37 (arrB (macM kk m)).toList = w8 at *
  generalize macM kk m = tg at *
  clear M Z
  go_wp2_with (first | (refine wpList_load_row rfl 30 _ rfl w.heap.size rfl 30 (mfL ⟨m.ver, m.prev, m.trial, m.cf, tg⟩ v).toArray (0, 0) _ M8.out.row Tryz.underlying30 rfl S8.out ?_) | (refine wpList_store_row rfl 30 _ _ rfl (w.heap.size + 1) (mfL ⟨m.ver, m.prev, m.trial, m.cf, tg⟩ v).toArray rfl rfl 30 (mfL Mf.zero nilV).toArray Z8.out.row S8.out SZ.out (mf_one _ _) ?_))
  (try simp only [Exit.inBlock, Exit.then])
  refine bodyPost_ret (results_mf rfl _ _ (w.heap.size + 1) ⟨m.ver, m.prev, m.trial, m.cf, tg⟩ v rfl (Z8.out.setRow HV2.out v)) rfl ?_
  exact ⟨by rw [HV.out], below_setRow B8.out (by omega) _⟩
theorem tag_eql (a b : List UInt8) (ha : a.length = 32) (hb : b.length = 32) (w : World) : (Op.equalIn 10000 23 (.agg (a.map bval).toArray) (.agg (b.map bval).toArray)).run Tryz.prog w = .ok (decide (a = b)) w :=
 run_eql_arrB (P := Tryz.prog) Tryz.underlying23 Tryz.underlying5 (sizeOf_one (by kernel_rfl)) a b ha hb w
theorem tag_gd : Tryz.prog.eqGuardType Tryz.prog.depth 23 = false := by kernel_rfl
theorem rRightM (A : Option Addr) (n c : Nat) (kk : List UInt8) (v : CV) (m : Mf) (w : World) (ha : Rd w w.heap.size A n kk) (hn : n ≤ 1000000000) (h : RdM w w.heap.size v m) (d : Bd v) :
  Calls Tryz.prog 22 #[.slice A n c, .agg (mfL m v).toArray] w fun x w' => x = .returned (.bool (rightM kk m)) ∧ Below w.heap.size w w' := by
 have hz := mf_zero
 have B := qH ((Below.refl w.heap.size w).alloc (Nat.le_refl _) (.cells (mfL m v).toArray 30))
 have M := qH (MB.new w h.t v)
 have R := qH (h.to B.out)
 have KA := qH (ha.to B.out)
 have D := qH d
 have HN := qH hn
 have HT := qH h.t
 have S69 := qH (mf_size h.t v)
 have SS := qH (sealM_t (key := kk) h.t)
 have S70 := qH (mf_size (sealM_t (key := kk) h.t) v)
 have HV : Hid (rightM kk m = (canM m && decide ((sealM kk m).tag = m.tag))) := right_iff
 clear h d ha hn
 go_enter Tryz.func22, Tryz.ntmps22
 go_upto_region 1 with (fail)
 generalize w.alloc (.cells (mfL m v).toArray 30) = w1 at *
 go_wp2_with (refine wpList_load_row rfl 30 _ rfl w.heap.size rfl 30 (mfL m v).toArray (0, 0) _ M.out.row Tryz.underlying30 rfl S69.out ?_)
 refine (rSealM A n c kk v m w1 KA.out HN.out R.out D.out).mono ?_
 rintro e w2 ⟨rfl, hb⟩
 replace M := qH (M.out.to hb)
 replace R := qH (R.out.to hb)
 replace B := qH (B.out.trans (hb.mono B.out.size))
 have SZ : Hid ((mfL Mf.zero nilV).toArray.size = (mfL (sealM kk m) v).toArray.size) := by (show _ = _); rw [mfL_size MfT.zero, mfL_size SS.out]
 clear hb
 generalize sealM kk m = sm at *
 go_upto_region 2 with (refine wpList_store_row rfl 30 _ _ rfl w2.heap.size (mfL sm v).toArray rfl rfl 30 (mfL Mf.zero nilV).toArray (heap_alloc_last w2 _) S70.out SZ.out (mf_one _ _) ?_; rw [World.setRow_alloc_new])
 have Q := qH (MB.new w2 SS.out v)
 have hb : Below w2.heap.size w2 (w2.alloc (.cells (mfL sm v).toArray 30)) := (Below.refl _ _).alloc (Nat.le_refl _) _
 replace M := qH (M.out.to hb)
 replace R := qH (R.out.to hb)
 replace B := qH (B.out.trans (hb.mono B.out.size))
 clear hb
 generalize w2.alloc (.cells (mfL sm v).toArray 30) = w3 at *
 generalize w2.heap.size = g at *
 clear w2
 go_wp2_with (refine wpList_load_row rfl 30 _ rfl w.heap.size rfl 30 (mfL m v).toArray (0, 0) _ M.out.row Tryz.underlying30 rfl S69.out ?_)
 refine (rCanM v m w3 R.out D.out).mono ?_
 rintro e w4 ⟨rfl, hb⟩
 replace M := qH (M.out.to hb)
 replace Q := qH (Q.out.to hb)
 replace B := qH (B.out.trans (hb.mono B.out.size))
 clear hb R
 cases hc : canM m
 ·have HF : Hid (false = rightM kk m) := by (show _ = _); rw [HV.out, hc]; rfl
  clear hc
  go_wp2_with fail
  go_ret
  exact ⟨ret_bool HF.out, B.out⟩
 ·have HF : Hid (decide (sm.tag = m.tag) = rightM kk m) := by (show _ = _); rw [HV.out, hc]; rfl
  clear hc
  have P1 := qH M.out.tag
  have P2 := qH Q.out.tag
  have L1 := qH (tag_sizeL HT.out.tag)
  have L2 := qH (tag_sizeL SS.out.tag)
  have hu := Tryz.underlying23
  have heq := tag_eql sm.tag m.tag SS.out.tag HT.out.tag
  have hgd := tag_gd
  go_wp2_with (first | (refine wpList_load_midG (by rfl) 23 _ rfl w.heap.size 37 rfl (m.tag.map bval) _ P1.out hu rfl L1.out ?_) | (refine wpList_load_midG (by rfl) 23 _ rfl g 37 rfl (sm.tag.map bval) _ P2.out hu rfl L2.out ?_))
  go_ret
  exact ⟨ret_bool HF.out, B.out⟩
def sameM (a b : Mf) : Bool := decide (a = b)
theorem sameM_eq (a b : Mf) : sameM a b = (decide (a.ver = b.ver) && (decide (a.prev = b.prev) && (decide (a.trial = b.trial) && (decide (a.tag = b.tag) && sameCf a.cf b.cf)))) := by
 obtain ⟨a1, a2, a3, a4, a5⟩ := a
 obtain ⟨b1, b2, b3, b4, b5⟩ := b
 unfold sameM sameCf
 rw [Bool.eq_iff_iff]
 simp only [Bool.and_eq_true, decide_eq_true_eq, Mf.mk.injEq]
 constructor
 ·rintro ⟨h1, h2, h3, h4, h5⟩; exact ⟨h1, h2, h3, h5, h4⟩
 ·rintro ⟨h1, h2, h3, h5, h4⟩; exact ⟨h1, h2, h3, h4, h5⟩
theorem mf_two (w : World) {v v' : CV} {a b : Mf} (ha : RdM w w.heap.size v a) (hb : RdM w w.heap.size v' b) : ∃ w2, (w.alloc (.cells (mfL a v).toArray 30)).alloc (.cells (mfL b v').toArray 30) = w2 ∧ Below w.heap.size w w2 ∧ MB w2 w.heap.size a v ∧ MB w2 (w.heap.size + 1) b v' ∧ RdM w2 w2.heap.size v a ∧ RdM w2 w2.heap.size v' b := by
 have B2 : Below w.heap.size w ((w.alloc (.cells (mfL a v).toArray 30)).alloc (.cells (mfL b v').toArray 30)) := ((Below.refl w.heap.size w).alloc (Nat.le_refl _) _).alloc (by simp) _
 refine ⟨_, rfl, B2, (MB.new w ha.t v).to ((Below.refl _ _).alloc (Nat.le_refl _) _), ?_, ha.to B2, hb.to B2⟩
 have h := MB.new (w.alloc (.cells (mfL a v).toArray 30)) hb.t v'
 simpa using h
theorem rSameM (v v' : CV) (a b : Mf) (w : World) (ha : RdM w w.heap.size v a) (hb : RdM w w.heap.size v' b) (da : Bd v) (db : Bd v') :
  Calls Tryz.prog 17 #[.agg (mfL a v).toArray, .agg (mfL b v').toArray] w fun x w' => x = .returned (.bool (sameM a b)) ∧ Below w.heap.size w w' := by
 obtain ⟨w2, hw2, hb2, hx, hy, hr, hs⟩ := mf_two w ha hb
 have M := qH hx
 have Q := qH hy
 have RA := qH hr
 have RB := qH hs
 have B := qH hb2
 have HW := qH hw2
 have DA := qH da
 have DB := qH db
 have TA := qH ha.t
 have TB := qH hb.t
 have HV := qH (sameM_eq a b)
 have LA1 := qH (tag_sizeL ha.t.prev)
 have LA2 := qH (tag_sizeL ha.t.tag)
 have LB1 := qH (tag_sizeL hb.t.prev)
 have LB2 := qH (tag_sizeL hb.t.tag)
 clear ha hb da db hw2 hb2 hx hy hr hs
 go_enter Tryz.func17, Tryz.ntmps17
 go_upto_region 1 with (fail)
 rw [show (w.alloc (.cells (mfL a v).toArray 30)).alloc (.cells (mfL b v').toArray 30) = w2 from HW.out]
 clear HW
 obtain ⟨x0, x1, x2, x3, x4⟩ := M.out.cells
 obtain ⟨y0, y1, y2, y3, y4⟩ := Q.out.cells
 have P1 := qH M.out.prev
 have P2 := qH Q.out.prev
 have P3 := qH M.out.tag
 have P4 := qH Q.out.tag
 have hu := Tryz.underlying23
 have heq := tag_eql a.prev b.prev TA.out.prev TB.out.prev
 have heq2 := tag_eql a.tag b.tag TA.out.tag TB.out.tag
 have hgd := tag_gd
 by_cases c1 : a.ver = b.ver
 rotate_left 1
 ·have HF : Hid (false = sameM a b) := by (show _ = _); rw [HV.out, decide_eq_false c1]; rfl
  have e1 : (a.ver == b.ver) = false := by simpa using c1
  clear HV c1
  generalize a.ver = va at *
  generalize b.ver = vb at *
  go_wp2_with (first | (refine wpList_load_midG (by rfl) 23 _ rfl w.heap.size 1 rfl (a.prev.map bval) _ P1.out hu rfl LA1.out ?_) | (refine wpList_load_midG (by rfl) 23 _ rfl (w.heap.size + 1) 1 rfl (b.prev.map bval) _ P2.out hu rfl LB1.out ?_) | (refine wpList_load_midG (by rfl) 23 _ rfl w.heap.size 37 rfl (a.tag.map bval) _ P3.out hu rfl LA2.out ?_) | (refine wpList_load_midG (by rfl) 23 _ rfl (w.heap.size + 1) 37 rfl (b.tag.map bval) _ P4.out hu rfl LB2.out ?_))
  go_ret
  exact ⟨ret_bool HF.out, B.out⟩
 have e1 : (a.ver == b.ver) = true := by simpa using c1
 rw [decide_eq_true c1, Bool.true_and] at HV
 clear c1
 generalize a.ver = va at *
 generalize b.ver = vb at *
 by_cases c2 : a.prev = b.prev
 rotate_left 1
 ·have HF : Hid (false = sameM a b) := by (show _ = _); rw [HV.out, decide_eq_false c2]; rfl
  rw [decide_eq_false c2] at heq
  clear HV c2
  go_wp2_with (first | (refine wpList_load_midG (by rfl) 23 _ rfl w.heap.size 1 rfl (a.prev.map bval) _ P1.out hu rfl LA1.out ?_) | (refine wpList_load_midG (by rfl) 23 _ rfl (w.heap.size + 1) 1 rfl (b.prev.map bval) _ P2.out hu rfl LB1.out ?_) | (refine wpList_load_midG (by rfl) 23 _ rfl w.heap.size 37 rfl (a.tag.map bval) _ P3.out hu rfl LA2.out ?_) | (refine wpList_load_midG (by rfl) 23 _ rfl (w.heap.size + 1) 37 rfl (b.tag.map bval) _ P4.out hu rfl LB2.out ?_))
  go_ret
  exact ⟨ret_bool HF.out, B.out⟩
 rw [decide_eq_true c2] at heq
 rw [decide_eq_true c2, Bool.true_and] at HV
 clear c2
 by_cases c3 : a.trial = b.trial
 rotate_left 1
 ·have HF : Hid (false = sameM a b) := by (show _ = _); rw [HV.out, decide_eq_false c3]; rfl
  have e3 : (a.trial == b.trial) = false := by simpa using c3
  clear HV c3
  generalize a.trial = ta at *
  generalize b.trial = tb at *
  go_wp2_with (first | (refine wpList_load_midG (by rfl) 23 _ rfl w.heap.size 1 rfl (a.prev.map bval) _ P1.out hu rfl LA1.out ?_) | (refine wpList_load_midG (by rfl) 23 _ rfl (w.heap.size + 1) 1 rfl (b.prev.map bval) _ P2.out hu rfl LB1.out ?_) | (refine wpList_load_midG (by rfl) 23 _ rfl w.heap.size 37 rfl (a.tag.map bval) _ P3.out hu rfl LA2.out ?_) | (refine wpList_load_midG (by rfl) 23 _ rfl (w.heap.size + 1) 37 rfl (b.tag.map bval) _ P4.out hu rfl LB2.out ?_))
  go_ret
  exact ⟨ret_bool HF.out, B.out⟩
 have e3 : (a.trial == b.trial) = true := by simpa using c3
 rw [decide_eq_true c3, Bool.true_and] at HV
 clear c3
 generalize a.trial = ta at *
 generalize b.trial = tb at *
 by_cases c4 : a.tag = b.tag
 rotate_left 1
 ·have HF : Hid (false = sameM a b) := by (show _ = _); rw [HV.out, decide_eq_false c4]; rfl
  rw [decide_eq_false c4] at heq2
  clear HV c4
  go_wp2_with (first | (refine wpList_load_midG (by rfl) 23 _ rfl w.heap.size 1 rfl (a.prev.map bval) _ P1.out hu rfl LA1.out ?_) | (refine wpList_load_midG (by rfl) 23 _ rfl (w.heap.size + 1) 1 rfl (b.prev.map bval) _ P2.out hu rfl LB1.out ?_) | (refine wpList_load_midG (by rfl) 23 _ rfl w.heap.size 37 rfl (a.tag.map bval) _ P3.out hu rfl LA2.out ?_) | (refine wpList_load_midG (by rfl) 23 _ rfl (w.heap.size + 1) 37 rfl (b.tag.map bval) _ P4.out hu rfl LB2.out ?_))
  go_ret
  exact ⟨ret_bool HF.out, B.out⟩
 rw [decide_eq_true c4] at heq2
 rw [decide_eq_true c4, Bool.true_and] at HV
 clear c4
 go_wp2_with (first | (refine wpList_load_midG (by rfl) 23 _ rfl w.heap.size 1 rfl (a.prev.map bval) _ P1.out hu rfl LA1.out ?_) | (refine wpList_load_midG (by rfl) 23 _ rfl (w.heap.size + 1) 1 rfl (b.prev.map bval) _ P2.out hu rfl LB1.out ?_) | (refine wpList_load_midG (by rfl) 23 _ rfl w.heap.size 37 rfl (a.tag.map bval) _ P3.out hu rfl LA2.out ?_) | (refine wpList_load_midG (by rfl) 23 _ rfl (w.heap.size + 1) 37 rfl (b.tag.map bval) _ P4.out hu rfl LB2.out ?_))
 refine (rSameCf v v' a.cf b.cf w2 RA.out.cf RB.out.cf DA.out.1 DA.out.2.1 DA.out.2.2).mono ?_
 rintro e w3 ⟨rfl, hb⟩
 replace B := qH (B.out.trans (hb.mono B.out.size))
 rw [← HV.out]
 clear hb
 obtain ⟨d, hd⟩ : ∃ d, sameM a b = d := ⟨_, rfl⟩
 rw [hd]
 have HF := qH hd.symm
 clear hd
 clear x0 x1 x2 x3 x4 y0 y1 y2 y3 y4 e1 e3 heq heq2 hgd
 go_wp2_with fail
 go_ret
 exact ⟨ret_bool HF.out, B.out⟩
end
end Go.Proofs.YtlmdidblgeeplaaGreatDoor