/- Several texts in one (a claim has 60 files at most): MfPc, MfPh, MfP. -/
import Derived.Test.YtlmdidblgeeplaaGreatDoorTz
import Derived.Test.YtlmdidblgeeplaaGreatDoorPMfPbx
import Derived.Test.YtlmdidblgeeplaaGreatDoorPCfIy
import Derived.Test.YtlmdidblgeeplaaGreatDoorPMfPey
namespace Go.Proofs.YtlmdidblgeeplaaGreatDoor
set_option maxRecDepth 1000000
set_option maxHeartbeats 8000000
set_option linter.unusedVariables false
set_option linter.unusedSimpArgs false
section
open Go.RowKit
theorem bd_alike {w w' : World} {B B' : Nat} {v v' : CV} {c : Cf} (d : Bd v) (h : RdCf w B v c) (h' : RdCf w' B' v' c) : Bd v' := by
 obtain ⟨d1, d2, d3⟩ := d
 have a1 := h.ww.1
 have a2 := h.pp.1
 have a3 := h.cc.1
 have b1 := h'.ww.1
 have b2 := h'.pp.1
 have b3 := h'.cc.1
 exact ⟨by omega, by omega, by omega⟩
theorem wSealM (A : Option Addr) (n c : Nat) (kk : List UInt8) (v : CV) (m : Mf) (w : World) (hp : Pr w) (ha : Rd w w.heap.size A n kk) (hn : n ≤ 1000) (hc : n ≤ c) (hcc : c ≤ 9223372036854775807) (h : RdM w w.heap.size v m) (d : Bd v) :
  Calls Tryz.prog 19 #[.slice A n c, .agg (mfL m v).toArray] w fun x w' => ∃ v' : CV, x = .returned (.agg (mfL (sealM kk m) v').toArray) ∧ OwCf w' w.heap.size v' m.cf ∧ Bd v' ∧ Below w.heap.size w w' := by
 have hz := mf_zero
 have B1 := qH ((Below.refl w.heap.size w).alloc (Nat.le_refl _) (.cells (mfL m v).toArray 30))
 have M := qH (MB.new w h.t v)
 have R := qH (h.to B1.out)
 have KA := qH (ha.to B1.out)
 have HP := qH (hp.to B1.out)
 have HS : Hid ((w.alloc (.cells (mfL m v).toArray 30)).heap.size = w.heap.size + 1) := by (show _ = _); simp
 have R0 := qH h.cf
 have D := qH d
 have HN := qH hn
 have HC1 := qH hc
 have HC2 := qH hcc
 have HT := qH h.t
 have S69 := qH (mf_size h.t v)
 have HV : Hid (sealM kk m = if canM m = true then ⟨m.ver, m.prev, m.trial, m.cf, macM kk m⟩ else m) := rfl
 clear h d ha hn hc hcc hp
 go_enter Tryz.func19, Tryz.ntmps19
 go_upto_region 1 with (fail)
 generalize w.alloc (.cells (mfL m v).toArray 30) = w1 at *
 have B2 : Hid (Below w1.heap.size w1 (w1.alloc (.cells (mfL Mf.zero nilV).toArray 30))) := (Below.refl _ _).alloc (Nat.le_refl _) _
 have Z := qH (MB.new w1 MfT.zero nilV)
 rw [HS.out] at Z
 replace M := qH (M.out.to B2.out)
 replace R := qH (R.out.to B2.out)
 replace KA := qH (KA.out.to B2.out)
 replace HP := qH (HP.out.to B2.out)
 have HS2 : Hid ((w1.alloc (.cells (mfL Mf.zero nilV).toArray 30)).heap.size = w.heap.size + 2) := by (show _ = _); simp [HS.out]
 replace B2 := qH (B1.out.trans (B2.out.mono B1.out.size))
 generalize w1.alloc (.cells (mfL Mf.zero nilV).toArray 30) = w2 at *
 clear B1 HS hz
 go_wp2_with (refine wpList_load_row rfl 30 _ rfl w.heap.size rfl 30 (mfL m v).toArray (0, 0) _ M.out.row Tryz.underlying30 rfl S69.out ?_)
 refine (wCanM v m w2 R.out D.out).mono ?_
 rintro e w3 ⟨rfl, hb⟩
 replace M := qH (M.out.to hb)
 replace Z := qH (Z.out.to hb)
 replace R := qH (R.out.to hb)
 replace KA := qH (KA.out.to hb)
 replace HP := qH (HP.out.to hb)
 have HS3 : Hid (w.heap.size + 2 ≤ w3.heap.size) := by (show _ ≤ _); rw [← HS2.out]; exact hb.size
 replace B2 := qH (B2.out.trans (hb.mono B2.out.size))
 clear hb HS2
 cases hc : canM m
 ·rw [hc] at HV
  replace HV : Hid (sealM kk m = m) := by (show _ = _); rw [HV.out, if_neg (by decide)]
  replace R := qH R.out.cf
  clear hc KA HP
  go_upto_region 3 with (fail)
  obtain ⟨-, -, x2, x3, x4⟩ := M.out.cells
  go_wp2_with fail
  refine (wCopy v m.cf w3 R.out D.out.1 D.out.2.1 D.out.2.2).mono ?_
  rintro e wy ⟨v', rfl, ho, hb⟩
  rw [show v'.val = .agg #[.slice v'.aw v'.nw v'.kw, .slice v'.ap v'.np v'.kp, .slice v'.ac v'.nc v'.kc] from rfl]
  replace M := qH (M.out.to hb)
  replace Z := qH (Z.out.to hb)
  have O := qH ho
  have BV := qH (bd_alike D.out R.out ho.rd)
  have HS4 : Hid (w.heap.size ≤ w3.heap.size) := by (show _ ≤ _); have := HS3.out; omega
  replace B2 := qH (B2.out.trans (hb.mono B2.out.size))
  clear hb ho x2 x3 x4 R
  obtain ⟨-, -, x2, x3, x4⟩ := M.out.cells
  have f0 := M.out.fz 34
  have f1 := M.out.fz 35
  have f2 := M.out.fz 36
  go_upto_region 4 with (fail)
  change Code.wp _ _ _ _ (Proofs.YtlmdidblgeeplaaGreatDoor.setCf wy w.heap.size v')
  have HK := qH (show Keep (· = w.heap.size) wy (Proofs.YtlmdidblgeeplaaGreatDoor.setCf wy w.heap.size v') from keep_setCf (R := (· = w.heap.size)) (Keep.refl _ _) rfl v')
  replace Z := qH (Z.out.kept HK.out (by omega))
  replace O := qH (O.out.keptO HK.out (fun k e => by have := HS3.out; omega))
  replace B2 := qH (below_setCf B2.out (Nat.le_refl _) v')
  replace M : Hid (MB (Proofs.YtlmdidblgeeplaaGreatDoor.setCf wy w.heap.size v') w.heap.size m v') := qH (M.out.setCf v' m.cf)
  clear HK x2 x3 x4 f0 f1 f2
  generalize Proofs.YtlmdidblgeeplaaGreatDoor.setCf wy w.heap.size v' = wz at *
  have S9 := qH (mf_size M.out.1 v')
  have SZ : Hid ((mfL Mf.zero nilV).toArray.size = (mfL m v').toArray.size) := by (show _ = _); rw [mfL_size MfT.zero, mfL_size M.out.1]
  go_wp2_with (first | (refine wpList_load_row rfl 30 _ rfl w.heap.size rfl 30 (mfL m v').toArray (0, 0) _ M.out.row Tryz.underlying30 rfl S9.out ?_) | (refine wpList_store_row rfl 30 _ _ rfl (w.heap.size + 1) (mfL m v').toArray rfl rfl 30 (mfL Mf.zero nilV).toArray Z.out.row S9.out SZ.out (mf_one _ _) ?_))
  (try simp only [Exit.inBlock, Exit.then])
  refine bodyPost_ret (results_mf rfl _ _ (w.heap.size + 1) m v' rfl (Z.out.setRow M.out.1 v')) rfl ?_
  exact ⟨v', by rw [HV.out], (O.out.keptO (keep_setRow (w.heap.size + 1) (mfL m v').toArray) (fun k e => by have := HS3.out; omega)).mono HS4.out, BV.out, below_setRow B2.out (by omega) _⟩
 ·rw [hc] at HV
  replace HV : Hid (sealM kk m = ⟨m.ver, m.prev, m.trial, m.cf, macM kk m⟩) := by (show _ = _); rw [HV.out, if_pos rfl]
  have HC := qH hc
  clear hc
  go_upto_region 2 with (fail)
  go_wp2_with (refine wpList_load_row rfl 30 _ rfl w.heap.size rfl 30 (mfL m v).toArray (0, 0) _ M.out.row Tryz.underlying30 rfl S69.out ?_)
  refine (wCorrect A n c kk v m w3 HP.out KA.out HN.out HC1.out HC2.out R.out D.out HC.out).mono ?_
  rintro e w4 ⟨rfl, hb⟩
  replace M := qH (M.out.to hb)
  replace Z := qH (Z.out.to hb)
  replace R := qH (R.out.to hb)
  replace HS3 : Hid (w.heap.size + 2 ≤ w4.heap.size) := by (show _ ≤ _); have := HS3.out; have := hb.size; omega
  replace B2 := qH (B2.out.trans (hb.mono B2.out.size))
  clear hb KA HP HC
  have TL : Hid ((macM kk m).length = 32) := hmacL_len _ _
  generalize macM kk m = tg at *
  have ST := qH (tag_size TL.out)
  have TH : Hid (w4.there w.heap.size 37 (arrB tg).size) := M.out.there (by rw [arrB_size, TL.out]; decide)
  go_upto_region 3 with (refine wpList_store_mid rfl 23 _ _ rfl w.heap.size 37 (arrB tg) rfl rfl TH.out ST.out (arrB_one _) ?_)
  have HK := qH (show Keep (· = w.heap.size) w4 (w4.setCells w.heap.size 37 (arrB tg).toList) from keep_setCellsM (R := (· = w.heap.size)) (Keep.refl _ _) w.heap.size 37 (arrB tg).toList rfl)
  replace M : Hid (MB (w4.setCells w.heap.size 37 (arrB tg).toList) w.heap.size ⟨m.ver, m.prev, m.trial, m.cf, tg⟩ v) := qH (M.out.setTag TL.out)
  replace Z := qH (Z.out.kept HK.out (by omega))
  replace B2 := qH (below_setCellsM B2.out (Nat.le_refl _) 37 (arrB tg).toList)
  replace HS3 : Hid (w.heap.size + 2 ≤ (w4.setCells w.heap.size 37 (arrB tg).toList).heap.size) := by (show _ ≤ _); have := HS3.out; have := HK.out.size; omega
  replace R := qH ((R0.out.below B2.out).more B2.out.size)
  clear ST TH HK S69
  generalize w4.setCells w.heap.size 37 (arrB tg).toList = w5 at *
  obtain ⟨-, -, x2, x3, x4⟩ := M.out.cells
  go_wp2_with fail
  refine (wCopy v m.cf w5 R.out D.out.1 D.out.2.1 D.out.2.2).mono ?_
  rintro e wy ⟨v', rfl, ho, hb⟩
  rw [show v'.val = .agg #[.slice v'.aw v'.nw v'.kw, .slice v'.ap v'.np v'.kp, .slice v'.ac v'.nc v'.kc] from rfl]
  replace M := qH (M.out.to hb)
  replace Z := qH (Z.out.to hb)
  have O := qH ho
  have BV := qH (bd_alike D.out R.out ho.rd)
  have HS4 : Hid (w.heap.size ≤ w5.heap.size) := by (show _ ≤ _); have := HS3.out; omega
  replace B2 := qH (B2.out.trans (hb.mono B2.out.size))
  clear hb ho x2 x3 x4 R
  obtain ⟨-, -, x2, x3, x4⟩ := M.out.cells
  have f0 := M.out.fz 34
  have f1 := M.out.fz 35
  have f2 := M.out.fz 36
  go_upto_region 4 with (fail)
  change Code.wp _ _ _ _ (Proofs.YtlmdidblgeeplaaGreatDoor.setCf wy w.heap.size v')
  have HK := qH (show Keep (· = w.heap.size) wy (Proofs.YtlmdidblgeeplaaGreatDoor.setCf wy w.heap.size v') from keep_setCf (R := (· = w.heap.size)) (Keep.refl _ _) rfl v')
  replace Z := qH (Z.out.kept HK.out (by omega))
  replace O := qH (O.out.keptO HK.out (fun k e => by have := HS3.out; omega))
  replace B2 := qH (below_setCf B2.out (Nat.le_refl _) v')
  replace M : Hid (MB (Proofs.YtlmdidblgeeplaaGreatDoor.setCf wy w.heap.size v') w.heap.size ⟨m.ver, m.prev, m.trial, m.cf, tg⟩ v') := qH (M.out.setCf v' m.cf)
  clear HK x2 x3 x4 f0 f1 f2
  generalize Proofs.YtlmdidblgeeplaaGreatDoor.setCf wy w.heap.size v' = wz at *
  have S9 := qH (mf_size M.out.1 v')
  have SZ : Hid ((mfL Mf.zero nilV).toArray.size = (mfL ⟨m.ver, m.prev, m.trial, m.cf, tg⟩ v').toArray.size) := by (show _ = _); rw [mfL_size MfT.zero, mfL_size M.out.1]
  go_wp2_with (first | (refine wpList_load_row rfl 30 _ rfl w.heap.size rfl 30 (mfL ⟨m.ver, m.prev, m.trial, m.cf, tg⟩ v').toArray (0, 0) _ M.out.row Tryz.underlying30 rfl S9.out ?_) | (refine wpList_store_row rfl 30 _ _ rfl (w.heap.size + 1) (mfL ⟨m.ver, m.prev, m.trial, m.cf, tg⟩ v').toArray rfl rfl 30 (mfL Mf.zero nilV).toArray Z.out.row S9.out SZ.out (mf_one _ _) ?_))
  (try simp only [Exit.inBlock, Exit.then])
  refine bodyPost_ret (results_mf rfl _ _ (w.heap.size + 1) ⟨m.ver, m.prev, m.trial, m.cf, tg⟩ v' rfl (Z.out.setRow M.out.1 v')) rfl ?_
  exact ⟨v', by rw [HV.out], (O.out.keptO (keep_setRow (w.heap.size + 1) (mfL ⟨m.ver, m.prev, m.trial, m.cf, tg⟩ v').toArray) (fun k e => by have := HS3.out; omega)).mono HS4.out, BV.out, below_setRow B2.out (by omega) _⟩
end
section
open Go.RowKit
theorem check_out {key : List UInt8} {run : Mf} {bs : List UInt8} (h : checkM key run bs = 0) : gotM bs = mfOut bs := by
 cases hok : okM bs
 ·unfold checkM at h
  rw [hok, if_pos rfl] at h
  cases h
 ·exact (mfOut_yes hok).1.symm
theorem ck_world (w : World) (A : Option Addr) (n c : Nat) {run : Mf} (h : MfT run) (vr : CV) : ∃ wa, ((w.alloc (.cells #[.slice A n c] 31)).alloc (.cells (mfL run vr).toArray 30)).alloc (.cells (mfL Mf.zero nilV).toArray 30) = wa ∧
  Below w.heap.size w wa ∧ wa.cell? ⟨w.heap.size, 0, none⟩ = some (.slice A n c) ∧ MB wa (w.heap.size + 1) run vr ∧ MB wa (w.heap.size + 2) Mf.zero nilV := by
 have b1 := (Below.refl w.heap.size w).alloc (Nat.le_refl _) (.cells #[.slice A n c] 31)
 have c1 : Bx (w.alloc (.cells #[.slice A n c] 31)) w.heap.size 31 [.slice A n c] := Bx.new w _ [.slice A n c]
 have s1 : (w.alloc (.cells #[.slice A n c] 31)).heap.size = w.heap.size + 1 := by simp
 generalize w.alloc (.cells #[.slice A n c] 31) = w1 at *
 have b2 := (Below.refl w1.heap.size w1).alloc (Nat.le_refl _) (.cells (mfL run vr).toArray 30)
 have m2 := MB.new w1 h vr
 have s2 : (w1.alloc (.cells (mfL run vr).toArray 30)).heap.size = w.heap.size + 2 := by simp [s1]
 rw [s1] at m2
 generalize w1.alloc (.cells (mfL run vr).toArray 30) = w2 at *
 have b3 := (Below.refl w2.heap.size w2).alloc (Nat.le_refl _) (.cells (mfL Mf.zero nilV).toArray 30)
 have m3 := MB.new w2 MfT.zero nilV
 rw [s2] at m3
 exact ⟨_, rfl, b1.trans ((b2.trans (b3.mono (by omega))).mono (by omega)), ((c1.to b2).to b3).at (j := 0) rfl, m2.to b3, m3⟩
theorem ck_world2 (w : World) : ∃ w2, (w.alloc (.cells (mfL Mf.zero nilV).toArray 30)).alloc (.cells #[.int .i64 0] 34) = w2 ∧ Below w.heap.size w w2 ∧ MB w2 w.heap.size Mf.zero nilV ∧ Bx w2 (w.heap.size + 1) 34 [.int .i64 0] := by
 have b1 := (Below.refl w.heap.size w).alloc (Nat.le_refl _) (.cells (mfL Mf.zero nilV).toArray 30)
 have m1 := MB.new w MfT.zero nilV
 have s1 : (w.alloc (.cells (mfL Mf.zero nilV).toArray 30)).heap.size = w.heap.size + 1 := by simp
 generalize w.alloc (.cells (mfL Mf.zero nilV).toArray 30) = w1 at *
 have b2 := (Below.refl w1.heap.size w1).alloc (Nat.le_refl _) (.cells #[.int .i64 0] 34)
 have x2 : Bx (w1.alloc (.cells #[.int .i64 0] 34)) w1.heap.size 34 [.int .i64 0] := Bx.new w1 _ [.int .i64 0]
 rw [s1] at x2
 exact ⟨_, rfl, b1.trans (b2.mono (by omega)), m1.to b2, x2⟩
def clF (gk gr gm gp : Nat) : List Value := [.func (.func 59) #[] #[.pointer (some ⟨gp, 0, none⟩)], .func (.func 60) #[] #[.pointer (some ⟨gk, 0, none⟩), .pointer (some ⟨gm, 0, none⟩)], .func (.func 62) #[] #[.pointer (some ⟨gm, 0, none⟩), .pointer (some ⟨gr, 0, none⟩)], .func (.func 63) #[] #[.pointer (some ⟨gm, 0, none⟩), .pointer (some ⟨gr, 0, none⟩)], .func (.func 64) #[] #[.pointer (some ⟨gm, 0, none⟩)], .func (.func 66) #[] #[.pointer (some ⟨gr, 0, none⟩), .pointer (some ⟨gm, 0, none⟩)]]
theorem cl_all {w : World} {gk gr gm gp : Nat} {A : Option Addr} {n c : Nat} {kk bs : List UInt8} {vr v : CV} {run : Mf} (h : CkMS w gk gr gm gp A n c kk vr run v (mfOut bs) (mfErr bs)) (T : TypeId) (k : Nat) (hk : k < 6) :
  ClAt (w.alloc (.cells (clF gk gr gm gp).toArray T)) w.heap.size k (erM kk run bs k) := by
 have hx : Bx (w.alloc (.cells (clF gk gr gm gp).toArray T)) w.heap.size T (clF gk gr gm gp) := Bx.new w T (clF gk gr gm gp)
 have h5 := h.to ((Below.refl w.heap.size w).alloc (Nat.le_refl _) (.cells (clF gk gr gm gp).toArray T))
 rcases k with _ | _ | _ | _ | _ | _ | k
 ·exact ⟨59, #[.pointer (some ⟨gp, 0, none⟩)], hx.at (j := 0) rfl, enters_of Tryz.func59 (by kernel_rfl) rfl, fun W hW => wClo1 (h5.to hW)⟩
 ·exact ⟨60, #[.pointer (some ⟨gk, 0, none⟩), .pointer (some ⟨gm, 0, none⟩)], hx.at (j := 1) rfl, enters_of Tryz.func60 (by kernel_rfl) rfl, fun W hW => wClo2 (h5.to hW)⟩
 ·exact ⟨62, #[.pointer (some ⟨gm, 0, none⟩), .pointer (some ⟨gr, 0, none⟩)], hx.at (j := 2) rfl, enters_of Tryz.func62 (by kernel_rfl) rfl, fun W hW => wClo3 (h5.to hW)⟩
 ·exact ⟨63, #[.pointer (some ⟨gm, 0, none⟩), .pointer (some ⟨gr, 0, none⟩)], hx.at (j := 3) rfl, enters_of Tryz.func63 (by kernel_rfl) rfl, fun W hW => wClo4 (h5.to hW)⟩
 ·exact ⟨64, #[.pointer (some ⟨gm, 0, none⟩)], hx.at (j := 4) rfl, enters_of Tryz.func64 (by kernel_rfl) rfl, fun W hW => wClo5 (h5.to hW)⟩
 ·exact ⟨66, #[.pointer (some ⟨gr, 0, none⟩), .pointer (some ⟨gm, 0, none⟩)], hx.at (j := 5) rfl, enters_of Tryz.func66 (by kernel_rfl) rfl, fun W hW => wClo6 (h5.to hW)⟩
 ·omega
theorem wCheckM (A A' : Option Addr) (n c n' c' : Nat) (kk bs : List UInt8) (vr : CV) (run : Mf) (w : World) (hp : Pr w) (ha : Rd w w.heap.size A n kk) (hn : n ≤ 1000) (hc : n ≤ c) (hcc : c ≤ 9223372036854775807) (h : RdM w w.heap.size vr run) (d : Bd vr) (hb : Rd w w.heap.size A' n' bs) (hn' : n' ≤ c') (hc' : c' ≤ 9223372036854775807) (hl : n' ≤ 140737488355328) :
  Calls Tryz.prog 24 #[.slice A n c, .agg (mfL run vr).toArray, .slice A' n' c'] w fun e w' => ∃ v : CV, e = .returned (.tuple #[.agg (mfL (takenM kk run bs) v).toArray, .int .i64 (checkM kk run bs)]) ∧ RdM w' w'.heap.size v (takenM kk run bs) ∧ Below w.heap.size w w' := by
 have hz := mf_zero
 have hmf : ∀ (fn : Fn) (first cap : Array Value) (w : World), (Instr.makeFunc fn first cap).run Tryz.prog w = .ok (.func fn first cap) w := fun _ _ _ _ => rfl
 obtain ⟨wa, hwa, hb1, hkc, hm, hzz⟩ := ck_world w A n c h.t vr
 have HWA := qH hwa
 have KC := qH hkc
 have M := qH hm
 have Z := qH hzz
 have B := qH hb1
 have HP := qH (hp.to hb1)
 have RK := qH (ha.to hb1)
 have RR := qH (h.to hb1)
 have RB := qH (hb.to hb1)
 have D := qH d
 have H1 := qH hn
 have H2 := qH hc
 have H3 := qH hcc
 have H4 := qH hn'
 have H5 := qH hc'
 have H6 := qH hl
 have HV := qH (first_check kk run bs)
 have HT : Hid (takenM kk run bs = if checkM kk run bs = 0 then gotM bs else Mf.zero) := rfl
 clear hwa hb1 hkc hm hzz hp ha hn hc hcc h d hb hn' hc' hl
 go_enter Tryz.func24, Tryz.ntmps24
 go_upto_region 1 with (fail)
 rw [HWA.out]
 clear HWA
 go_wp2_with fail
 refine (wParseMO A' n' c' bs wa RB.out H4.out H5.out H6.out).mono ?_
 rintro e wb ⟨v, rfl, hrd, hsp, hb⟩
 have C : Hid (OwCf wb wa.heap.size v (mfOut bs).cf) := ⟨hrd.cf, hsp⟩
 have HZA : Hid (w.heap.size + 2 < wa.heap.size) := Z.out.lt
 have RM := qH hrd
 have BV := qH (bd_can hrd.cf (mfOut_canP bs))
 have T5 := qH hrd.t
 have S5 := qH (mf_size hrd.t v)
 have SZ : Hid ((mfL Mf.zero nilV).toArray.size = (mfL (mfOut bs) v).toArray.size) := by (show _ = _); rw [mfL_size MfT.zero, mfL_size hrd.t]
 replace KC := qH ((hb.cell (p := ⟨w.heap.size, 0, none⟩) (cell_block KC.out)).trans KC.out)
 replace M := qH (M.out.to hb)
 replace Z := qH (Z.out.to hb)
 replace B := qH (B.out.trans (hb.mono B.out.size))
 replace HP := qH (HP.out.to hb)
 replace RK := qH (RK.out.to hb)
 replace RR := qH (RR.out.to hb)
 clear hrd hsp hb RB H4 H5 H6
 obtain ⟨w2, hw2, hb2, hzg, hgp⟩ := ck_world2 wb
 obtain ⟨w3, hw3⟩ : ∃ x, w2.setRow wb.heap.size (mfL (mfOut bs) v).toArray = x := ⟨_, rfl⟩
 have HK3 : Hid (Keep (· = wb.heap.size) w2 w3) := by (show Keep _ _ _); rw [← hw3]; exact keep_setRow _ _
 have MM : Hid (MB w3 wb.heap.size (mfOut bs) v) := by (show MB _ _ _ _); rw [← hw3]; exact hzg.setRow T5.out v
 have GP := qH (hgp.kept HK3.out (by omega))
 have BB : Hid (Below wb.heap.size wb w3) := HK3.out.below hb2 hb2.size (fun k e => Nat.le_of_eq e.symm)
 have HZG := qH hzg
 have HW2 := qH hw2
 have HW3 := qH hw3
 have hcp := GP.out.at (j := 0) rfl
 have hfp := GP.out.fz 0
 clear hw2 hw3 hb2 hzg hgp
 go_upto_region 2 with (rw [HW2.out]; refine wpList_store_row rfl 30 _ _ rfl wb.heap.size (mfL (mfOut bs) v).toArray rfl rfl 30 (mfL Mf.zero nilV).toArray HZG.out.row S5.out SZ.out (mf_one _ _) ?_; rw [HW3.out])
 clear hcp hfp HZG HW2 HW3 HK3 S5 SZ hz
 have K4 : Hid (Keep (· = wb.heap.size + 1) w3 (w3.setCell ⟨wb.heap.size + 1, 0, none⟩ (.int .i64 (mfErr bs)))) := (Keep.refl _ _).setCell _ _ rfl
 have BW : Hid (Below wb.heap.size wb (w3.setCell ⟨wb.heap.size + 1, 0, none⟩ (.int .i64 (mfErr bs)))) := K4.out.below BB.out BB.out.size (fun k e => by omega)
 have GQ := qH (GP.out.set 0 (.int .i64 (mfErr bs)))
 replace MM := qH (MM.out.kept K4.out (by omega))
 have H0 : Hid (CkMS (w3.setCell ⟨wb.heap.size + 1, 0, none⟩ (.int .i64 (mfErr bs))) w.heap.size (w.heap.size + 1) wb.heap.size (wb.heap.size + 1) A n c kk vr run v (mfOut bs) (mfErr bs)) :=
  ⟨HP.out.to BW.out, (BW.out.cell (p := ⟨w.heap.size, 0, none⟩) (cell_block KC.out)).trans KC.out, RK.out.to BW.out, H1.out, H2.out, H3.out, M.out.to BW.out, RR.out.to BW.out, D.out, MM.out, RM.out.to BW.out, BV.out, GQ.out.at (j := 0) rfl⟩
 replace Z := qH (Z.out.to BW.out)
 replace C := qH (C.out.to BW.out)
 replace B := qH (B.out.trans (BW.out.mono B.out.size))
 clear K4 BW GQ GP BB HP KC RK M RR D RM BV MM H1 H2 H3
 generalize w3.setCell ⟨wb.heap.size + 1, 0, none⟩ (.int .i64 (mfErr bs)) = w4 at *
 generalize wb.heap.size = gm at *
 clear w3 w2
 go_wp2_with fail
 refine (wRefusal w4.heap.size 6 (erM kk run bs) _ (by decide) (fun k hk => cl_all H0.out 74 k hk)).mono ?_
 rw [HV.out]
 rintro e w5 ⟨rfl, hb⟩
 have hal : Below w4.heap.size w4 (w4.alloc (.cells (clF w.heap.size (w.heap.size + 1) gm (gm + 1)).toArray 74)) := (Below.refl _ _).alloc (Nat.le_refl _) _
 replace hb : Below w4.heap.size w4 w5 := hal.trans (hb.mono hal.size)
 have MM := qH (H0.out.mm.to hb)
 replace Z := qH (Z.out.to hb)
 replace C := qH (C.out.to hb)
 replace B := qH (B.out.trans (hb.mono B.out.size))
 clear hal hb H0 hmf
 obtain ⟨q, hq⟩ : ∃ q, checkM kk run bs = q := ⟨_, rfl⟩
 rw [hq] at HT ⊢
 have HQ := qH hq
 by_cases h0 : q = 0
 ·subst h0
  have HE : Hid (takenM kk run bs = mfOut bs) := by (show _ = _); rw [HT.out, if_pos rfl, check_out hq]
  have S9 := qH (mf_size MM.out.1 v)
  have SZ : Hid ((mfL Mf.zero nilV).toArray.size = (mfL (mfOut bs) v).toArray.size) := by (show _ = _); rw [mfL_size MfT.zero, mfL_size MM.out.1]
  clear hq HT
  go_wp2_with (first | (refine wpList_load_row rfl 30 _ rfl gm rfl 30 (mfL (mfOut bs) v).toArray (0, 0) _ MM.out.row Tryz.underlying30 rfl S9.out ?_) | (refine wpList_store_row rfl 30 _ _ rfl (w.heap.size + 2) (mfL (mfOut bs) v).toArray rfl rfl 30 (mfL Mf.zero nilV).toArray Z.out.row S9.out SZ.out (mf_one _ _) ?_))
  (try simp only [Exit.inBlock, Exit.then])
  refine bodyPost_ret (results_mfE rfl _ _ (w.heap.size + 2) (mfOut bs) v (.int .i64 0) rfl rfl (Z.out.setRow MM.out.1 v)) rfl ?_
  have hk : Keep (· = w.heap.size + 2) w5 (w5.setRow (w.heap.size + 2) (mfL (mfOut bs) v).toArray) := keep_setRow _ _
  exact ⟨v, by rw [HE.out, HQ.out], by rw [HE.out]; exact ⟨MM.out.1, (C.out.keptO hk (fun k e => by have := HZA.out; omega)).rd⟩, below_setRow B.out (by omega) _⟩
 ·have HE : Hid (takenM kk run bs = Mf.zero) := by (show _ = _); rw [HT.out, if_neg h0]
  have hne : (q != 0) = true := bne_iff_ne.2 h0
  have S0 := qH (mf_size MfT.zero nilV)
  clear hq HT h0
  go_wp2_with (refine wpList_store_row rfl 30 _ _ rfl (w.heap.size + 2) (mfL Mf.zero nilV).toArray rfl rfl 30 (mfL Mf.zero nilV).toArray Z.out.row S0.out rfl (mf_one _ _) ?_)
  (try simp only [Exit.inBlock, Exit.then])
  refine bodyPost_ret (results_mfE rfl _ _ (w.heap.size + 2) Mf.zero nilV (.int .i64 q) rfl rfl (Z.out.setRow MfT.zero nilV)) rfl ?_
  exact ⟨nilV, by rw [HE.out, HQ.out], by rw [HE.out]; exact RdM.zero _ _, below_setRow B.out (by omega) _⟩
end
section
end
end Go.Proofs.YtlmdidblgeeplaaGreatDoor