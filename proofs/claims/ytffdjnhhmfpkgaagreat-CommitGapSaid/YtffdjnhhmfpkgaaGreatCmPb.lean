/- The program's commit: open, records (made by gen_cmpb.py). -/
import Derived.Test.YtffdjnhhmfpkgaaGreatTz
import Derived.Test.YtffdjnhhmfpkgaaGreatCmPa
import Derived.Test.YtffdjnhhmfpkgaaGreatR6
import Derived.Test.YtffdjnhhmfpkgaaGreatR7
import Derived.Test.YtffdjnhhmfpkgaaGreatR9
namespace Go.Proofs.YtffdjnhhmfpkgaaGreat
set_option maxRecDepth 1000000
set_option maxHeartbeats 8000000
open Go.RowKit
set_option linter.unusedVariables false
set_option linter.unusedSimpArgs false
structure CoS (w0 w : World) (gr z : Nat) (F : Nat → Prop) (s : RS) : Prop where
 pr : PrAt w gr F s
 zb : RB w z Rcd.zero
 bel : Below w0.heap.size w0 w
 z0 : w0.heap.size ≤ z
 fz : ∀ k, F k → z < k
section
variable {w0 w w' : World} {gr z : Nat} {F : Nat → Prop} {s s' : RS}
theorem CoS.read (h : CoS w0 w gr z F s) (hr : PrTo w gr F s' w') : ∃ F', CoS w0 w' gr z F' s' := by
 obtain ⟨F', h1, h2, hk⟩ := hr
 have hz := h.zb.lt
 refine ⟨F', h1, h.zb.kept hk (fun hh => Nat.lt_irrefl _ (h.fz _ hh)), hk.below h.bel h.bel.size (fun k hh => Nat.le_trans h.z0 (Nat.le_of_lt (h.fz k hh))), h.z0, fun k hh => ?_⟩
 rcases h2 k hh with h3 | h3
 ·exact h.fz k h3
 ·omega
theorem CoS.to (h : CoS w0 w gr z F s) (hb : Below w.heap.size w w') : CoS w0 w' gr z F s := ⟨h.pr.to hb, h.zb.to hb, h.bel.trans (hb.mono h.bel.size), h.z0, h.fz⟩
end
theorem foldl_putC (o : Nat) : ∀ (vs : List Value) (k : Nat) (cur : Array Value), o + k + vs.length ≤ cur.size → (vs.zipIdx k).foldl (fun (cs : Array Value) x => cs.setIfInBounds (o + x.2) x.1) cur = (cur.toList.take (o + k) ++ vs ++ cur.toList.drop (o + k + vs.length)).toArray
 | [], k, cur, _ => by simp
 | v :: rest, k, cur, h => by
  rw [List.zipIdx_cons, List.foldl_cons, foldl_putC o rest (k + 1) _ (by simp at h ⊢; omega)]
  congr 1
  have e := list_seg_step cur.toList (o + k) v rest (by simp at h ⊢; omega)
  simpa [Array.toList_setIfInBounds, Nat.add_assoc] using e
theorem rc_build (a b c : Int) (d : Bool) (t : List UInt8) (h : t.length = 32) :
  Array.foldl (fun (cs : Array Value) x => cs.setIfInBounds (4 + x.snd) x.fst) (((((rcL Rcd.zero).set 0 (Value.int .i64 a)).set 1 (.int .i64 b)).set 2 (.int .i64 c)).set 3 (.bool d)).toArray (arrB t).zipIdx 0 (arrB t).size = (rcL ⟨a, b, c, d, t⟩).toArray := by
 have e0 : (arrB t).zipIdx = ((t.map bval).zipIdx).toArray := by simp [arrB]
 rw [e0, show (arrB t).size = ((t.map bval).zipIdx).toArray.size by simp [arrB], List.foldl_toArray, foldl_putC 4 (t.map bval) 0 _ (by simp [h, rcL_len (show Rcd.zero.hash.length = 32 from rfl)])]
 congr 1
 rw [List.length_map, h]
 simp [rcL, Rcd.zero, zeros32]
theorem cOpen (A : Option Addr) (n c : Nat) (bs : List UInt8) (w : World) (ha : Rd w w.heap.size A n bs) (hn : n ≤ c) (hc : c ≤ 9223372036854775807) :
  Calls Tryz.prog 61 #[.slice A n c] w fun e w' => e = .returned (.tuple #[.agg (rcL (cmRec bs)).toArray, .bool (cmIs bs)]) ∧ Below w.heap.size w w' := by
 have hz := rc_zero
 have B1 := qH ((Below.refl w.heap.size w).alloc (Nat.le_refl _) (.cells (rcL Rcd.zero).toArray 34))
 have Z := qH (RB.new w (r := Rcd.zero) rfl)
 have R := qH (ha.to B1.out)
 have HS : Hid ((w.alloc (.cells (rcL Rcd.zero).toArray 34)).heap.size = w.heap.size + 1) := by (show _ = _); simp
 have HN := qH hn
 have HC := qH hc
 have HREC : Hid (cmRec bs = if openOk 1 bs = true then cmGot (payl bs) else Rcd.zero) := rfl
 have HIS : Hid (cmIs bs = (openOk 1 bs && cmTells (payl bs))) := rfl
 have HPL : Hid (openOk 1 bs = true → (payl bs).length ≤ 58) := fun h => by
  obtain ⟨_, h2, h3, _⟩ := openOk_parts h
  omega
 have HOF : Hid (openOf 1 bs = if openOk 1 bs = true then payl bs else []) := rfl
 clear ha hn hc
 go_enter Tryz.func61, Tryz.ntmps61
 go_upto_region 1 with (fail)
 generalize w.alloc (.cells (rcL Rcd.zero).toArray 34) = w1 at *
 go_wp2_with fail
 refine (wOpenAny A n c 1 1 rfl bs w1 R.out HN.out HC.out).mono ?_
 rintro e w2 ⟨A2, n2, c2, rfl, hown, hb⟩
 rw [HOF.out] at hown
 have Z2 := qH (Z.out.to hb)
 have B2 := qH (B1.out.trans (hb.mono B1.out.size))
 have HO := qH (Rd.of_own hown)
 have HCP := qH (own_cap hown)
 have HS2 : Hid (w.heap.size < w2.heap.size) := by (show _ < _); have := hb.size; have := HS.out; omega
 clear hown hb R HN HC Z B1 HS
 cases hok : openOk 1 bs
 ·rw [hok, if_neg (by simp)] at HREC
  rw [hok, Bool.false_and] at HIS
  rw [if_neg (by simp)]
  clear HO HPL HOF hok
  have S0 := qH (rc_size (r := Rcd.zero) rfl)
  go_wp2_with (refine wpList_store_row rfl 34 _ _ rfl w.heap.size (rcL Rcd.zero).toArray rfl rfl 34 (rcL Rcd.zero).toArray Z2.out.row S0.out rfl (rc_one _) ?_)
  (try simp only [Exit.inBlock, Exit.then])
  refine bodyPost_ret (res_rcB rfl _ _ w.heap.size Rcd.zero (.bool false) rfl rfl (Z2.out.setRow rfl)) rfl ?_
  exact ⟨by rw [HREC.out, HIS.out], below_setRow B2.out (Nat.le_refl _) _⟩
 ·rw [hok, if_pos rfl] at HREC
  rw [hok, Bool.true_and] at HIS
  rw [hok, if_pos rfl] at HO
  have HP := qH (HPL.out hok)
  rw [if_pos rfl]
  clear HPL HOF hok
  generalize hpl : payl bs = pl at *
  clear hpl
  go_wp2_with fail
  refine (pNew A2 n2 c2 pl w2 HO.out HCP.out.1 HCP.out.2 (by have e1 := HO.out.1; have e2 := HP.out; omega)).mono ?_
  rintro e w3 ⟨gr, F3, rfl, hr, hgr, hb⟩
  have P3 : Hid (CoS w w3 gr w.heap.size F3 (newRS pl)) := ⟨hr, Z2.out.to hb, B2.out.trans (hb.mono B2.out.size), Nat.le_refl _, fun k hk => by have := hgr k hk; have := HS2.out; omega⟩
  clear hr hgr hb HO HCP HS2 Z2 B2
  have HG : Hid (cmGot pl = ⟨intV (newRS pl), ((byteV ((newRS pl).next 8)).toNat : Int), intV (((newRS pl).next 8).next 1), decide (((((newRS pl).next 8).next 1).next 8).numb 1 = 1), tagV (flagS ((((newRS pl).next 8).next 1).next 8))⟩) := rfl
  have HTN : Hid (¬ endV ((flagS ((((newRS pl).next 8).next 1).next 8)).next 32) = 0 → cmTells pl = false) := fun h => cmTells_no h
  have HTY : Hid (endV ((flagS ((((newRS pl).next 8).next 1).next 8)).next 32) = 0 → cmTells pl = cmMay (cmGot pl)) := fun h => cmTells_yes h
  have HTL := qH (tagV_len (flagS ((((newRS pl).next 8).next 1).next 8)))
  generalize newRS pl = r0 at *
  go_wp2_with fail
  refine (pInt gr F3 r0 w3 P3.out.pr).mono ?_
  rintro e w4 ⟨rfl, ht⟩
  obtain ⟨F4, hp⟩ := P3.out.read ht
  have P4 := qH hp
  clear ht hp P3
  generalize intV r0 = x0 at *
  generalize r0.next 8 = r1 at *
  go_wp2_with fail
  refine (pByte gr F4 r1 w4 P4.out.pr).mono ?_
  rintro e w5 ⟨rfl, ht⟩
  obtain ⟨F5, hp⟩ := P4.out.read ht
  have P5 := qH hp
  clear ht hp P4
  have hb1 : ((byteV r1).toNat : Int) < 256 := by have := (byteV r1).toNat_lt; omega
  have hb2 : IntKind.i64.wrap ((byteV r1).toNat : Int) = ((byteV r1).toNat : Int) := by rw [IntKind.wrap_i64]; omega
  generalize ((byteV r1).toNat : Int) = x1 at *
  generalize r1.next 1 = r2 at *
  go_wp2_with fail
  refine (pInt gr F5 r2 w5 P5.out.pr).mono ?_
  rintro e w6 ⟨rfl, ht⟩
  obtain ⟨F6, hp⟩ := P5.out.read ht
  have P6 := qH hp
  clear ht hp P5
  generalize intV r2 = x2 at *
  generalize r2.next 8 = r3 at *
  go_wp2_with fail
  refine (pFlag gr F6 r3 w6 P6.out.pr).mono ?_
  rintro e w7 ⟨rfl, ht⟩
  obtain ⟨F7, hp⟩ := P6.out.read ht
  have P7 := qH hp
  clear ht hp P6
  generalize decide (r3.numb 1 = 1) = x3 at *
  generalize flagS r3 = r4 at *
  go_wp2_with fail
  refine (pTag gr F7 r4 w7 P7.out.pr).mono ?_
  rintro e w8 ⟨rfl, ht⟩
  obtain ⟨F8, hp⟩ := P7.out.read ht
  have P8 := qH hp
  clear ht hp P7
  generalize tagV r4 = x4 at *
  generalize r4.next 32 = r5 at *
  have S1 := qH (rc_size (r := ⟨x0, x1, x2, x3, x4⟩) HTL.out)
  have SZ : Hid ((rcL Rcd.zero).toArray.size = (rcL ⟨x0, x1, x2, x3, x4⟩).toArray.size) := by (show _ = _); rw [rcL_size rfl, rcL_size HTL.out]
  have BU := qH (rc_build x0 x1 x2 x3 x4 HTL.out)
  have BV : Hid (_ = _) := BU
  have hb32 : (arrB x4).size = 32 := by rw [arrB_size, HTL.out]
  rw [hb32] at BV
  go_upto_region 6 with ((first | rw [BU.out] | rw [BV.out]); refine wpList_store_row rfl 34 _ _ rfl w8.heap.size (rcL ⟨x0, x1, x2, x3, x4⟩).toArray rfl rfl 34 (rcL Rcd.zero).toArray (heap_alloc_last w8 _) S1.out SZ.out (rc_one _) ?_; rw [World.setRow_alloc_new])
  have hal : Below w8.heap.size w8 (w8.alloc (.cells (rcL ⟨x0, x1, x2, x3, x4⟩).toArray 34)) := (Below.refl _ _).alloc (Nat.le_refl _) _
  have G9 := qH (RB.new w8 (r := ⟨x0, x1, x2, x3, x4⟩) HTL.out)
  have P9 := qH (P8.out.to hal)
  have HZG : Hid (w.heap.size < w8.heap.size) := P8.out.zb.lt
  clear P8 hal BU BV hb32 hb1 hb2
  generalize w8.alloc (.cells (rcL ⟨x0, x1, x2, x3, x4⟩).toArray 34) = w9 at *
  generalize w8.heap.size = g at *
  rw [← HG.out] at G9 S1 SZ
  generalize cmGot pl = q at *
  clear HG HTL
  obtain ⟨wd, hwd⟩ : ∃ x, w9.drew = x := ⟨_, rfl⟩
  have BS : Below w9.heap.size w9 wd := by rw [← hwd]; exact (Below.refl _ _).drew
  have G := qH (G9.out.to BS)
  have P := qH (P9.out.to BS)
  clear G9 P9 BS
  have HQ := qH G.out.1
  have HNE : Hid (g ≠ w.heap.size) := by (show _ ≠ _); have := HZG.out; omega
  refine wp_region_held_drew (S := (fun w' => RB w' g q)) (by kernel_rfl) ((by rw [hwd]; exact G.out)) (fun hHeld => ?_)
  rw [hwd] at hHeld ⊢
  clear hwd hHeld
  have hHeld := G.out
  refine tl 0 (.agg (rcL q).toArray) rfl (yieldsIf_load_row (by rfl) 34 _ rfl g rfl 34 (rcL q).toArray (0, 0) _ (fun w' h => RB.row h) Tryz.underlying34 rfl S1.out) ?_
  simp only [pR]
  refine tk 1 ?_
  simp only [pR]
  clear hHeld
  refine rd1 2 (fun K hK => ?_)
  go_simp
  refine (pEnd gr F8 r5 wd P.out.pr).mono ?_
  rintro e wa ⟨rfl, hb⟩
  have PA := qH (P.out.to hb)
  have GA := qH (G.out.to hb)
  clear hb P G
  go_wp2_with fail
  refine hK.out _ _ (GA.out) (fun hHeld => ?_)
  clear hK K
  by_cases hE : endV r5 = 0
  ·have HT := qH (HTY.out hE)
   rw [hE]
   clear hE HTY HTN
   refine tk 3 ?_
   simp only [pR]
   refine tk 4 ?_
   simp only [pR]
   refine tl 5 (.agg (rcL q).toArray) rfl (yieldsIf_load_row (by rfl) 34 _ rfl g rfl 34 (rcL q).toArray (0, 0) _ (fun w' h => RB.row h) Tryz.underlying34 rfl S1.out) ?_
   simp only [pR]
   clear hHeld
   refine rd1 6 (fun K hK => ?_)
   go_simp
   refine (cMay q wa HQ.out).mono ?_
   rintro e wb ⟨rfl, hb⟩
   have PB := qH (PA.out.to hb)
   have GB := qH (GA.out.to hb)
   clear hb PA GA
   go_wp2_with fail
   refine hK.out _ _ (GB.out) (fun hHeld => ?_)
   clear hK K
   refine tk 7 ?_
   simp only [pR]
   clear hHeld
   refine rd1 8 (fun K hK => ?_)
   rw [if_pos (by rfl)]
   refine wp_store_row0 34 _ _ rfl rfl w.heap.size (rcL q).toArray rfl rfl 34 _ PB.out.zb.row S1.out SZ.out (rc_one _) ?_
   refine hK.out _ _ ((GB.out.setOther HNE.out)) (fun hHeld => ?_)
   clear hK K
   refine tk 9 ?_
   simp only [pR]
   refine wpAnyH_done (by kernel_rfl) ?_ _
   go_wp2_with fail
   refine bodyPost_ret (res_rcB rfl _ _ w.heap.size q (.bool (cmMay q)) rfl rfl (PB.out.zb.setRow HQ.out)) rfl ?_
   exact ⟨by rw [HREC.out, HIS.out, HT.out], below_setRow PB.out.bel (Nat.le_refl _) _⟩
  ·have HT := qH (HTN.out hE)
   have hne : ((endV r5 : Int) == 0) = false := beq_eq_false_iff_ne.2 (by omega)
   clear hE HTY HTN
   generalize (endV r5 : Int) = ev at *
   refine tk 3 ?_
   simp only [pR]
   refine tk 4 ?_
   simp only [pR]
   refine sk 5 ?_
   simp only [pR]
   refine sk 6 ?_
   simp only [pR]
   refine tk 7 ?_
   simp only [pR]
   clear hHeld
   refine rd1 8 (fun K hK => ?_)
   rw [if_pos (by rfl)]
   refine wp_store_row0 34 _ _ rfl rfl w.heap.size (rcL q).toArray rfl rfl 34 _ PA.out.zb.row S1.out SZ.out (rc_one _) ?_
   refine hK.out _ _ ((GA.out.setOther HNE.out)) (fun hHeld => ?_)
   clear hK K
   refine tk 9 ?_
   simp only [pR]
   refine wpAnyH_done (by kernel_rfl) ?_ _
   go_wp2_with fail
   refine bodyPost_ret (res_rcB rfl _ _ w.heap.size q (.bool false) rfl rfl (PA.out.zb.setRow HQ.out)) rfl ?_
   exact ⟨by rw [HREC.out, HIS.out, HT.out], below_setRow PA.out.bel (Nat.le_refl _) _⟩
end Go.Proofs.YtffdjnhhmfpkgaaGreat