/- The document's commit (citadelref16): May, Sector, read, Put (made by gen_cmr.py). -/
import Derived.Test.YtffdjnhhmfpkgaaGreatTz
import Derived.Test.YtffdjnhhmfpkgaaGreatCmW
import Derived.Test.YtffdjnhhmfpkgaaGreatR9
import Derived.Test.YtffdjnhhmfpkgaaGreatFrameR
import Derived.Test.YtffdjnhhmfpkgaaGreatR8
import Derived.Deep.RegionHeld
import Derived.Deep.DeepCutAuto
namespace Go.Proofs.YtffdjnhhmfpkgaaGreat
set_option maxRecDepth 1000000
set_option maxHeartbeats 8000000
open Go.RowKit
set_option linter.unusedVariables false
set_option linter.unusedSimpArgs false
theorem below_eqN {w w' : World} {q : Nat} (h : w' = w.drewN q) : Below w.heap.size w w' := by rw [h]; exact below_drewN (Below.refl _ _) q
theorem rMayM (r : Rcd) (w : World) (h : r.hash.length = 32) : Calls Tryz.prog 13 #[.agg (rcL r).toArray] w fun e w' => e = .returned (.bool (cmMay r)) ∧ Below w.heap.size w w' := by
 have B := qH ((Below.refl w.heap.size w).alloc (Nat.le_refl _) (.cells (rcL r).toArray 34))
 have M := qH (RB.new w h)
 have HV : Hid (cmMay r = (decide (0 < r.seq) && (decide (0 ≤ r.slot) && (decide (r.slot < 2) && (decide (0 < r.len) && decide (r.len ≤ 4096)))))) := rfl
 clear h
 go_enter Tryz.func13, Tryz.ntmps13
 go_upto_region 1 with (fail)
 generalize w.alloc (.cells (rcL r).toArray 34) = w1 at *
 obtain ⟨x0, x1, x2, x3⟩ := M.out.cells
 generalize r.seq = sq at *
 generalize r.slot = sl at *
 generalize r.len = ln at *
 by_cases c1 : 0 < sq
 rotate_left 1
 ·have c1' : ¬ sq > 0 := c1
  have e1 : decide (0 < sq) = false := decide_eq_false (by omega)
  go_wp2_with fail
  go_ret
  exact ⟨ret_boolC (by rw [HV.out]; simp [*]), B.out⟩
 have c1' : sq > 0 := c1
 have e1 : decide (0 < sq) = true := decide_eq_true (by omega)
 by_cases c2 : 0 ≤ sl
 rotate_left 1
 ·have c2' : ¬ sl ≥ 0 := c2
  have e2 : decide (0 ≤ sl) = false := decide_eq_false c2
  go_wp2_with fail
  go_ret
  exact ⟨ret_boolC (by rw [HV.out]; simp [*]), B.out⟩
 have c2' : sl ≥ 0 := c2
 have e2 : decide (0 ≤ sl) = true := decide_eq_true c2
 by_cases c3 : sl < 2
 rotate_left 1
 ·have e3 : decide (sl < 2) = false := decide_eq_false c3
  go_wp2_with fail
  go_ret
  exact ⟨ret_boolC (by rw [HV.out]; simp [*]), B.out⟩
 have e3 : decide (sl < 2) = true := decide_eq_true c3
 by_cases c4 : 0 < ln
 rotate_left 1
 ·have c4' : ¬ ln > 0 := c4
  have e4 : decide (0 < ln) = false := decide_eq_false (by omega)
  go_wp2_with fail
  go_ret
  exact ⟨ret_boolC (by rw [HV.out]; simp [*]), B.out⟩
 have c4' : ln > 0 := c4
 have e4 : decide (0 < ln) = true := decide_eq_true (by omega)
 by_cases c5 : ln ≤ 4096
 ·have e5 : decide (ln ≤ 4096) = true := decide_eq_true c5
  go_wp2_with fail
  go_ret
  exact ⟨ret_boolC (by rw [HV.out]; simp [*]), B.out⟩
 ·have e5 : decide (ln ≤ 4096) = false := decide_eq_false c5
  go_wp2_with fail
  go_ret
  exact ⟨ret_boolC (by rw [HV.out]; simp [*]), B.out⟩
theorem rSector (r : Rcd) (w : World) (h : r.hash.length = 32) : Calls Tryz.prog 36 #[.agg (rcL r).toArray] w (RetB 5 w (cmSec r)) := by
 have B0 := qH ((Below.refl w.heap.size w).alloc (Nat.le_refl _) (.cells (rcL r).toArray 34))
 have M := qH (RB.new w h)
 have S32 := qH (tag_sizeL h)
 have HF : Hid (cmForm r = ((((enc (u64N r.seq) 8 ++ [slotB r]) ++ enc (u64N r.len) 8) ++ [flagB r.trial]) ++ r.hash)) := by
  show _ = _
  simp only [cmForm, c5B, List.append_assoc]
 have HL := qH (cmForm_len h)
 have HSC : Hid (cmSec r = frm 1 (cmForm r)) := rfl
 have HH := qH h
 clear h
 go_enter Tryz.func36, Tryz.ntmps36
 go_upto_region 1 with (fail)
 generalize w.alloc (.cells (rcL r).toArray 34) = w1 at *
 obtain ⟨x0, -⟩ := M.out.cells
 go_wp2_with fail
 refine (rIntB r.seq w1).mono ?_
 rintro e w3 ⟨A3, n3, c3, rfl, hown, hb⟩
 obtain rfl : n3 = 8 := by rw [← (Rd.of_own hown).1, enc_len]
 have O := qH hown
 have B := qH hb
 clear hown hb x0
 go_upto_region 2 with (fail)
 obtain ⟨-, x1, -⟩ := (M.out.to B.out).cells
 go_upto_region 3 with (at_builtin; refine wpList_push isU8 rfl _ _ rfl rfl rfl O.out B.out B.out.size (by decide) (slotB r) (by first | exact (slotB_is r).symm | (rw [IntKind.wrap_u8]; exact (slotB_is r).symm)) ?_; intro v4 w4 hown4 hb4 hs4; obtain ⟨A4, c4, rfl⟩ := own_slice hown4)
 replace O := qH hown4
 replace B := qH hb4
 obtain ⟨-, -, x2, -⟩ := (M.out.to hb4).cells
 clear hown4 hb4 hs4 x1
 go_wp2_with fail
 refine (rIntB r.len w4).mono ?_
 rintro e w5 ⟨A5, n5, c5, rfl, hown, hb⟩
 obtain rfl : n5 = 8 := by rw [← (Rd.of_own hown).1, enc_len]
 have R5 := qH (Rd.of_own hown)
 replace O := qH (own_below O.out hb)
 replace B := qH (B.out.trans (hb.mono B.out.size))
 clear hown hb x2
 go_upto_region 4 with (at_builtin; refine wpList_pushAll isU8 rfl _ _ rfl rfl rfl O.out R5.out B.out B.out.size (by decide) ?_; intro v6 w6 hown6 hb6 hs6; obtain ⟨A6, c6, rfl⟩ := own_slice hown6)
 replace O := qH hown6
 replace B := qH hb6
 obtain ⟨-, -, -, x3⟩ := (M.out.to hb6).cells
 clear hown6 hb6 hs6 R5
 go_wp2_with fail
 refine (rFlagB r.trial w6).mono ?_
 rintro e w7 ⟨A7, n7, c7, rfl, hown, hb⟩
 obtain rfl : n7 = 1 := by rw [← (Rd.of_own hown).1]; rfl
 have R7 := qH (Rd.of_own hown)
 replace O := qH (own_below O.out hb)
 replace B := qH (B.out.trans (hb.mono B.out.size))
 clear hown hb x3
 go_upto_region 5 with (at_builtin; refine wpList_pushAll isU8 rfl _ _ rfl rfl rfl O.out R7.out B.out B.out.size (by decide) ?_; intro v8 w8 hown8 hb8 hs8; obtain ⟨A8, c8, rfl⟩ := own_slice hown8)
 replace O := qH hown8
 replace B := qH hb8
 have P := qH ((M.out.to hb8).hash)
 have hu := Tryz.underlying32
 clear hown8 hb8 hs8 R7
 go_wp2_with (refine wpList_load_mid rfl 32 _ rfl w.heap.size 4 rfl (r.hash.map bval) _ P.out hu rfl S32.out ?_)
 clear hu P
 refine (rTagB r.hash w8 HH.out).mono ?_
 rintro e w9 ⟨A9, n9, c9, rfl, hown, hb⟩
 obtain rfl : n9 = 32 := by rw [← (Rd.of_own hown).1, HH.out]
 have R9 := qH (Rd.of_own hown)
 replace O := qH (own_below O.out hb)
 replace B := qH (B.out.trans (hb.mono B.out.size))
 clear hown hb
 go_upto_region 6 with (at_builtin; refine wpList_pushAll isU8 rfl _ _ rfl rfl rfl O.out R9.out B.out B.out.size (by decide) ?_; intro v10 w10 hown10 hb10 hs10; obtain ⟨A10, c10, rfl⟩ := own_slice hown10)
 have R10 : Hid (Rd w10 w10.heap.size A10 50 (cmForm r)) := by
  show Rd _ _ _ _ _
  rw [HF.out]
  exact Rd.of_own hown10
 replace B := qH hb10
 clear hown10 hb10 hs10 R9 O
 go_wp2_with fail
 refine (rSeal A10 50 c10 1 (cmForm r) w10 R10.out (by decide)).mono ?_
 rintro e w11 ⟨A11, n11, c11, rfl, hown, hb⟩
 have BZ := qH (B0.out.trans ((B.out.trans (hb.mono B.out.size)).mono B0.out.size))
 have HO := qH (own_mono hown (Nat.le_trans B0.out.size B.out.size))
 rw [← HSC.out] at HO
 clear hown hb
 go_wp2_with fail
 go_ret
 exact RetB.mk HO.out BZ.out
structure RoS (w0 w : World) (gr g z : Nat) (gb : Option Nat) (s : RS) (r : Rcd) : Prop where
 ref : RefAt w gr gb s
 rb : RB w g r
 zb : RB w z Rcd.zero
 bel : Below w0.heap.size w0 w
 z0 : w0.heap.size ≤ z
 zr : z < gr
 rg : gr < g
 gbt : ∀ b, gb = some b → z < b ∧ b < g
section
variable {w0 w w' : World} {gr g z : Nat} {gb : Option Nat} {s s' : RS} {r r' : Rcd}
theorem RoS.read (h : RoS w0 w gr g z gb s r) (hk : Keep (· = gr) w w') (hr : RefAt w' gr gb s') : RoS w0 w' gr g z gb s' r := by
 have h1 := h.z0; have h2 := h.zr; have h3 := h.rg
 exact ⟨hr, h.rb.kept hk (by omega), h.zb.kept hk (by omega), hk.below h.bel h.bel.size (fun k e => by omega), h1, h2, h3, h.gbt⟩
theorem RoS.below (h : RoS w0 w gr g z gb s r) (hb : Below w.heap.size w w') : RoS w0 w' gr g z gb s r :=
 ⟨h.ref.below hb, h.rb.to hb, h.zb.to hb, h.bel.trans (hb.mono h.bel.size), h.z0, h.zr, h.rg, h.gbt⟩
theorem RoS.put (h : RoS w0 w gr g z gb s r) (hk : Keep (· = g) w w') (hm : RB w' g r') : RoS w0 w' gr g z gb s r' := by
 have h1 := h.z0; have h2 := h.zr; have h3 := h.rg
 exact ⟨h.ref.kept hk (by omega) (fun b hb e => by have := h.gbt b hb; omega), hm, h.zb.kept hk (by omega), hk.below h.bel h.bel.size (fun k e => by omega), h1, h2, h3, h.gbt⟩
end
theorem rRead16 (A : Option Addr) (n c : Nat) (bs : List UInt8) (i : Int) (w : World) (ha : Rd w w.heap.size A n bs) (hn : n ≤ 1000) (hc : n ≤ c) :
  Calls Tryz.prog 39 #[.slice A n c, .int .i64 i] w fun e w' => e = .returned (.tuple #[.agg (rcL (cmRec bs)).toArray, .bool (cmIs bs && decide ((cmRec bs).seq % 2 = i))]) ∧ Below w.heap.size w w' := by
 have hz := rc_zero
 have B1 := qH ((Below.refl w.heap.size w).alloc (Nat.le_refl _) (.cells (rcL Rcd.zero).toArray 34))
 have Z := qH (RB.new w (r := Rcd.zero) rfl)
 have R := qH (ha.to B1.out)
 have HS : Hid ((w.alloc (.cells (rcL Rcd.zero).toArray 34)).heap.size = w.heap.size + 1) := by (show _ = _); simp
 have HN := qH hn
 have HC := qH hc
 have HREC : Hid (cmRec bs = if openOk 1 bs = true then cmGot (payl bs) else Rcd.zero) := rfl
 have HIS : Hid (cmIs bs = (openOk 1 bs && cmTells (payl bs))) := rfl
 have HPL : Hid (openOk 1 bs = true → (payl bs).length ≤ 58) := fun h => by
  obtain ⟨_, h2, h3, _⟩ := openOk_parts h
  omega
 have HOF : Hid (openOf 1 bs = if openOk 1 bs = true then payl bs else []) := rfl
 clear ha hn hc
 go_enter Tryz.func39, Tryz.ntmps39
 go_upto_region 1 with (fail)
 generalize w.alloc (.cells (rcL Rcd.zero).toArray 34) = w1 at *
 go_wp2_with fail
 refine (rOpenAny A n c 1 1 rfl bs w1 R.out HN.out HC.out).mono ?_
 rintro e w2 ⟨A2, n2, c2, rfl, hown, hb⟩
 rw [HOF.out] at hown
 have Z2 := qH (Z.out.to hb)
 have B2 := qH (B1.out.trans (hb.mono B1.out.size))
 have HO := qH (Rd.of_own hown)
 have HS2 : Hid (w.heap.size < w2.heap.size) := by (show _ < _); have := hb.size; have := HS.out; omega
 clear hown hb R HN HC Z B1 HS
 cases hok : openOk 1 bs
 ·rw [hok, if_neg (by simp)] at HREC
  rw [hok, Bool.false_and] at HIS
  rw [if_neg (by simp)]
  clear HO HPL HOF hok
  have S0 := qH (rc_size (r := Rcd.zero) rfl)
  go_wp2_with (refine wpList_store_row rfl 34 _ _ rfl w.heap.size (rcL Rcd.zero).toArray rfl rfl 34 (rcL Rcd.zero).toArray Z2.out.row S0.out rfl (rc_one _) ?_)
  (try simp only [Exit.inBlock, Exit.then])
  refine bodyPost_ret (res_rcB rfl _ _ w.heap.size Rcd.zero (.bool false) rfl rfl (Z2.out.setRow rfl)) rfl ?_
  exact ⟨by rw [HREC.out, HIS.out]; rfl, below_setRow B2.out (Nat.le_refl _) _⟩
 ·rw [hok, if_pos rfl] at HREC
  rw [hok, Bool.true_and] at HIS
  rw [hok, if_pos rfl] at HO
  have HP := qH (HPL.out hok)
  rw [if_pos rfl]
  clear HPL HOF hok
  generalize hpl : payl bs = pl at *
  clear hpl
  go_wp2_with fail
  refine (rdNew A2 n2 c2 pl w2 HO.out (by have e1 := HO.out.1; have e2 := HP.out; omega)).mono ?_
  rintro e w3 ⟨gr, gb, rfl, hr, hgr, hgb, hb⟩
  have F := qH hr
  have HGR : Hid (w.heap.size < gr) := by (show _ < _); have := HS2.out; omega
  have HGB : Hid (∀ b, gb = some b → w.heap.size < b ∧ b < w3.heap.size) := fun b e => by have := hgb b e; have := HS2.out; omega
  have HGL : Hid (gr < w3.heap.size) := hr.lt
  have Z3 := qH (Z2.out.to hb)
  have B3 := qH (B2.out.trans (hb.mono B2.out.size))
  clear hr hgr hgb hb HO HS2 Z2 B2
  have HG : Hid (cmGot pl = ⟨intV (newRS pl), ((byteV ((newRS pl).next 8)).toNat : Int), intV (((newRS pl).next 8).next 1), decide (((((newRS pl).next 8).next 1).next 8).numb 1 = 1), tagV (flagS ((((newRS pl).next 8).next 1).next 8))⟩) := rfl
  have HTN : Hid (¬ endV ((flagS ((((newRS pl).next 8).next 1).next 8)).next 32) = 0 → cmTells pl = false) := fun h => cmTells_no h
  have HTY : Hid (endV ((flagS ((((newRS pl).next 8).next 1).next 8)).next 32) = 0 → cmTells pl = cmMay (cmGot pl)) := fun h => cmTells_yes h
  have HTL := qH (tagV_len (flagS ((((newRS pl).next 8).next 1).next 8)))
  generalize newRS pl = r0 at *
  go_upto_region 6 with (fail)
  have hal : Below w3.heap.size w3 (w3.alloc (.cells (rcL Rcd.zero).toArray 34)) := (Below.refl _ _).alloc (Nat.le_refl _) _
  have M : Hid (RoS w (w3.alloc (.cells (rcL Rcd.zero).toArray 34)) gr w3.heap.size w.heap.size gb r0 Rcd.zero) :=
   ⟨F.out.below hal, RB.new w3 rfl, Z3.out.to hal, B3.out.trans (hal.mono B3.out.size), Nat.le_refl _, HGR.out, HGL.out, HGB.out⟩
  have HZG : Hid (w.heap.size < w3.heap.size) := Z3.out.lt
  clear F Z3 B3 HGR HGL HGB hal
  generalize w3.alloc (.cells (rcL Rcd.zero).toArray 34) = w4 at *
  generalize w3.heap.size = g at *
  clear w3
  go_wp2_with fail
  refine (rdInt gr gb r0 w4 M.out.ref).mono ?_
  rintro e w5 ⟨rfl, hr, hk⟩
  replace M := qH (M.out.read hk hr)
  clear hr hk
  generalize intV r0 = x0 at *
  generalize r0.next 8 = r1 at *
  obtain ⟨y0, -⟩ := M.out.rb.cells
  have f0 := M.out.rb.fz 0
  go_upto_region 7 with (fail)
  replace M := qH (M.out.put ((Keep.refl _ _).setCell _ _ rfl) (M.out.rb.setSeq x0))
  clear y0 f0
  generalize w5.setCell ⟨g, 0, none⟩ (.int .i64 x0) = w6 at *
  go_wp2_with fail
  refine (rdByte gr gb r1 w6 M.out.ref).mono ?_
  rintro e w7 ⟨rfl, hr, hk⟩
  replace M := qH (M.out.read hk hr)
  clear hr hk
  have hb1 : ((byteV r1).toNat : Int) < 256 := by have := (byteV r1).toNat_lt; omega
  have hb2 : IntKind.i64.wrap ((byteV r1).toNat : Int) = ((byteV r1).toNat : Int) := by rw [IntKind.wrap_i64]; omega
  generalize ((byteV r1).toNat : Int) = x1 at *
  generalize r1.next 1 = r2 at *
  obtain ⟨-, y1, -⟩ := M.out.rb.cells
  have f1 := M.out.rb.fz 1
  go_upto_region 8 with (fail)
  replace M := qH (M.out.put ((Keep.refl _ _).setCell _ _ rfl) (M.out.rb.setSlot x1))
  clear y1 f1 hb1 hb2
  generalize w7.setCell ⟨g, 1, none⟩ (.int .i64 x1) = w8 at *
  go_wp2_with fail
  refine (rdInt gr gb r2 w8 M.out.ref).mono ?_
  rintro e w9 ⟨rfl, hr, hk⟩
  replace M := qH (M.out.read hk hr)
  clear hr hk
  generalize intV r2 = x2 at *
  generalize r2.next 8 = r3 at *
  obtain ⟨-, -, y2, -⟩ := M.out.rb.cells
  have f2 := M.out.rb.fz 2
  go_upto_region 9 with (fail)
  replace M := qH (M.out.put ((Keep.refl _ _).setCell _ _ rfl) (M.out.rb.setLen x2))
  clear y2 f2
  generalize w9.setCell ⟨g, 2, none⟩ (.int .i64 x2) = w10 at *
  go_wp2_with fail
  refine (rdFlag gr gb r3 w10 M.out.ref).mono ?_
  rintro e w11 ⟨rfl, hr, hk⟩
  replace M := qH (M.out.read hk hr)
  clear hr hk
  generalize decide (r3.numb 1 = 1) = x3 at *
  generalize flagS r3 = r4 at *
  obtain ⟨-, -, -, y3⟩ := M.out.rb.cells
  have f3 := M.out.rb.fz 3
  go_upto_region 10 with (fail)
  replace M := qH (M.out.put ((Keep.refl _ _).setCell _ _ rfl) (M.out.rb.setTrial x3))
  clear y3 f3
  generalize w11.setCell ⟨g, 3, none⟩ (.bool x3) = w12 at *
  go_wp2_with fail
  refine (rdTag gr gb r4 w12 M.out.ref (fun b hb => by have := (M.out.gbt b hb).2; have := M.out.rb.lt; omega)).mono ?_
  rintro e w13 ⟨rfl, hr, hk⟩
  replace M := qH (M.out.read hk hr)
  clear hr hk
  generalize tagV r4 = x4 at *
  generalize r4.next 32 = r5 at *
  have S2 := qH (tag_size HTL.out)
  have TH : Hid (w13.there g 4 (arrB x4).size) := M.out.rb.there (by rw [arrB_size, HTL.out]; decide)
  go_upto_region 11 with (refine wpList_store_mid rfl 32 _ _ rfl g 4 (arrB x4) rfl rfl TH.out S2.out (arrB_one _) ?_)
  replace M := qH (M.out.put (keep_setCellsM (Keep.refl _ _) g 4 (arrB x4).toList rfl) (M.out.rb.setHash HTL.out))
  clear S2 TH
  generalize w13.setCells g 4 (arrB x4).toList = w14 at *
  simp only at M HG
  rw [← HG.out] at M
  generalize cmGot pl = q at *
  clear HG HTL
  have HQ := qH M.out.rb.1
  have S1 := qH (rc_size HQ.out)
  have SZ : Hid ((rcL Rcd.zero).toArray.size = (rcL q).toArray.size) := by (show _ = _); rw [rcL_size rfl, rcL_size HQ.out]
  have HNE : Hid (g ≠ w.heap.size) := by (show _ ≠ _); have := HZG.out; omega
  obtain ⟨wd, hwd⟩ : ∃ x, w14.drew = x := ⟨_, rfl⟩
  have BS : Below w14.heap.size w14 wd := by rw [← hwd]; exact (Below.refl _ _).drew
  replace M := qH (M.out.below BS)
  clear BS
  refine wp_region_held_drew (S := (fun w' => RB w' g q)) (by kernel_rfl) ((by rw [hwd]; exact M.out.rb)) (fun hHeld => ?_)
  rw [hwd] at hHeld ⊢
  clear hwd
  refine tl 0 (.agg (rcL q).toArray) rfl (yieldsIf_load_row (by rfl) 34 _ rfl g rfl 34 (rcL q).toArray (0, 0) _ (fun w' h => RB.row h) Tryz.underlying34 rfl S1.out) ?_
  simp only [pR]
  refine tk 1 ?_
  simp only [pR]
  clear hHeld
  refine rd1 2 (fun K hK => ?_)
  go_simp
  refine (rdEnd gr gb r5 wd M.out.ref).mono ?_
  rintro e wa ⟨rfl, qn, hq⟩
  have hb := below_eqN hq
  replace M := qH (M.out.below hb)
  clear hb hq
  go_wp2_with fail
  refine hK.out _ _ (M.out.rb) (fun hHeld => ?_)
  clear hK K
  by_cases hE : endV r5 = 0
  rotate_left 1
  ·have HT := qH (HTN.out hE)
   have hne : ((endV r5 : Int) == 0) = false := beq_eq_false_iff_ne.2 (by omega)
   clear hE HTY HTN
   generalize (endV r5 : Int) = ev at *
   refine tk 3 ?_
   simp only [pR]
   refine tk 4 ?_
   simp only [pR]
   refine sk 5 ?_
   simp only [pR]
   refine sk 6 ?_
   simp only [pR]
   refine tk 7 ?_
   simp only [pR]
   refine tk 8 ?_
   simp only [pR]
   refine sk 9 ?_
   simp only [pR]
   refine sk 10 ?_
   simp only [pR]
   refine sk 11 ?_
   simp only [pR]
   refine sk 12 ?_
   simp only [pR]
   refine sk 13 ?_
   simp only [pR]
   refine tk 14 ?_
   simp only [pR]
   clear hHeld
   refine rd1 15 (fun K hK => ?_)
   rw [if_pos (by rfl)]
   refine wp_store_row0 34 _ _ rfl rfl w.heap.size (rcL q).toArray rfl rfl 34 _ M.out.zb.row S1.out SZ.out (rc_one _) ?_
   refine hK.out _ _ ((M.out.rb.setOther HNE.out)) (fun hHeld => ?_)
   clear hK K
   refine tk 16 ?_
   simp only [pR]
   refine wpAnyH_done (by kernel_rfl) ?_ _
   go_wp2_with fail
   refine bodyPost_ret (res_rcB rfl _ _ w.heap.size q _ rfl rfl (M.out.zb.setRow HQ.out)) rfl ?_
   exact ⟨by rw [HREC.out, HIS.out, HT.out]; rfl, below_setRow M.out.bel (Nat.le_refl _) _⟩
  have HT := qH (HTY.out hE)
  rw [hE]
  clear hE HTY HTN
  refine tk 3 ?_
  simp only [pR]
  refine tk 4 ?_
  simp only [pR]
  refine tl 5 (.agg (rcL q).toArray) rfl (yieldsIf_load_row (by rfl) 34 _ rfl g rfl 34 (rcL q).toArray (0, 0) _ (fun w' h => RB.row h) Tryz.underlying34 rfl S1.out) ?_
  simp only [pR]
  clear hHeld
  refine rd1 6 (fun K hK => ?_)
  go_simp
  refine (rMayM q wa HQ.out).mono ?_
  rintro e wb ⟨rfl, hb⟩
  replace M := qH (M.out.below hb)
  clear hb
  go_wp2_with fail
  refine hK.out _ _ (M.out.rb) (fun hHeld => ?_)
  clear hK K
  cases hm : cmMay q
  ·rw [hm] at HT
   refine tk 7 ?_
   simp only [pR]
   refine tk 8 ?_
   simp only [pR]
   refine sk 9 ?_
   simp only [pR]
   refine sk 10 ?_
   simp only [pR]
   refine sk 11 ?_
   simp only [pR]
   refine sk 12 ?_
   simp only [pR]
   refine sk 13 ?_
   simp only [pR]
   refine tk 14 ?_
   simp only [pR]
   clear hHeld
   refine rd1 15 (fun K hK => ?_)
   rw [if_pos (by rfl)]
   refine wp_store_row0 34 _ _ rfl rfl w.heap.size (rcL q).toArray rfl rfl 34 _ M.out.zb.row S1.out SZ.out (rc_one _) ?_
   refine hK.out _ _ ((M.out.rb.setOther HNE.out)) (fun hHeld => ?_)
   clear hK K
   refine tk 16 ?_
   simp only [pR]
   refine wpAnyH_done (by kernel_rfl) ?_ _
   go_wp2_with fail
   refine bodyPost_ret (res_rcB rfl _ _ w.heap.size q _ rfl rfl (M.out.zb.setRow HQ.out)) rfl ?_
   exact ⟨by rw [HREC.out, HIS.out, HT.out]; rfl, below_setRow M.out.bel (Nat.le_refl _) _⟩
  ·rw [hm] at HT
   have h0 : 0 ≤ q.seq := by have := (cmMay_iff.1 hm).1; omega
   have q1 := rem2 q.seq h0
   have q2 := rem2b q.seq h0
   have q3 := rem2c q.seq
   clear hm
   refine tk 7 ?_
   simp only [pR]
   refine tk 8 ?_
   simp only [pR]
   refine tk 9 ?_
   simp only [pR]
   refine tw 10 rfl (by intro w hSw; (try dsimp only at hSw); (obtain ⟨x, -⟩ := RB.cells hSw); clear hSw; go_simp; (try with_reducible rfl)) ?_
   simp only [pR]
   refine tk 11 ?_
   simp only [pR]
   refine tk 12 ?_
   simp only [pR]
   refine tk 13 ?_
   simp only [pR]
   refine tk 14 ?_
   simp only [pR]
   clear hHeld
   refine rd1 15 (fun K hK => ?_)
   rw [if_pos (by rfl)]
   refine wp_store_row0 34 _ _ rfl rfl w.heap.size (rcL q).toArray rfl rfl 34 _ M.out.zb.row S1.out SZ.out (rc_one _) ?_
   refine hK.out _ _ ((M.out.rb.setOther HNE.out)) (fun hHeld => ?_)
   clear hK K
   refine tk 16 ?_
   simp only [pR]
   refine wpAnyH_done (by kernel_rfl) ?_ _
   go_wp2_with fail
   refine bodyPost_ret (res_rcB rfl _ _ w.heap.size q _ rfl rfl (M.out.zb.setRow HQ.out)) rfl ?_
   refine ⟨?_, below_setRow M.out.bel (Nat.le_refl _) _⟩
   rw [HREC.out, HIS.out, HT.out]
   simp [q1, q2, q3]
   try rfl
end Go.Proofs.YtffdjnhhmfpkgaaGreat