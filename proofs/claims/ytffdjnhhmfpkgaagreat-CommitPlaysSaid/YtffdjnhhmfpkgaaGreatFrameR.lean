/- The document's frames (citadelref07): Seal, Open, Kind: what each returns for a slice that reads as given bytes. -/
import Derived.Test.YtffdjnhhmfpkgaaGreatTz
import Derived.Test.YtffdjnhhmfpkgaaGreatFrameY
import Derived.Test.YtffdjnhhmfpkgaaGreatRow
namespace Go.Proofs.YtffdjnhhmfpkgaaGreat
set_option maxRecDepth 1000000
set_option maxHeartbeats 8000000
open Go.RowKit
set_option linter.unusedVariables false
set_option linter.unusedSimpArgs false
def vlen : Value → Nat
 | .slice _ n _ => n
 | _ => 0
def SealRel (B : Nat) (k : UInt8) (xs : List UInt8) (w : World) (v : Value) (wr : World) : Prop :=
 ∃ j : Nat, 2 + xs.length ≤ j ∧ j ≤ 60 ∧ wr.ownsRow B 5 1 v j ((headL k xs ++ List.replicate (j - 2 - xs.length) 0).map bval) ∧ Below B w wr
theorem rSeal (A : Option Addr) (n c : Nat) (k : UInt8) (xs : List UInt8) (w : World) (ha : Rd w w.heap.size A n xs) (hn : n ≤ 58) :
  Calls Tryz.prog 60 #[.int .u8 (k.toNat : Int), .slice A n c] w fun e w' => RetB 5 w (frm k xs) e w' := by
 have HL := qH ha.1
 have hkv : (k.toNat : Int) < 256 := by have := k.toNat_lt; omega
 have O0 : Hid ((w.alloc (.cells #[.int .u8 (k.toNat : Int), .int .u8 (n : Int)] 5)).ownsRow w.heap.size 5 1 (.slice (some ⟨w.heap.size, 0, none⟩) 2 2) 2 (([k, UInt8.ofNat n] : List UInt8).map bval)) := by
  have h := own_top (w := w) (B := w.heap.size) [.int .u8 (k.toNat : Int), .int .u8 (n : Int)] 5 (Nat.le_refl _) (by intro u hu; simp at hu; rcases hu with rfl | rfl <;> rfl) (by simp)
  have e : ([k, UInt8.ofNat n] : List UInt8).map bval = [.int .u8 (k.toNat : Int), .int .u8 (n : Int)] := by
   show [Value.int .u8 (k.toNat : Int), Value.int .u8 ((UInt8.ofNat n).toNat : Int)] = _
   rw [show ((UInt8.ofNat n).toNat : Int) = (n : Int) from by rw [UInt8.toNat_ofNat']; omega]
  rw [e]
  exact h
 have R := qH ha
 have B : Hid (Below w.heap.size w (w.alloc (.cells #[.int .u8 (k.toNat : Int), .int .u8 (n : Int)] 5))) := (Below.refl _ _).alloc (Nat.le_refl _) _
 have HS : Hid (w.heap.size ≤ (w.alloc (.cells #[.int .u8 (k.toNat : Int), .int .u8 (n : Int)] 5)).heap.size) := B.out.size
 have HB := qH (fbody_len (k := k) (xs := xs) (by rw [HL.out]; exact hn))
 have HFB := qH (fbody_eq k xs)
 have hn256 : (n : Int) < 256 := by omega
 have hn58 : (n : Int) ≤ 58 := by omega
 clear ha
 generalize hkz : (k.toNat : Int) = kz at *
 have HKZ := qH hkz
 clear hkz
 go_enter Tryz.func60, Tryz.ntmps60
 go_wp2_with (at_builtin; refine wpList_pushAll isU8 rfl _ _ rfl rfl rfl O0.out (R.out.below B.out) B.out HS.out (by omega) ?_; intro v1 w1 hown1 hbel1 hsz1)
 have O1 := qH hown1
 have B1 := qH hbel1
 have HS1 := qH (Nat.le_trans HS.out hsz1)
 clear hown1 hbel1 hsz1 O0 B HS R
 go_loopw [5] (fun v wr => SealRel w.heap.size k xs w v wr) (fun v _ => 60 - vlen v)
 case atStart =>
  refine ⟨2 + n, by rw [HL.out]; exact Nat.le_refl _, by omega, ?_, B1.out⟩
  have h := O1.out
  rw [show 2 + n - 2 - xs.length = 0 from by rw [HL.out]; omega]
  have e : headL k xs ++ List.replicate 0 0 = [k, UInt8.ofNat n] ++ xs := by simp [headL, HL.out]
  rw [e]
  exact h
 case round =>
  obtain ⟨j, hj1, hj2, hown, hb⟩ := hrel
  have BR := qH hb
  have OR := qH hown
  have J1 := qH hj1
  have J2 := qH hj2
  clear hb hown hj1 hj2 O1 B1 HS1
  obtain ⟨A2, c2, rfl⟩ := own_slice OR.out
  have hsz := BR.out.size
  by_cases hlt : (j : Int) < 60
  ·have HJ : Hid (headL k xs ++ List.replicate (j + 1 - 2 - xs.length) 0 = (headL k xs ++ List.replicate (j - 2 - xs.length) 0) ++ [0]) := by
    show _ = _
    rw [show j + 1 - 2 - xs.length = (j - 2 - xs.length) + 1 from by have := J1.out; omega, List.replicate_succ']
    simp
   go_wp2_with (at_builtin; refine wpList_push isU8 rfl _ _ rfl rfl rfl OR.out BR.out hsz (by omega) 0 rfl ?_; intro v2 w2 hown2 hbel2 hsz2)
   go_roundw
   case rel => exact ⟨j + 1, by have := J1.out; omega, by omega, by rw [HJ.out]; exact hown2, hbel2⟩
   case measure =>
    obtain ⟨A3, c3, rfl⟩ := own_slice hown2
    simp [vlen]; omega
  ·obtain rfl : j = 60 := by have := J2.out; omega
   have HE : Hid (headL k xs ++ List.replicate (60 - 2 - xs.length) 0 = fbody k xs) := by
    show _ = _
    rw [HFB.out]
   rw [HE.out] at OR
   have M := qH (Rd.of_own OR.out)
   clear HE J1 J2 OR
   go_wp2_with fail
   refine (refCrcPut A2 60 c2 _ wr M.out (by decide)).mono ?_
   rintro e w3 ⟨A3, n3, c3, rfl, hown3, hb⟩
   have O3 := qH (own_mono hown3 BR.out.size)
   replace BR := qH (BR.out.trans (hb.mono BR.out.size))
   clear hown3 hb M
   go_wp2_with fail
   go_ret
   exact RetB.mk O3.out BR.out
theorem rOpen (A : Option Addr) (n c : Nat) (k : UInt8) (bs : List UInt8) (w : World) (ha : Rd w w.heap.size A n bs) (hn : n ≤ 1000) (hc1 : n ≤ c) (ho : openOk k bs = true) :
  Calls Tryz.prog 62 #[.int .u8 (k.toNat : Int), .slice A n c] w fun e w' => RetErr 5 w (payl bs) 0 e w' := by
 obtain ⟨h64, h58, hpl, hfr⟩ := openOk_parts ho
 obtain rfl : n = 64 := by rw [← ha.1]; exact h64
 have hk : nth bs 0 = k.toNat := by rw [← hfr]; exact frm_nth0 _ _
 have R := qH ha
 have HFR := qH hfr
 have HPL := qH hpl
 obtain ⟨b, o, rfl, hbo, hcc⟩ := ha.2 (by omega)
 have x0 : w.cell? ⟨b, o, none⟩ = some (.int .u8 (k.toNat : Int)) := by have := hcc 0 (by omega); rw [hk] at this; exact this
 have x1 : w.cell? ⟨b, o + 1, none⟩ = some (.int .u8 (nth bs 1 : Int)) := hcc 1 (by omega)
 obtain ⟨y, hy⟩ : ∃ y, nth bs 1 = y := ⟨_, rfl⟩
 rw [hy] at x1
 have hy58 : (y : Int) < 59 := by omega
 have hyg : ¬ ((y : Int) > 58) := by omega
 have HY := qH hy
 have HP : Hid ((bs.take (2 + y)).drop 2 = payl bs) := by (show _ = _); unfold payl; rw [hy]
 obtain ⟨q, hq⟩ : ∃ q, 2 + y = q := ⟨_, rfl⟩
 have hw : IntKind.i64.wrap (2 + (y : Int)) = (q : Int) := by rw [← hq]; exact (IntWalk.i64_in _ (by omega)).trans (by omega)
 have hqi : (2 : Int) + (y : Int) = (q : Int) := by omega
 rw [hq] at HP
 obtain ⟨A', c', hs0, hr0, hc0, hc0'⟩ := slice_lh isU8 (some ⟨b, o, none⟩) (n := 64) (c := c) (l := 2) (h := q) (by omega) (by omega) hc1
 have hs : ∀ w : World, (Instr.slice 35 (.slice (some ⟨b, o, none⟩) 64 c) (some (.int .i64 2)) (some (.int .i64 (q : Int))) none).run Tryz.prog w = .ok (.slice A' (q - 2) c') w := fun w => hs0 .i64 .i64 w
 have HR := qH hr0
 have hq2 : q - 2 ≤ 58 := by omega
 clear ha hk h64 h58 hpl hs0 hr0 ho hfr hcc hy hc0 hc0'
 have HQQ : Hid (2 + y = q) := hq
 clear hq
 generalize hkz : (k.toNat : Int) = kz at *
 have HKZ := qH hkz
 clear hkz
 go_enter Tryz.func62, Tryz.ntmps62
 go_wp2_with fail
 have S := qH (HR.out w _ bs R.out)
 rw [HP.out] at S
 refine (refCopy A' (q - 2) c' (payl bs) w S.out (by omega)).mono ?_
 rintro e w2 ⟨A2, n2, c2, rfl, hown2, hb⟩
 have O := qH hown2
 have M := qH (Rd.of_own hown2)
 obtain rfl : n2 = q - 2 := by rw [← M.out.1, ← S.out.1]
 have B := qH hb
 replace R := qH (R.out.to hb)
 clear hown2 hb S x0 x1
 go_wp2_with fail
 have hrs := rSeal A2 (q - 2) c2 k (payl bs) w2 M.out hq2
 rw [HKZ.out] at hrs
 refine hrs.mono ?_
 rintro e w3 ⟨A3, n3, c3, rfl, hown3, hb⟩
 have F := qH (Rd.of_own hown3)
 rw [HFR.out] at F
 obtain rfl : n3 = 64 := by rw [← F.out.1]; exact R.out.1
 clear hrs hown3 M
 replace R := qH (R.out.to hb)
 replace O := qH (own_below O.out hb)
 replace B := qH (B.out.trans (hb.mono B.out.size))
 clear hb
 go_wp2_with fail
 refine (refSameBT A3 (some ⟨b, o, none⟩) 64 64 c3 c bs bs w3 rfl F.out R.out (by decide) (by decide)).mono ?_
 rintro e w4 ⟨rfl, hb⟩
 clear F R
 replace O := qH (own_below O.out hb)
 replace B := qH (B.out.trans (hb.mono B.out.size))
 clear hb
 go_wp2_with fail
 go_ret2
 exact RetErr.of O.out B.out
theorem rOpenBad (A : Option Addr) (n c : Nat) (k : UInt8) (bs : List UInt8) (w : World) (ha : Rd w w.heap.size A n bs) (hn : n ≤ 1000) (hc1 : n ≤ c) (ho : openOk k bs = false) :
  Calls Tryz.prog 62 #[.int .u8 (k.toNat : Int), .slice A n c] w fun e w' => e = .returned (.tuple #[.slice none 0 0, .int .i64 70]) ∧ Below w.heap.size w w' := by
 by_cases h64 : n = 64
 ·subst h64
  have R := qH ha
  obtain ⟨b, o, rfl, hbo, hcc⟩ := ha.2 (by omega)
  have x0 : w.cell? ⟨b, o, none⟩ = some (.int .u8 (nth bs 0 : Int)) := hcc 0 (by omega)
  have x1 : w.cell? ⟨b, o + 1, none⟩ = some (.int .u8 (nth bs 1 : Int)) := hcc 1 (by omega)
  by_cases h0 : nth bs 0 = k.toNat
  ·rw [h0] at x0
   by_cases h58 : nth bs 1 ≤ 58
   ·have hfr : frm k (payl bs) ≠ bs := fun h => by rw [openOk_of ha.1 h58 h] at ho; cases ho
    have hdf : decide (frm k (payl bs) = bs) = false := decide_eq_false hfr
    have HDF := qH hdf
    have hpl := payl_len ha.1 h58
    have HFL := qH (frm_len (k := k) (xs := payl bs) (by rw [hpl]; exact h58))
    obtain ⟨y, hy⟩ : ∃ y, nth bs 1 = y := ⟨_, rfl⟩
    rw [hy] at x1
    have hy58 : (y : Int) < 59 := by omega
    have hyg : ¬ ((y : Int) > 58) := by omega
    have HP : Hid ((bs.take (2 + y)).drop 2 = payl bs) := by (show _ = _); unfold payl; rw [hy]
    obtain ⟨q, hq⟩ : ∃ q, 2 + y = q := ⟨_, rfl⟩
    have hw : IntKind.i64.wrap (2 + (y : Int)) = (q : Int) := by rw [← hq]; exact (IntWalk.i64_in _ (by omega)).trans (by omega)
    have hqi : (2 : Int) + (y : Int) = (q : Int) := by omega
    rw [hq] at HP
    obtain ⟨A', c', hs0, hr0, hc0, hc0'⟩ := slice_lh isU8 (some ⟨b, o, none⟩) (n := 64) (c := c) (l := 2) (h := q) (by omega) (by omega) hc1
    have hs : ∀ w : World, (Instr.slice 35 (.slice (some ⟨b, o, none⟩) 64 c) (some (.int .i64 2)) (some (.int .i64 (q : Int))) none).run Tryz.prog w = .ok (.slice A' (q - 2) c') w := fun w => hs0 .i64 .i64 w
    have HR := qH hr0
    have hq2 : q - 2 ≤ 58 := by omega
    clear ha h0 h58 hpl hs0 hr0 ho hfr hcc hy hc0 hc0' hdf
    have HQQ : Hid (2 + y = q) := hq
    clear hq
    generalize hkz : (k.toNat : Int) = kz at *
    have HKZ := qH hkz
    clear hkz
    go_enter Tryz.func62, Tryz.ntmps62
    go_wp2_with fail
    have S := qH (HR.out w _ bs R.out)
    rw [HP.out] at S
    refine (refCopy A' (q - 2) c' (payl bs) w S.out (by omega)).mono ?_
    rintro e w2 ⟨A2, n2, c2, rfl, hown2, hb⟩
    have M := qH (Rd.of_own hown2)
    obtain rfl : n2 = q - 2 := by rw [← M.out.1, ← S.out.1]
    have B := qH hb
    replace R := qH (R.out.to hb)
    clear hown2 hb S x0 x1
    go_wp2_with fail
    have hrs := rSeal A2 (q - 2) c2 k (payl bs) w2 M.out hq2
    rw [HKZ.out] at hrs
    refine hrs.mono ?_
    rintro e w3 ⟨A3, n3, c3, rfl, hown3, hb⟩
    have F := qH (Rd.of_own hown3)
    obtain rfl : n3 = 64 := by rw [← F.out.1]; exact HFL.out
    clear hrs hown3 M
    replace R := qH (R.out.to hb)
    replace B := qH (B.out.trans (hb.mono B.out.size))
    clear hb
    go_wp2_with fail
    have hsm := refSameB A3 (some ⟨b, o, none⟩) 64 64 c3 c (frm k (payl bs)) bs w3 F.out R.out (by decide) (by decide)
    rw [HDF.out] at hsm
    refine hsm.mono ?_
    rintro e w4 ⟨rfl, hb⟩
    clear F R hsm
    replace B := qH (B.out.trans (hb.mono B.out.size))
    clear hb
    go_wp2_with fail
    go_ret2
    exact ⟨rfl, B.out⟩
   ·have hyI : (nth bs 1 : Int) > 58 := by omega
    clear ha h0 h58 ho hcc
    generalize nth bs 1 = y at *
    generalize (k.toNat : Int) = kz at *
    go_enter Tryz.func62, Tryz.ntmps62
    go_wp2_with fail
    go_ret2
    exact ⟨rfl, Below.refl _ _⟩
  ·have hne : ((nth bs 0 : Int) != (k.toNat : Int)) = true := bne_iff_ne.2 (by omega)
   have hne2 : ((nth bs 0 : Int) == (k.toNat : Int)) = false := by simp; omega
   have hne3 : (nth bs 0 == k.toNat) = false := by simp; exact h0
   clear ha h0 ho hcc x1
   generalize nth bs 0 = kd at *
   generalize k.toNat = kz at *
   go_enter Tryz.func62, Tryz.ntmps62
   go_wp2_with fail
   go_ret2
   exact ⟨rfl, Below.refl _ _⟩
 ·have hne : ((n : Int) != 64) = true := bne_iff_ne.2 (by omega)
  have hne2 : ((n : Int) == 64) = false := by simp; omega
  have hne3 : (n == 64) = false := by simp; exact h64
  clear ha h64 ho
  generalize (k.toNat : Int) = kz at *
  go_enter Tryz.func62, Tryz.ntmps62
  go_wp2_with fail
  go_ret2
  exact ⟨rfl, Below.refl _ _⟩
theorem rOpenAny (A : Option Addr) (n c : Nat) (k : UInt8) (kz : Int) (hk : kz = (k.toNat : Int)) (bs : List UInt8) (w : World) (ha : Rd w w.heap.size A n bs) (hn : n ≤ 1000) (hc1 : n ≤ c) :
  Calls Tryz.prog 62 #[.int .u8 kz, .slice A n c] w fun e w' => RetErr 5 w (openOf k bs) (if openOk k bs then 0 else 70) e w' := by
 subst hk
 unfold openOf
 cases h : openOk k bs
 ·refine (rOpenBad A n c k bs w ha hn hc1 h).mono ?_
  rintro e w' ⟨rfl, hb⟩
  exact RetErr.of (own_nil _ _ _) hb
 ·exact rOpen A n c k bs w ha hn hc1 h
theorem rSealZ (A : Option Addr) (n c : Nat) (k : UInt8) (kz : Int) (hk : kz = (k.toNat : Int)) (xs : List UInt8) (w : World) (ha : Rd w w.heap.size A n xs) (hn : n ≤ 58) :
  Calls Tryz.prog 60 #[.int .u8 kz, .slice A n c] w fun e w' => RetB 5 w (frm k xs) e w' := by
 subst hk; exact rSeal A n c k xs w ha hn
end Go.Proofs.YtffdjnhhmfpkgaaGreat