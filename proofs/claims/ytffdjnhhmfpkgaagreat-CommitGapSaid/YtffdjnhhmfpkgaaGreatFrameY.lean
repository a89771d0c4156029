/- Contracts of the program's frames (frame), part three: Seal, Open. -/
import Derived.Test.YtffdjnhhmfpkgaaGreatTz
import Derived.Test.YtffdjnhhmfpkgaaGreatFrameX
namespace Go.Proofs.YtffdjnhhmfpkgaaGreat
set_option maxRecDepth 1000000
set_option maxHeartbeats 8000000
open Go.RowKit
set_option linter.unusedVariables false
set_option linter.unusedSimpArgs false
theorem ofNat_toNat {n : Nat} (h : n < 256) : ((UInt8.ofNat n).toNat : Int) = (n : Int) := by
 rw [UInt8.toNat_ofNat']; omega
theorem wSeal (A : Option Addr) (n c : Nat) (k : UInt8) (xs : List UInt8) (w : World) (ha : Rd w w.heap.size A n xs) (hn : n ≤ 58) :
  Calls Tryz.prog 76 #[.int .u8 (k.toNat : Int), .slice A n c] w fun e w' => RetErr 5 w (frm k xs) 0 e w' := by
 have HL := qH ha.1
 have hkv : (k.toNat : Int) < 256 := by have := k.toNat_lt; omega
 have T0 : Hid (Rd (w.alloc (.cells #[.int .u8 (k.toNat : Int), .int .u8 (n : Int)] 5)) (w.alloc (.cells #[.int .u8 (k.toNat : Int), .int .u8 (n : Int)] 5)).heap.size (some ⟨w.heap.size, 0, none⟩) 2 [k, UInt8.ofNat n]) :=
  (Rd.lit [k, UInt8.ofNat n] [.int .u8 (k.toNat : Int), .int .u8 (n : Int)] 5 (by
   show [Value.int .u8 (k.toNat : Int), Value.int .u8 ((UInt8.ofNat n).toNat : Int)] = _
   rw [ofNat_toNat (by omega)])).more (by simp)
 have R := qH (ha.grow (.cells #[.int .u8 (k.toNat : Int), .int .u8 (n : Int)] 5))
 have B : Hid (Below w.heap.size w (w.alloc (.cells #[.int .u8 (k.toNat : Int), .int .u8 (n : Int)] 5))) := (Below.refl _ _).alloc (Nat.le_refl _) _
 have HF : Hid ([[k, UInt8.ofNat n], xs].flatten = headL k xs) := by
  show _ = _
  simp [headL, HL.out]
 have HH := qH (headL_len k xs)
 have HB := qH (fbody_len (k := k) (xs := xs) (by rw [HL.out]; exact hn))
 have hnI : ¬ ((n : Int) > 58) := by omega
 have hn256 : (n : Int) < 256 := by omega
 clear ha hn
 generalize hkz : (k.toNat : Int) = kz at *
 have HKZ := qH hkz
 clear hkz
 go_enter Tryz.func76, Tryz.ntmps76
 go_wp2_with fail
 have S2 := RdS.lit (w := w.alloc (.cells #[.int .u8 kz, .int .u8 (n : Int)] 5)) [.slice (some ⟨w.heap.size, 0, none⟩) 2 2, .slice A n c] 35 [[k, UInt8.ofNat n], xs] rfl (fun j hj => by
  rcases j with _ | _ | j
  ·exact ⟨_, _, _, rfl, T0.out⟩
  ·exact ⟨_, _, _, rfl, R.out⟩
  ·simp at hj; omega)
 have B2 := qH (B.out.alloc B.out.size (.cells #[.slice (some ⟨w.heap.size, 0, none⟩) 2 2, .slice A n c] 35))
 refine (wCat _ 2 2 [[k, UInt8.ofNat n], xs] _ (by simpa using S2) (by decide) (by rw [HF.out, HH.out, HL.out]; omega)).mono ?_
 generalize (w.alloc (.cells #[.int .u8 kz, .int .u8 (n : Int)] 5)).alloc (.cells #[.slice (some ⟨w.heap.size, 0, none⟩) 2 2, .slice A n c] 35) = w2 at *
 rintro e w3 ⟨A3, n3, c3, rfl, hown3, hb⟩
 rw [HF.out] at hown3
 have P := qH (Rd.of_own hown3)
 replace B2 := qH (B2.out.trans (hb.mono B2.out.size))
 have hn3 : n3 ≤ 60 := by rw [← P.out.1, HH.out, HL.out]; omega
 clear hown3 hb S2 T0 R B
 go_wp2_with fail
 refine (wPadded A3 n3 c3 60 (headL k xs) w3 P.out (by omega) (by decide) (by decide)).mono ?_
 rintro e w4 ⟨A4, n4, c4, rfl, hown4, hb⟩
 have Q := qH (Rd.of_own hown4)
 replace B2 := qH (B2.out.trans (hb.mono B2.out.size))
 obtain rfl : n4 = 60 := by rw [← Q.out.1]; exact HB.out
 clear hown4 hb P hn3
 go_wp2_with fail
 refine (wCrcPut A4 60 c4 _ w4 Q.out (by decide)).mono ?_
 rintro e w5 ⟨A5, n5, c5, rfl, hown5, hb⟩
 have O : Hid (w5.ownsRow w.heap.size 5 1 (.slice A5 n5 c5) n5 ((frm k xs).map bval)) := own_mono hown5 B2.out.size
 replace B2 := qH (B2.out.trans (hb.mono B2.out.size))
 clear hown5 hb Q
 go_wp2_with fail
 go_ret2
 exact RetErr.of O.out B2.out
theorem wSealBad (A : Option Addr) (n c : Nat) (kz : Int) (w : World) (hn : 58 < n) :
  Calls Tryz.prog 76 #[.int .u8 kz, .slice A n c] w fun e w' => e = .returned (.tuple #[.slice none 0 0, .int .i64 3]) ∧ w = w' := by
 have hnI : (n : Int) > 58 := by omega
 clear hn
 go_enter Tryz.func76, Tryz.ntmps76
 go_wp2_with fail
 go_ret2
 exact ⟨rfl, rfl⟩
theorem wOpen (A : Option Addr) (n c : Nat) (k : UInt8) (bs : List UInt8) (w : World) (ha : Rd w w.heap.size A n bs) (hc1 : n ≤ c) (hc2 : c ≤ 9223372036854775807) (ho : openOk k bs = true) :
  Calls Tryz.prog 82 #[.int .u8 (k.toNat : Int), .slice A n c] w fun e w' => RetErr 5 w (payl bs) 0 e w' := by
 have hfo := ho
 unfold openOk at hfo
 rw [Bool.and_eq_true] at hfo
 obtain ⟨hf, hk⟩ := hfo
 have hk := of_decide_eq_true hk
 obtain ⟨h64, h58, hpl, _⟩ := openOk_parts ho
 obtain rfl : n = 64 := by rw [← ha.1]; exact h64
 have HW := qH (wKind A 64 c bs w ha hc1 hc2)
 have hkd : kindOf bs = k.toNat := by unfold kindOf; rw [if_pos hf, hk]
 rw [hf, hkd] at HW
 have R := qH ha
 obtain ⟨q, hq⟩ : ∃ q, 2 + nth bs 1 = q := ⟨_, rfl⟩
 have hq2 : 2 ≤ q := by omega
 have hq60 : q ≤ 60 := by omega
 have HQ := qH hq
 have HP : Hid ((bs.take q).drop 2 = payl bs) := by (show _ = _); unfold payl; rw [hq]
 obtain ⟨A', c', hs0, hr0, hc0, hc0'⟩ := slice_lh isU8 A (n := 64) (c := c) (l := 2) (h := q) hq2 (by omega) hc1
 have hs : ∀ w : World, (Instr.slice 35 (.slice A 64 c) (some (.int .i64 2)) (some (.int .i64 (q : Int))) none).run Tryz.prog w = .ok (.slice A' (q - 2) c') w := fun w => hs0 .i64 .i64 w
 have HR := qH hr0
 clear ha hf hk h64 h58 hpl hkd hs0 hr0 ho hq hc0 hc0'
 generalize hkz : (k.toNat : Int) = kz at *
 clear hkz
 go_enter Tryz.func82, Tryz.ntmps82
 go_wp2_with fail
 refine (HW.out).mono ?_
 rintro e w1 ⟨rfl, hb⟩
 have B := qH hb
 replace R := qH (R.out.to hb)
 clear hb HW
 go_wp2_with fail
 have hpe := wPayEnd A c bs w1 R.out
 rw [HQ.out] at hpe
 refine hpe.mono ?_
 rintro e w' ⟨rfl, rfl⟩
 have S := qH (HR.out w1 _ bs R.out)
 rw [HP.out] at S
 clear hpe
 go_wp2_with fail
 refine (wCat1 A' (q - 2) c' (payl bs) w1 S.out (by omega)).mono ?_
 rintro e w2 ⟨A2, n2, c2, rfl, hown2, hb⟩
 have O := qH (own_mono hown2 B.out.size)
 replace B := qH (B.out.trans (hb.mono B.out.size))
 clear hown2 hb S R
 go_wp2_with fail
 go_ret2
 exact RetErr.of O.out B.out
theorem wOpenBad (A : Option Addr) (n c : Nat) (k : UInt8) (bs : List UInt8) (w : World) (ha : Rd w w.heap.size A n bs) (hc1 : n ≤ c) (hc2 : c ≤ 9223372036854775807) (ho : openOk k bs = false) :
  Calls Tryz.prog 82 #[.int .u8 (k.toNat : Int), .slice A n c] w fun e w' => e = .returned (.tuple #[.slice none 0 0, .int .i64 70]) ∧ Below w.heap.size w w' := by
 have HW := qH (wKind A n c bs w ha hc1 hc2)
 cases hf : frOk bs
 ·rw [hf] at HW
  clear ha ho hf
  generalize (kindOf bs : Int) = kd at *
  generalize (k.toNat : Int) = kz at *
  go_enter Tryz.func82, Tryz.ntmps82
  go_wp2_with fail
  refine (HW.out).mono ?_
  rintro e w1 ⟨rfl, hb⟩
  have B := qH hb
  clear hb HW
  go_wp2_with fail
  go_ret2
  exact ⟨rfl, B.out⟩
 ·unfold openOk at ho
  rw [hf, Bool.true_and] at ho
  have hk := of_decide_eq_false ho
  have hkd : kindOf bs = nth bs 0 := by unfold kindOf; rw [if_pos hf]
  rw [hf, hkd] at HW
  have hne : ((nth bs 0 : Int) != (k.toNat : Int)) = true := bne_iff_ne.2 (by omega)
  have hne2 : ((nth bs 0 : Int) == (k.toNat : Int)) = false := by simp; omega
  have hne3 : (nth bs 0 == k.toNat) = false := by simp; exact hk
  clear ha ho hf hk hkd
  generalize nth bs 0 = kd at *
  generalize k.toNat = kz at *
  go_enter Tryz.func82, Tryz.ntmps82
  go_wp2_with fail
  refine (HW.out).mono ?_
  rintro e w1 ⟨rfl, hb⟩
  have B := qH hb
  clear hb HW
  go_wp2_with fail
  go_ret2
  exact ⟨rfl, B.out⟩
theorem u8v {z : Int} (h : (Lit.int .u8 z).wf = true) : ∃ k : UInt8, z = (k.toNat : Int) := by
 obtain ⟨n, rfl, hn⟩ := wf_u8' h
 refine ⟨UInt8.ofNat n, ?_⟩
 have : (UInt8.ofNat n).toNat = n % 256 := UInt8.toNat_ofNat'
 omega
theorem wSealZ (A : Option Addr) (n c : Nat) (k : UInt8) (kz : Int) (hk : kz = (k.toNat : Int)) (xs : List UInt8) (w : World) (ha : Rd w w.heap.size A n xs) (hn : n ≤ 58) :
  Calls Tryz.prog 76 #[.int .u8 kz, .slice A n c] w fun e w' => RetErr 5 w (frm k xs) 0 e w' := by
 subst hk; exact wSeal A n c k xs w ha hn
theorem wOpenZ (A : Option Addr) (n c : Nat) (k : UInt8) (kz : Int) (hk : kz = (k.toNat : Int)) (bs : List UInt8) (w : World) (ha : Rd w w.heap.size A n bs) (hc1 : n ≤ c) (hc2 : c ≤ 9223372036854775807) (ho : openOk k bs = true) :
  Calls Tryz.prog 82 #[.int .u8 kz, .slice A n c] w fun e w' => RetErr 5 w (payl bs) 0 e w' := by
 subst hk; exact wOpen A n c k bs w ha hc1 hc2 ho
theorem wOpenBadZ (A : Option Addr) (n c : Nat) (k : UInt8) (kz : Int) (hk : kz = (k.toNat : Int)) (bs : List UInt8) (w : World) (ha : Rd w w.heap.size A n bs) (hc1 : n ≤ c) (hc2 : c ≤ 9223372036854775807) (ho : openOk k bs = false) :
  Calls Tryz.prog 82 #[.int .u8 kz, .slice A n c] w fun e w' => e = .returned (.tuple #[.slice none 0 0, .int .i64 70]) ∧ Below w.heap.size w w' := by
 subst hk; exact wOpenBad A n c k bs w ha hc1 hc2 ho
theorem wOpenAny (A : Option Addr) (n c : Nat) (k : UInt8) (kz : Int) (hk : kz = (k.toNat : Int)) (bs : List UInt8) (w : World) (ha : Rd w w.heap.size A n bs) (hc1 : n ≤ c) (hc2 : c ≤ 9223372036854775807) :
  Calls Tryz.prog 82 #[.int .u8 kz, .slice A n c] w fun e w' => RetErr 5 w (openOf k bs) (if openOk k bs then 0 else 70) e w' := by
 unfold openOf
 cases h : openOk k bs
 ·refine (wOpenBadZ A n c k kz hk bs w ha hc1 hc2 h).mono ?_
  rintro e w' ⟨rfl, hb⟩
  exact RetErr.of (own_nil _ _ _) hb
 ·exact wOpenZ A n c k kz hk bs w ha hc1 hc2 h
end Go.Proofs.YtffdjnhhmfpkgaaGreat