/- Several texts in one (a claim has 60 files at most): ShaI, Hmac, ShaOpen, HmacD. -/
import Derived.Test.YtlmdidblgeeplaaGreatDoorTz
import Derived.Test.YtlmdidblgeeplaaGreatDoorPShaHy
import Derived.Test.YtlmdidblgeeplaaGreatDoorPHmacRefOx
import Derived.Test.YtlmdidblgeeplaaGreatDoorPPadx
namespace Go.Proofs.YtlmdidblgeeplaaGreatDoor
set_option maxRecDepth 1000000
set_option maxHeartbeats 8000000
set_option linter.unusedVariables false
set_option linter.unusedSimpArgs false
section
open Go.RowKit
def CapS (w : World) (A : Option Addr) (n : Nat) : Prop :=
 ∀ b o, A = some ⟨b, o, none⟩ → ∀ j, j < n → ∀ A1 n1 c1, w.cell? ⟨b, o + j, none⟩ = some (.slice A1 n1 c1) → n1 ≤ c1 ∧ c1 ≤ 9223372036854775807
theorem tag_sliceAll (g : Nat) (w : World) : (Instr.sliceAt 23 (.pointer (some ⟨g, 0, none⟩)) none none none).run Tryz.prog w = .ok (.slice (some ⟨g, 0, none⟩) 32 32) w := by
 have hl : Tryz.prog.arrayLen 23 = 32 := by kernel_rfl
 have he : Tryz.prog.elem 23 = 5 := by kernel_rfl
 have hs : (sizeOf 5).run Tryz.prog w = .ok 1 w := sizeOf_one (by kernel_rfl) w
 rw [run_sliceAt_array_all (ht := by kernel_rfl), he, hl, hs]
 simp [Result.andThen, slicedAt, Addr.add]
end
section
open Go.RowKit
theorem mask_pad (k : List UInt8) (x : UInt8) : (padTo (shortL k) 64).map (· ^^^ x) = maskL k x := by
 have hl := shortL_len k
 have hp : (padTo (shortL k) 64).length = 64 := by
  unfold padTo
  rw [List.length_append, List.length_replicate, show (min (64 : Int) 65536).toNat = 64 from rfl]; omega
 refine List.ext_getElem (by rw [List.length_map, hp, maskL_len]) fun i h1 h2 => ?_
 have hi : i < 64 := by rw [maskL_len] at h2; exact h2
 rw [List.getElem_map]
 simp only [maskL, List.getElem_map, List.getElem_range]
 congr 1
 simp only [padTo, List.getElem_append]
 split
 ·rename_i h
  simp [List.getD, h]
 ·rename_i h
  simp [List.getD, List.getElem?_eq_none (by omega : (shortL k).length ≤ i)]
theorem pad_len (k : List UInt8) : (padTo (shortL k) 64).length = 64 := by
 have hl := shortL_len k
 unfold padTo
 rw [List.length_append, List.length_replicate, show (min (64 : Int) 65536).toNat = 64 from rfl]; omega
theorem wShort (A : Option Addr) (n c : Nat) (k : List UInt8) (w : World) (hp : Pr w) (ha : Rd w w.heap.size A n k) (hn : n ≤ 1000000000) (hc : n ≤ c) (hc' : c ≤ 9223372036854775807) :
  Calls Tryz.prog 187 #[.slice A n c] w fun e w' => RetR w (shortL k) e w' := by
 have HA := qH ha
 have HP := qH hp
 clear hp ha
 by_cases h64 : n ≤ 64
 ·have HE : Hid (shortL k = k) := if_pos (by rw [HA.out.1]; exact h64)
  go_enter Tryz.func187, Tryz.ntmps187
  go_wp2_with fail
  refine (wCat1 A n c k w HA.out (by omega)).mono ?_
  rintro e w1 h
  have H := qH h.toR
  obtain ⟨A1, n1, c1, rfl, _, _⟩ := h
  go_wp2_with fail
  go_ret
  rw [HE.out]
  exact H.out
 ·have HE : Hid (shortL k = shaL k) := if_neg (by rw [HA.out.1]; exact h64)
  have hz := tag_zero
  go_enter Tryz.func187, Tryz.ntmps187
  go_wp2_with fail
  refine (wSha A n c k w HP.out HA.out hn hc hc').mono ?_
  have HL := qH (shaL_len k)
  obtain ⟨t, ht⟩ : ∃ t, shaL k = t := ⟨_, rfl⟩
  rw [ht] at HE HL
  have HT := qH ht
  clear ht
  rintro e w1 ⟨rfl, hb⟩
  rw [HT.out]
  have B := qH hb
  clear hb
  have S1 := qH (tag_size HL.out)
  have E1 : Hid ((arrB zeros32).size = (arrB t).size) := by
   show _ = _
   rw [arrB_size, arrB_size, HL.out]; rfl
  go_wp2_with (refine wpList_store_row rfl 23 _ _ rfl w1.heap.size (arrB t) rfl rfl 23 (arrB zeros32) (heap_alloc_last w1 _) S1.out E1.out (arrB_one _) ?_; rw [World.setRow_alloc_new])
  have hb1 : Below w1.heap.size w1 (w1.alloc (.cells (arrB t) 23)) := (Below.refl _ _).alloc (Nat.le_refl _) _
  have T1 : Hid (TagAt (w1.alloc (.cells (arrB t) 23)) w1.heap.size t) := ⟨HL.out, heap_alloc_last w1 _⟩
  have HG : Hid (w.heap.size ≤ w1.heap.size) := B.out.size
  replace B := qH (B.out.trans (hb1.mono B.out.size))
  clear hb1
  clear E1 hz
  generalize w1.heap.size = g at *
  generalize w1.alloc (.cells (arrB t) 23) = w2 at *
  have hsa := tag_sliceAll g
  go_wp2_with fail
  go_ret
  rw [HE.out]
  exact ⟨_, _, _, rfl, OwR.tag T1.out HG.out, Nat.le_refl _, by decide, B.out⟩
def MaskAt (w : World) (g : Nat) (xs : List UInt8) : Prop := g < w.heap.size ∧ ∃ P c, w.cell? ⟨g, 0, none⟩ = some (.slice P 64 c) ∧ Rd w w.heap.size P 64 xs
theorem MaskAt.to {w w' : World} {g : Nat} {xs : List UInt8} (h : MaskAt w g xs) (hb : Below w.heap.size w w') : MaskAt w' g xs := by
 obtain ⟨hg, P, c, hc, hr⟩ := h
 exact ⟨Nat.lt_of_lt_of_le hg hb.size, P, c, (hb.cell hg).trans hc, hr.to hb⟩
def XorR (w1 : World) (xs : List UInt8) (x : UInt8) (v i : Value) (wr : World) : Prop :=
 ∃ k : Nat, k ≤ 64 ∧ i = .int .i64 (k : Int) ∧ wr.ownsRow w1.heap.size 5 1 v k (((xs.take k).map (· ^^^ x)).map bval) ∧ Below w1.heap.size w1 wr
theorem wMask (g : Nat) (xs : List UInt8) (x : UInt8) (w : World) (hm : MaskAt w g xs) :
  Calls Tryz.prog 188 #[.int .u8 (x.toNat : Int), .pointer (some ⟨g, 0, none⟩)] w fun e w' => RetB 5 w (xs.map (· ^^^ x)) e w' := by
 have HM := qH hm
 clear hm
 go_enter Tryz.func188, Tryz.ntmps188
 obtain ⟨hg, P, c, hc, hr⟩ := HM.out
 have R := qH hr
 have HC := qH hc
 clear hr hc
 go_wp2_with (at_make; refine wpList_makeB0 isU8 rfl _ _ rfl 64 rfl rfl (by decide) (by decide) (Below.refl w.heap.size w) (Nat.le_refl _) ?_; intro w1 hown1 hbel1 hsz1; have hcell : w1.cell? ⟨g, 0, none⟩ = some (.slice P 64 c) := (hbel1.cell hg).trans HC.out)
 have HSZ := qH hbel1.size
 go_loopw [4, 6, 10] (fun v _ i wr => XorR w xs x v i wr) (fun _ _ i _ => 64 - (intOf i).toNat)
 case atStart => exact ⟨0, Nat.zero_le _, rfl, by simpa using hown1, hbel1⟩
 case round =>
  obtain ⟨k, hk, rfl, hown, hb⟩ := hrel
  have HO := qH hown
  have HB := qH hb
  have HK := qH hk
  have hsz := hb.size
  clear hown hb hk hcell hown1 hbel1 hsz1
  by_cases h64 : (k : Int) < 64
  ·obtain ⟨b, o, rfl, hbo, hcc⟩ := R.out.2 (by decide)
   have hcell : wr.cell? ⟨b, o + k, none⟩ = some (.int .u8 (nth xs k : Int)) := (HB.out.cell hbo).trans (hcc k (by omega))
   clear hcc
   have hx := xor_u8 (xs.getD k 0) x
   change bits .xor .u8 (nth xs k : Int) _ = _ at hx
   have HE : Hid ((xs.take (k + 1)).map (· ^^^ x) = (xs.take k).map (· ^^^ x) ++ [xs.getD k 0 ^^^ x]) := by
    show _ = _
    rw [take_snoc_getD (by rw [R.out.1]; omega), List.map_append]; rfl
   generalize xs.getD k 0 ^^^ x = y at *
   go_wp2_with (at_builtin; refine wpList_push isU8 rfl _ _ rfl rfl rfl HO.out HB.out hsz (by omega) y rfl ?_; intro v1 w2 hown1 hbel1 hsz1)
   go_roundw
   case rel => exact ⟨k + 1, by omega, by go_num, by rw [HE.out]; exact hown1, hbel1⟩
   case measure => simp [intOf]; omega
  ·obtain rfl : k = 64 := by have := HK.out; omega
   go_wp2_with fail
   go_ret
   have e : xs.take 64 = xs := List.take_of_length_le (by rw [R.out.1]; exact Nat.le_refl _)
   have h := HO.out
   rw [e] at h
   exact RetB.mk h HB.out
theorem wMasks (A : Option Addr) (n c : Nat) (k : List UInt8) (w : World) (hp : Pr w) (ha : Rd w w.heap.size A n k) (hn : n ≤ 1000000000) (hc : n ≤ c) (hc' : c ≤ 9223372036854775807) :
  Calls Tryz.prog 161 #[.slice A n c] w fun e w' => ∃ g, e = .returned (.func (.func 188) #[] #[.pointer (some ⟨g, 0, none⟩)]) ∧ MaskAt w' g (padTo (shortL k) 64) ∧ Below w.heap.size w w' := by
 have HA := qH ha
 have HP := qH hp
 have HL := qH (shortL_len k)
 have HPL := qH (pad_len k)
 clear hp ha
 have hmf : ∀ (fn : Fn) (first cap : Array Value) (w : World), (Instr.makeFunc fn first cap).run Tryz.prog w = .ok (.func fn first cap) w := fun _ _ _ _ => rfl
 go_enter Tryz.func161, Tryz.ntmps161
 go_wp2_with fail
 refine (wShort A n c k w HP.out HA.out hn hc hc').mono ?_
 rintro e w1 ⟨A1, n1, c1, rfl, ho, hcp, hcp', hb⟩
 have S := qH ho.1
 have hn1 : n1 ≤ 64 := by rw [← ho.1.1]; exact HL.out
 have B := qH hb
 clear ho hb
 go_wp2_with fail
 refine (wPadded A1 n1 c1 64 (shortL k) w1 S.out (by omega) (by decide) (by decide)).mono ?_
 rintro e w2 ⟨A2, n2, c2, rfl, hown2, hb⟩
 obtain rfl : n2 = 64 := (Rd.of_own hown2).1.symm.trans HPL.out
 have U := qH (Rd.of_own hown2)
 clear hown2
 replace B := qH (B.out.trans (hb.mono B.out.size))
 clear hb
 go_wp2_with fail
 go_ret
 exact ⟨w2.heap.size, rfl, ⟨by simp, A2, c2, by rw [World.cell?_alloc_at _ _ _ _ (by rfl)]; rfl, U.out.grow _⟩, B.out.alloc B.out.size _⟩
theorem wHmac (A A' : Option Addr) (n m c d : Nat) (k bs : List UInt8) (w : World) (hp : Pr w) (ha : Rd w w.heap.size A n k) (hb : Rd w w.heap.size A' m bs) (hn : n ≤ 1000000000) (hc : n ≤ c) (hc' : c ≤ 9223372036854775807) (hm : m ≤ 999999000) :
  Calls Tryz.prog 113 #[.slice A n c, .slice A' m d] w fun e w' => e = .returned (.agg (arrB (hmacL k bs))) ∧ Below w.heap.size w w' := by
 have hz := tag_zero
 have HX : Hid (hmacL k bs = shaL (maskL k 92 ++ shaL (maskL k 54 ++ bs))) := rfl
 have HM1 := qH (maskL_len k 54)
 have HM2 := qH (maskL_len k 92)
 have HP1 := qH (mask_pad k 54)
 have HP2 := qH (mask_pad k 92)
 have T0 : Hid (TagAt (w.alloc (.cells (arrB zeros32) 23)) w.heap.size zeros32) := ⟨rfl, heap_alloc_last w _⟩
 have B : Hid (Below w.heap.size w (w.alloc (.cells (arrB zeros32) 23))) := (Below.refl _ _).alloc (Nat.le_refl _) _
 have P := qH (hp.to B.out)
 have R := qH (ha.to B.out)
 have S := qH (hb.to B.out)
 clear ha hb hp
 go_enter Tryz.func113, Tryz.ntmps113
 go_wp2_with fail
 generalize w.alloc (.cells (arrB zeros32) 23) = w0 at *
 refine (wMasks A n c k w0 P.out R.out hn hc hc').mono ?_
 generalize padTo (shortL k) 64 = pd at *
 rintro e w1 ⟨gm, rfl, hma, hb⟩
 have MA := qH hma
 replace T0 := qH (T0.out.below hb)
 replace P := qH (P.out.to hb)
 clear hma R
 replace S := qH (S.out.to hb)
 replace B := qH (B.out.trans (hb.mono B.out.size))
 clear hb
 go_wp2_with fail
 refine (wMask gm pd 54 w1 MA.out).mono ?_
 rw [HP1.out]
 generalize maskL k 54 = mi at *
 rintro e w2 ⟨A2, n2, c2, rfl, hown2, hb⟩
 obtain rfl : n2 = 64 := (Rd.of_own hown2).1.symm.trans HM1.out
 have U := qH (Rd.of_own hown2)
 replace T0 := qH (T0.out.below hb)
 replace P := qH (P.out.to hb)
 replace MA := qH (MA.out.to hb)
 clear hown2
 replace S := qH (S.out.to hb)
 replace B := qH (B.out.trans (hb.mono B.out.size))
 clear hb
 go_wp2_with fail
 refine (wCat2 A2 A' 64 m c2 d mi bs w2 U.out S.out (by omega)).mono ?_
 rintro e w3 ⟨A3, n3, c3, rfl, hown3, hb⟩
 have M := qH (Rd.of_own hown3)
 obtain ⟨hcp3, hcp3'⟩ := own_cap hown3
 obtain rfl : n3 = 64 + m := by rw [← M.out.1, List.length_append, HM1.out, S.out.1]
 replace T0 := qH (T0.out.below hb)
 replace P := qH (P.out.to hb)
 replace MA := qH (MA.out.to hb)
 clear hown3 U S
 replace B := qH (B.out.trans (hb.mono B.out.size))
 clear hb
 go_wp2_with fail
 refine (wSha A3 (64 + m) c3 _ w3 P.out M.out (by omega) hcp3 hcp3').mono ?_
 generalize hin : shaL (mi ++ bs) = ti at *
 have HI := qH hin
 have hti : ti.length = 32 := by rw [← hin]; exact shaL_len _
 have HTI := qH hti
 clear hin hti
 rintro e w4 ⟨rfl, hb⟩
 replace T0 := qH (T0.out.below hb)
 replace P := qH (P.out.to hb)
 replace MA := qH (MA.out.to hb)
 clear M
 replace B := qH (B.out.trans (hb.mono B.out.size))
 clear hb
 have S1 := qH (tag_size HTI.out)
 have E1 : Hid ((arrB zeros32).size = (arrB ti).size) := by
  show _ = _
  rw [arrB_size, arrB_size, HTI.out]; rfl
 go_wp2_with (refine wpList_store_row rfl 23 _ _ rfl w4.heap.size (arrB ti) rfl rfl 23 (arrB zeros32) (heap_alloc_last w4 _) S1.out E1.out (arrB_one _) ?_; rw [World.setRow_alloc_new])
 have hb1 : Below w4.heap.size w4 (w4.alloc (.cells (arrB ti) 23)) := (Below.refl _ _).alloc (Nat.le_refl _) _
 have HGL : Hid (w.heap.size < w4.heap.size) := heap_at_lt T0.out.2
 have T1 : Hid (TagAt (w4.alloc (.cells (arrB ti) 23)) w4.heap.size ti) := ⟨HTI.out, heap_alloc_last w4 _⟩
 replace T0 := qH (T0.out.below hb1)
 replace P := qH (P.out.to hb1)
 replace MA := qH (MA.out.to hb1)
 replace B := qH (B.out.trans (hb1.mono B.out.size))
 clear hb1
 clear E1 hz
 generalize w4.heap.size = g at *
 generalize w4.alloc (.cells (arrB ti) 23) = w5 at *
 have hsa := tag_sliceAll g
 have P5 : Hid (Pr w5.drew) := P.out
 have MA5 : Hid (MaskAt w5.drew gm pd) := MA.out
 replace T0 : Hid (TagAt w5.drew w.heap.size zeros32) := T0.out
 replace T1 : Hid (TagAt w5.drew g ti) := T1.out
 replace B := qH B.out.drew
 have BT := qH (Below.refl w5.drew.heap.size w5.drew)
 clear P MA
 generalize hwd : w5.drew = wd at *
 have HWD := qH hwd
 clear hwd
 have S2 := qH (tag_size (hmacL_len k bs))
 have HC96 : Hid ((maskL k 92 ++ ti).length = 96) := by (show _ = _); rw [List.length_append, HM2.out, HTI.out]
 have E0 : Hid ((arrB zeros32).size = (arrB (hmacL k bs)).size) := by
  show _ = _
  rw [arrB_size, arrB_size, hmacL_len]; rfl
 refine wp_region_held_drew (S := (fun _ => True)) (by kernel_rfl) (trivial) (fun hHeld => ?_)
 rw [HWD.out]
 refine tk 0 ?_
 simp only [pR]
 refine tk 2 ?_
 simp only [pR]
 refine rd1 1 (fun K hK => ?_)
 go_simp
 refine (wMask gm pd 92 _ MA5.out).mono ?_
 rw [HP2.out]
 generalize maskL k 92 = mo at *
 rintro e w6 ⟨A6, n6, c6, rfl, hown6, hb⟩
 obtain rfl : n6 = 64 := (Rd.of_own hown6).1.symm.trans HM2.out
 have U := qH (Rd.of_own hown6)
 have V := qH (T1.out.rd.to hb)
 replace P5 := qH (P5.out.to hb)
 replace BT := qH (BT.out.trans (hb.mono BT.out.size))
 clear hown6 hb MA5
 go_wp2_with fail
 refine hK.out _ _ (trivial) (fun hHeld => ?_)
 clear hK K
 refine rd1 3 (fun K hK => ?_)
 go_simp
 refine hK.out _ _ (trivial) (fun hHeld => ?_)
 clear hK K
 refine rd1 4 (fun K hK => ?_)
 go_simp
 refine (wCat2 A6 (some ⟨g, 0, none⟩) 64 32 c6 32 mo ti w6 U.out V.out (by decide)).mono ?_
 rintro e w8 ⟨A8, n8, c8, rfl, hown8, hb⟩
 have M := qH (Rd.of_own hown8)
 obtain ⟨hcap8, hcap8'⟩ := own_cap hown8
 obtain rfl : n8 = 96 := (Rd.of_own hown8).1.symm.trans HC96.out
 replace P5 := qH (P5.out.to hb)
 replace BT := qH (BT.out.trans (hb.mono BT.out.size))
 clear hb hown8 U V
 go_wp2_with fail
 refine hK.out _ _ (trivial) (fun hHeld => ?_)
 clear hK K
 refine rd1 5 (fun K hK => ?_)
 go_simp
 refine (wSha A8 96 c8 _ _ P5.out M.out (by decide) hcap8 hcap8').mono ?_
 rintro e w9 ⟨rfl, hb⟩
 rw [← HX.out]
 replace BT := qH (BT.out.trans (hb.mono BT.out.size))
 clear hb M
 go_wp2_with fail
 refine hK.out _ _ (trivial) (fun hHeld => ?_)
 clear hK K
 have TT := qH (T0.out.below BT.out)
 refine rd1 6 (fun K hK => ?_)
 rw [if_pos (by rfl)]
 refine wp_store_row0 23 _ _ rfl rfl w.heap.size (arrB (hmacL k bs)) rfl rfl 23 _ TT.out.2 S2.out E0.out (arrB_one _) ?_
 refine hK.out _ _ (trivial) (fun hHeld => ?_)
 clear hK K
 refine wpAnyH_done (by kernel_rfl) ?_ _
 have BB := qH (below_setRow (B.out.trans (BT.out.mono B.out.size)) (Nat.le_refl _) (arrB (hmacL k bs)) (g := w.heap.size))
 replace TT := qH (TT.out.setRow (hmacL_len k bs))
 generalize w9.setRow w.heap.size (arrB (hmacL k bs)) = w10 at *
 clear hHeld
 go_wp2_with fail
 (try simp only [Exit.inBlock, Exit.then])
 refine bodyPost_ret (v := .agg (arrB (hmacL k bs))) ?_ rfl ⟨rfl, BB.out⟩
 exact results_cell_row rfl _ _ w.heap.size 23 (arrB (hmacL k bs)) (0, 0) _ rfl TT.out.2 Tryz.underlying23 rfl S2.out
end
section
open Go.RowKit Go.ChangeShapes Go.WideShapes Go.Deep
theorem rowsE_info : (Tryz.prog.info? 31).map (fun i => (i.zero, i.size, i.bytes)) = some (some (.slice none 0 0), 1, 24) := by kernel_rfl
theorem rows_own {w : World} {B g n c : Nat} {vs : List Value} {bss : List (List UInt8)} (h : w.ownsRow B 31 1 (.slice (some ⟨g, 0, none⟩) n c) n vs) (hl : bss.length = n)
  (hv : ∀ j, j < n → ∃ A1 n1 c1, vs[j]? = some (.slice A1 n1 c1) ∧ Rd w w.heap.size A1 n1 (bss.getD j []) ∧ n1 ≤ c1 ∧ c1 ≤ 9223372036854775807) :
  RdS w w.heap.size (some ⟨g, 0, none⟩) n bss ∧ CapS w (some ⟨g, 0, none⟩) n := by
 have hlt : 0 < n → g < w.heap.size := fun h0 => by
  obtain ⟨g', cap, hv', _, hlt⟩ := h.form h0
  simp only [Value.slice.injEq, Option.some.injEq, Addr.mk.injEq, and_true] at hv'
  obtain ⟨rfl, _⟩ := hv'
  exact hlt
 refine ⟨⟨hl, fun h0 => ⟨g, 0, rfl, hlt h0, fun j hj => ?_⟩⟩, fun b o e j hj A1 n1 c1 hc => ?_⟩
 ·obtain ⟨A1, n1, c1, h1, h2, _⟩ := hv j hj
  refine ⟨A1, n1, c1, ?_, h2⟩
  rw [Nat.zero_add, h.cellAt j (by omega)]; exact h1
 ·injection e with e
  injection e with e1 e2
  subst e1; subst e2
  obtain ⟨A2, n2, c2, h1, _, h3, h4⟩ := hv j hj
  rw [Nat.zero_add, h.cellAt j (by omega), h1] at hc
  injection hc with hc
  injection hc with _ h6 h7
  subst h6; subst h7
  exact ⟨h3, h4⟩
end
section
open Go.RowKit
theorem Rd.grown {w w' : World} {n : Nat} {A : Option Addr} {bs : List UInt8} {row : Option Nat} (h : Rd w w.heap.size A n bs) (hg : w.grownBy w' row) (hne : 0 < n → ∀ b o, A = some ⟨b, o, none⟩ → row ≠ some b) : Rd w' w'.heap.size A n bs :=
 ⟨h.1, fun hn => by
  obtain ⟨b, o, e, hb, hc⟩ := h.2 hn
  refine ⟨b, o, e, Nat.lt_of_lt_of_le hb hg.size, fun j hj => ?_⟩
  rw [← hc j hj]
  exact World.cell?_of_block (hg.block b hb (hne hn b o e).symm)⟩
def RowsO (w : World) (B : Nat) (v : Value) (k : Nat) (rows : List (List UInt8)) : Prop :=
 ∃ vs, w.ownsRow B 31 1 v k vs ∧ rows.length = k ∧ ∀ j, j < k → ∃ A n c, vs[j]? = some (.slice A n c) ∧ Rd w w.heap.size A n (rows.getD j []) ∧ (0 < n → ∀ b o, A = some ⟨b, o, none⟩ → v.ownBlock ≠ some b) ∧ n ≤ c ∧ c ≤ 9223372036854775807
theorem RowsO.to {w w' : World} {B : Nat} {v : Value} {k : Nat} {rows : List (List UInt8)} (h : RowsO w B v k rows) (hb : Below w.heap.size w w') : RowsO w' B v k rows := by
 obtain ⟨vs, h1, h2, h3⟩ := h
 refine ⟨vs, own_below h1 hb, h2, fun j hj => ?_⟩
 obtain ⟨A, n, c, e, hr, hne, hc⟩ := h3 j hj
 exact ⟨A, n, c, e, hr.to hb, hne, hc⟩
theorem RowsO.lt {w : World} {B : Nat} {v : Value} {k : Nat} {rows : List (List UInt8)} (h : RowsO w B v k rows) (g : Nat) (hg : v.ownBlock = some g) : g < w.heap.size := by
 obtain ⟨vs, h1, _⟩ := h
 exact (h1.lt g hg).2
theorem RowsO.rdS {w : World} {B : Nat} {v : Value} {k : Nat} {rows : List (List UInt8)} (h : RowsO w B v k rows) (hk : 0 < k) : ∃ A c, v = .slice A k c ∧ RdS w w.heap.size A k rows := by
 obtain ⟨vs, h1, h2, h3⟩ := h
 obtain ⟨A, c, rfl⟩ := own_slice h1
 obtain ⟨g, rfl, _⟩ := own_head h1 hk
 refine ⟨_, c, rfl, (rows_own h1 h2 fun j hj => ?_).1⟩
 obtain ⟨A, n, c, e, hr, _, hc⟩ := h3 j hj
 exact ⟨A, n, c, e, hr, hc⟩
theorem wpList_rowsPush {ops : Array Oper} {rest : List Oper} {o : Oper} {a : Act} {Q : Exit → Act → World → Prop} (hgd : o.guard = none) (s x : Operand)
  (ho : o.op = .call { callee := .builtin .append, args := #[s, x], argTypes := #[167, 167] }) {B k n c : Nat} {A : Option Addr} {w wr : World} {v : Value} {rows : List (List UInt8)} {row : List UInt8} (hs : a.eval s = v)
  (hx : a.eval x = .slice (some ⟨wr.heap.size, 0, none⟩) 1 1) (hown : RowsO wr B v k rows) (hr : Rd wr wr.heap.size A n row) (hc : n ≤ c) (hc' : c ≤ 9223372036854775807) (hne : 0 < n → ∀ b o, A = some ⟨b, o, none⟩ → v.ownBlock ≠ some b)
  (hb : Below B w wr) (hB : B ≤ wr.heap.size) (hk : k + 1 ≤ 1000)
  (h : ∀ v' w1, RowsO w1 B v' (k + 1) (rows ++ [row]) → Below B w w1 → wr.heap.size ≤ w1.heap.size → wpList Tryz.prog ops Q rest (a.put o.dst v') w1) : wpList Tryz.prog ops Q (o :: rest) a (wr.alloc (.cells #[.slice A n c] 31)) := by
 obtain ⟨i0, hi, hz0, hz1, hz2⟩ := info_parts rowsE_info
 have hba : Below wr.heap.size wr (wr.alloc (.cells #[.slice A n c] 31)) := (Below.refl _ _).alloc (Nat.le_refl _) _
 obtain ⟨vs, h10, h2, h3⟩ := hown
 have h1 := own_below h10 hba
 have hsz : (wr.alloc (.cells #[.slice A n c] 31)).heap.size = wr.heap.size + 1 := by simp
 refine wpList_plain hgd fun K hK => ?_
 refine wp_append_lies _ s x _ ho B 31 i0 (.slice none 0 0) 1 24 Tryz.underlying167 hi hz0 hz1 hz2 rfl (by decide) v k _ hs h1 ⟨wr.heap.size, 0, none⟩ 1 1 [.slice A n c] hx rfl (cell_one_new _ _ _) ?_ (by decide) ?_ ?_ (by omega) _ rfl ?_
 ·intro u hu; simp at hu; subst hu; rfl
 ·unfold maxLen; omega
 ·omega
 ·intro g cap w1 hown' hgrow hg _
  have hnew : ∀ b, b < wr.heap.size → v.ownBlock ≠ some b → (Value.slice (some ⟨g, 0, none⟩) (k + 1) cap).ownBlock ≠ some b := by
   intro b hb' hb'' e
   simp only [Value.ownBlock, Option.some.injEq] at e
   subst e
   rcases hg with h | h
   ·exact hb'' h
   ·omega
  have hin : ∀ (A' : Option Addr) (m : Nat) (bs : List UInt8), 0 < m → Rd wr wr.heap.size A' m bs → ∀ b o, A' = some ⟨b, o, none⟩ → b < wr.heap.size := by
   intro A' m bs hm hr b o e
   obtain ⟨b', o', e', hb', _⟩ := hr.2 hm
   rw [e] at e'
   injection e' with e'; injection e' with e1 _
   omega
  have hall : ∀ (A' : Option Addr) (m : Nat) (bs : List UInt8), Rd wr wr.heap.size A' m bs → (0 < m → ∀ b o, A' = some ⟨b, o, none⟩ → v.ownBlock ≠ some b) →
    Rd w1 w1.heap.size A' m bs ∧ (0 < m → ∀ b o, A' = some ⟨b, o, none⟩ → (Value.slice (some ⟨g, 0, none⟩) (k + 1) cap).ownBlock ≠ some b) := fun A' m bs hr hne =>
   ⟨(hr.to hba).grown hgrow hne, fun hm b o e => hnew b (hin A' m bs hm hr b o e) (hne hm b o e)⟩
  refine hK _ _ (h _ w1 ⟨vs ++ [.slice A n c], hown', by rw [List.length_append, h2]; rfl, fun j hj => ?_⟩ ((hb.trans (hba.mono hB)).grown hgrow (by omega) (fun j hj => (h1.lt j hj).1)) (by have := hgrow.size; omega))
  have hvl : vs.length = k := by simpa using h1.1
  rcases Nat.lt_succ_iff_lt_or_eq.1 hj with hlt' | rfl
  ·obtain ⟨A1, n1, c1, e1, hr1, hne1, hcc⟩ := h3 j hlt'
   obtain ⟨hx1, hx2⟩ := hall A1 n1 _ hr1 hne1
   exact ⟨A1, n1, c1, by rw [List.getElem?_append_left (by omega)]; exact e1, by rw [show (rows ++ [row]).getD j [] = rows.getD j [] from by simp [List.getD, List.getElem?_append_left (show j < rows.length by omega)]]; exact hx1, hx2, hcc⟩
  ·obtain ⟨hx1, hx2⟩ := hall A n row hr hne
   exact ⟨A, n, c, by rw [← hvl]; simp, by rw [← h2]; simpa [List.getD] using hx1, hx2, hc, hc'⟩
def rowsP (lab : List UInt8) (xs : List Int) : List (List UInt8) := [lab, [0]] ++ xs.map fun x => enc (u64N x) 8
theorem rowsP_flat (lab : List UInt8) (xs : List Int) : (rowsP lab xs).flatten = formI lab xs := by
 simp [rowsP, formI, formL, Function.comp_def]
theorem rowsP_snoc (lab : List UInt8) (xs : List Int) (x : Int) : rowsP lab (xs ++ [x]) = rowsP lab xs ++ [enc (u64N x) 8] := by
 simp [rowsP]
def DerRel (w : World) (lab : List UInt8) (xs : List Int) (n : Nat) (v i : Value) (wr : World) : Prop :=
 ∃ k : Nat, k ≤ n ∧ i = .int .i64 (k : Int) ∧ RowsO wr w.heap.size v (2 + k) (rowsP lab (xs.take k)) ∧ Below w.heap.size w wr
theorem wDerive (A A' : Option Addr) (n m c d : Nat) (k : List UInt8) (s : ByteArray) (xs : List Int) (w : World) (hp : Pr w) (ha : Rd w w.heap.size A n k) (hb : RdI w w.heap.size A' m xs) (hn : n ≤ 1000000000) (hc : n ≤ c) (hc' : c ≤ 9223372036854775807) (hs : s.size ≤ 1000000) (hm : m ≤ 900) :
  Calls Tryz.prog 114 #[.slice A n c, .string s, .slice A' m d] w fun e w' => RetR w (hmacL k (formI s.data.toList xs)) e w' := by
 have R := qH ha
 have S := qH hb
 have P := qH hp
 have HL := qH (hmacL_len k (formI s.data.toList xs))
 have HFL := qH (formI_len s.data.toList xs)
 have HS := qH (data_len s)
 have hz := tag_zero
 have kc := Lib.run_convert_string_bytes (P := Tryz.prog) w 9 31 5 s Tryz.underlying9 Tryz.underlying31 Tryz.underlying5
 have hg1 := grownCap_ge w s.size 0 5
 have hg2 := grownCap_le_maxLen w s.size 0 5 (by unfold maxLen; omega)
 obtain ⟨c0, hc0⟩ : ∃ c0, grownCap w s.size 0 5 = c0 := ⟨_, rfl⟩
 rw [hc0] at kc hg1 hg2
 have L0 := qH (rd_bytesWorld w 5 s)
 have B0 := qH (Go.Joins.below_bytesWorld w.heap.size w 5 s (Nat.le_refl _))
 have HBS := qH (Lib.bytesWorld_size w 5 s)
 have HG0 := qH hg1
 have HG2 : Hid (c0 ≤ 9223372036854775807) := by (show _ ≤ _); unfold maxLen at hg2; omega
 obtain ⟨wb, hwb⟩ : ∃ wb, Lib.bytesWorld w 5 s = wb := ⟨_, rfl⟩
 rw [hwb] at kc L0 B0 HBS
 have hw1 : (wb.alloc (.cells #[.int .u8 0] 5)).heap.size = wb.heap.size + 1 := by simp
 have RO : Hid (RowsO ((wb.alloc (.cells #[.int .u8 0] 5)).alloc (.cells #[.slice (some ⟨w.heap.size, 0, none⟩) s.size c0, .slice (some ⟨wb.heap.size, 0, none⟩) 1 1] 31)) w.heap.size (.slice (some ⟨wb.heap.size + 1, 0, none⟩) 2 2) 2 (rowsP s.data.toList (xs.take 0))) := by
  have ho := own_top (w := wb.alloc (.cells #[.int .u8 0] 5)) (B := w.heap.size) [.slice (some ⟨w.heap.size, 0, none⟩) s.size c0, .slice (some ⟨wb.heap.size, 0, none⟩) 1 1] 31 (by rw [hw1]; have := B0.out.size; omega) (by intro u hu; simp at hu; rcases hu with rfl | rfl <;> rfl) (by simp)
  rw [hw1] at ho
  refine ⟨_, ho, rfl, fun j hj => ?_⟩
  rcases j with _ | _ | j
  ·refine ⟨_, _, _, rfl, (L0.out.grow _).grow _, fun _ b o e => ?_, HG0.out, HG2.out⟩
   injection e with e; injection e with e1 _
   subst e1
   simp only [Value.ownBlock]
   intro h; injection h with h; have := HBS.out; omega
  ·refine ⟨_, _, _, rfl, (show Rd (wb.alloc (.cells #[.int .u8 0] 5)) (wb.alloc (.cells #[.int .u8 0] 5)).heap.size _ _ [0] by rw [hw1]; exact Rd.lit [0] [.int .u8 0] _ rfl).grow _, fun _ b o e => ?_, by decide, by decide⟩
   injection e with e; injection e with e1 _
   subst e1
   simp only [Value.ownBlock]
   intro h; injection h with h; omega
  ·omega
 have B1 : Hid (Below w.heap.size w ((wb.alloc (.cells #[.int .u8 0] 5)).alloc (.cells #[.slice (some ⟨w.heap.size, 0, none⟩) s.size c0, .slice (some ⟨wb.heap.size, 0, none⟩) 1 1] 31))) := (B0.out.alloc B0.out.size _).alloc (by rw [hw1]; have := B0.out.size; omega) _
 clear ha hb hp hc0 hwb hg1 hg2 L0 B0 HBS HG0 HG2 hw1
 go_enter Tryz.func114, Tryz.ntmps114
 go_wp2_with fail
 go_loopw [7, 9, 17] (fun v _ i wr => DerRel w s.data.toList xs m v i wr) (fun _ _ i _ => m - (intOf i).toNat)
 case atStart => exact ⟨0, Nat.zero_le _, rfl, RO.out, B1.out⟩
 case round =>
  obtain ⟨j, hj, rfl, hown, hb⟩ := hrel
  have HO := qH hown
  have HB := qH hb
  have HK := qH hj
  clear hown hb hj RO B1 kc
  by_cases hlt : j < m
  ·obtain ⟨b, o, rfl, hbo, hcc⟩ := S.out.2 (by omega)
   have hcell : wr.cell? ⟨b, o + j, none⟩ = some (.int .i64 (xs.getD j 0)) := (HB.out.cell hbo).trans (hcc j hlt)
   clear hcc
   have HE := qH (take_snoc_I (xs := xs) (k := j) (by rw [S.out.1]; exact hlt))
   have h64 : IntKind.u64.wrap (xs.getD j 0) = (u64N (xs.getD j 0) : Int) := by rw [← u64N_eq]; simp only [IntKind.wrap_u64]
   have hltu := qH (u64N_lt (xs.getD j 0))
   have HF := qH (rowsP_snoc s.data.toList (xs.take j) (xs.getD j 0))
   generalize xs.getD j 0 = x at *
   generalize u64N x = y at *
   go_wp2_with fail
   refine (wPut64 y wr hltu.out).mono ?_
   rintro e w2 ⟨A2, n2, c2, rfl, hown2, hb⟩
   obtain rfl : n2 = 8 := by rw [← (Rd.of_own hown2).1, enc_len]
   have U := qH (Rd.of_own hown2)
   obtain ⟨hcp2, hcp2'⟩ := own_cap hown2
   have HNE : Hid (0 < 8 → ∀ b o, A2 = some ⟨b, o, none⟩ → u7.ownBlock ≠ some b) := fun h8 b' o' e h => by
    obtain ⟨g, e2, hg⟩ := own_head hown2 h8
    rw [e] at e2
    injection e2 with e2; injection e2 with e2 _
    have := HO.out.lt b' h
    omega
   have O2 := qH (HO.out.to hb)
   have B2 := qH (HB.out.trans (hb.mono HB.out.size))
   clear hown2 hb hcell h64
   have HLT := qH hlt
   have hki : (j : Int) < 1000000 := by omega
   go_wp2_with (at_builtin; refine wpList_rowsPush (v := u7) rfl _ _ rfl rfl rfl O2.out U.out hcp2 hcp2' HNE.out B2.out B2.out.size (by have := HLT.out; omega) ?_; intro v3 w3 hown3 hbel3 hsz3)
   go_roundw
   case rel => exact ⟨j + 1, HLT.out, by go_num, by rw [HE.out, HF.out, show 2 + (j + 1) = 2 + j + 1 from by omega]; exact hown3, hbel3⟩
   case measure => simp [intOf]; omega
  ·obtain rfl : j = m := by have := HK.out; omega
   rw [List.take_of_length_le (by rw [S.out.1]; exact Nat.le_refl _)] at HO
   obtain ⟨A3, c3, rfl, hrs⟩ := HO.out.rdS (by omega)
   have RS := qH hrs
   have HFT := qH (rowsP_flat s.data.toList xs)
   have R1 := qH (R.out.to HB.out)
   have P1 := qH (P.out.to HB.out)
   have hfl : (rowsP s.data.toList xs).flatten.length ≤ 1007201 := by rw [HFT.out, HFL.out, HS.out, S.out.1]; omega
   have HFLL := qH hfl
   clear hrs hfl HO R P
   go_wp2_with fail
   refine (wCat A3 (2 + j) c3 (rowsP s.data.toList xs) wr RS.out (by omega) (by have := HFLL.out; omega)).mono ?_
   rw [HFT.out]
   rintro e w4 ⟨A4, n4, c4, rfl, hown4, hb⟩
   have U := qH (Rd.of_own hown4)
   have hn4 : n4 ≤ 1007201 := by rw [← U.out.1, ← HFT.out]; exact HFLL.out
   replace R1 := qH (R1.out.to hb)
   replace P1 := qH (P1.out.to hb)
   have B4 := qH (HB.out.trans (hb.mono HB.out.size))
   clear hown4 hb HB
   go_wp2_with fail
   refine (wHmac A A4 n n4 c c4 k _ w4 P1.out R1.out U.out hn hc hc' (by omega)).mono ?_
   obtain ⟨t, ht⟩ : ∃ t, hmacL k (formI s.data.toList xs) = t := ⟨_, rfl⟩
   rw [ht] at HL
   have HT := qH ht
   clear ht
   rintro e w5 ⟨rfl, hb⟩
   rw [HT.out]
   replace B4 := qH (B4.out.trans (hb.mono B4.out.size))
   clear hb R1 P1
   have S1 := qH (tag_size HL.out)
   have E1 : Hid ((arrB zeros32).size = (arrB t).size) := by
    show _ = _
    rw [arrB_size, arrB_size, HL.out]; rfl
   go_wp2_with (refine wpList_store_row rfl 23 _ _ rfl w5.heap.size (arrB t) rfl rfl 23 (arrB zeros32) (heap_alloc_last w5 _) S1.out E1.out (arrB_one _) ?_; rw [World.setRow_alloc_new])
   have hb1 : Below w5.heap.size w5 (w5.alloc (.cells (arrB t) 23)) := (Below.refl _ _).alloc (Nat.le_refl _) _
   have T1 : Hid (TagAt (w5.alloc (.cells (arrB t) 23)) w5.heap.size t) := ⟨HL.out, heap_alloc_last w5 _⟩
   have HG : Hid (w.heap.size ≤ w5.heap.size) := B4.out.size
   replace B4 := qH (B4.out.trans (hb1.mono B4.out.size))
   clear hb1 E1 hz
   generalize w5.heap.size = g at *
   generalize w5.alloc (.cells (arrB t) 23) = w6 at *
   have hsa := tag_sliceAll g
   go_wp2_with fail
   go_ret
   rw [HT.out]
   exact ⟨_, _, _, rfl, OwR.tag T1.out HG.out, Nat.le_refl _, by decide, B4.out⟩
end
end Go.Proofs.YtlmdidblgeeplaaGreatDoor