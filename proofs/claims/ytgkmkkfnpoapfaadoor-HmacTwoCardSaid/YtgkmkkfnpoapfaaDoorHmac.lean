/- Contracts of the program's hmac: Short, masks, Sum. -/
import Derived.Test.YtgkmkkfnpoapfaaDoorHmacRefO
import Derived.Test.YtgkmkkfnpoapfaaDoorShaI
import Derived.Test.YtgkmkkfnpoapfaaDoorPad
namespace Go.Proofs.YtgkmkkfnpoapfaaDoor
open Go.RowKit
set_option linter.unusedVariables false
set_option linter.unusedSimpArgs false

theorem mask_pad (k : List UInt8) (x : UInt8) : (padTo (shortL k) 64).map (· ^^^ x) = maskL k x := by
  have hl := shortL_len k
  have hp : (padTo (shortL k) 64).length = 64 := by
    unfold padTo
    rw [List.length_append, List.length_replicate, show (min (64 : Int) 65536).toNat = 64 from rfl]; omega
  refine List.ext_getElem (by rw [List.length_map, hp, maskL_len]) fun i h1 h2 => ?_
  have hi : i < 64 := by rw [maskL_len] at h2; exact h2
  rw [List.getElem_map]
  simp only [maskL, List.getElem_map, List.getElem_range]
  congr 1
  simp only [padTo, List.getElem_append]
  split
  · rename_i h
    simp [List.getD, h]
  · rename_i h
    simp [List.getD, List.getElem?_eq_none (by omega : (shortL k).length ≤ i)]
theorem pad_len (k : List UInt8) : (padTo (shortL k) 64).length = 64 := by
  have hl := shortL_len k
  unfold padTo
  rw [List.length_append, List.length_replicate, show (min (64 : Int) 65536).toNat = 64 from rfl]; omega

set_option maxRecDepth 1000000 in
set_option maxHeartbeats 1000000 in
theorem wShort (A : Option Addr) (n c : Nat) (k : List UInt8) (w : World) (hp : Pr w) (ha : Rd w w.heap.size A n k) (hn : n ≤ 1000000000) (hc : n ≤ c) (hc' : c ≤ 9223372036854775807) :
    Calls Tryd.prog 8 #[.slice A n c] w fun e w' => RetR w (shortL k) e w' := by
  have HA := Lib.hid ha
  have HP := Lib.hid hp
  clear hp ha
  by_cases h64 : n ≤ 64
  · have HE : Hid (shortL k = k) := if_pos (by rw [HA.out.1]; exact h64)
    go_enter Tryd.func8, Tryd.ntmps8
    go_wp2_with fail
    refine (wCat1 A n c k w HA.out (by omega)).mono ?_
    rintro e w1 h
    have H := Lib.hid h.toR
    obtain ⟨A1, n1, c1, rfl, _, _⟩ := h
    go_wp2_with fail
    go_ret
    rw [HE.out]
    exact H.out
  · have HE : Hid (shortL k = shaL k) := if_neg (by rw [HA.out.1]; exact h64)
    have hz := tag_zero
    go_enter Tryd.func8, Tryd.ntmps8
    go_wp2_with fail
    refine (wSha A n c k w HP.out HA.out hn hc hc').mono ?_
    have HL := Lib.hid (shaL_len k)
    obtain ⟨t, ht⟩ : ∃ t, shaL k = t := ⟨_, rfl⟩
    rw [ht] at HE HL
    have HT := Lib.hid ht
    clear ht
    rintro e w1 ⟨rfl, hb⟩
    rw [HT.out]
    have B := Lib.hid hb
    clear hb
    have S1 := Lib.hid (tag_size HL.out)
    have E1 : Hid ((arrB zeros32).size = (arrB t).size) := by
      show _ = _
      rw [arrB_size, arrB_size, HL.out]; rfl
    go_wp2_with (refine wpList_store_row rfl 25 _ _ rfl w1.heap.size (arrB t) rfl rfl 25 (arrB zeros32) (heap_alloc_last w1 _) S1.out E1.out (arrB_one _) ?_; rw [World.setRow_alloc_new])
    have hb1 : Below w1.heap.size w1 (w1.alloc (.cells (arrB t) 25)) := (Below.refl _ _).alloc (Nat.le_refl _) _
    have T1 : Hid (TagAt (w1.alloc (.cells (arrB t) 25)) w1.heap.size t) := ⟨HL.out, heap_alloc_last w1 _⟩
    have HG : Hid (w.heap.size ≤ w1.heap.size) := B.out.size
    replace B := Lib.hid (B.out.trans (hb1.mono B.out.size))
    clear hb1
    clear E1 hz
    generalize w1.heap.size = g at *
    generalize w1.alloc (.cells (arrB t) 25) = w2 at *
    have hsa := tag_sliceAll g
    go_wp2_with fail
    go_ret
    rw [HE.out]
    exact ⟨_, _, _, rfl, OwR.tag T1.out HG.out, Nat.le_refl _, by decide, B.out⟩

/-- The block of the variable that the closure holds: a slice of 64 bytes that reads as xs. -/
def MaskAt (w : World) (g : Nat) (xs : List UInt8) : Prop := g < w.heap.size ∧ ∃ P c, w.cell? ⟨g, 0, none⟩ = some (.slice P 64 c) ∧ Rd w w.heap.size P 64 xs
theorem MaskAt.to {w w' : World} {g : Nat} {xs : List UInt8} (h : MaskAt w g xs) (hb : Below w.heap.size w w') : MaskAt w' g xs := by
  obtain ⟨hg, P, c, hc, hr⟩ := h
  exact ⟨Nat.lt_of_lt_of_le hg hb.size, P, c, (hb.cell hg).trans hc, hr.to hb⟩

def XorR (w1 : World) (xs : List UInt8) (x : UInt8) (v i : Value) (wr : World) : Prop :=
  ∃ k : Nat, k ≤ 64 ∧ i = .int .i64 (k : Int) ∧ wr.ownsRow w1.heap.size 5 1 v k (((xs.take k).map (· ^^^ x)).map bval) ∧ Below w1.heap.size w1 wr

set_option maxRecDepth 1000000 in
set_option maxHeartbeats 1000000 in
theorem wMask (g : Nat) (xs : List UInt8) (x : UInt8) (w : World) (hm : MaskAt w g xs) :
    Calls Tryd.prog 35 #[.int .u8 (x.toNat : Int), .pointer (some ⟨g, 0, none⟩)] w fun e w' => RetB 5 w (xs.map (· ^^^ x)) e w' := by
  have HM := Lib.hid hm
  clear hm
  go_enter Tryd.func35, Tryd.ntmps35
  obtain ⟨hg, P, c, hc, hr⟩ := HM.out
  have R := Lib.hid hr
  have HC := Lib.hid hc
  clear hr hc
  go_wp2_with (at_make; refine wpList_makeB0 isU8 rfl _ _ rfl 64 rfl rfl (by decide) (by decide) (Below.refl w.heap.size w) (Nat.le_refl _) ?_; intro w1 hown1 hbel1 hsz1; have hcell : w1.cell? ⟨g, 0, none⟩ = some (.slice P 64 c) := (hbel1.cell hg).trans HC.out)
  have HSZ := Lib.hid hbel1.size
  go_loopw [4, 6, 10] (fun v _ i wr => XorR w xs x v i wr) (fun _ _ i _ => 64 - (intOf i).toNat)
  case atStart => exact ⟨0, Nat.zero_le _, rfl, by simpa using hown1, hbel1⟩
  case round =>
    obtain ⟨k, hk, rfl, hown, hb⟩ := hrel
    have HO := Lib.hid hown
    have HB := Lib.hid hb
    have HK := Lib.hid hk
    have hsz := hb.size
    clear hown hb hk hcell hown1 hbel1 hsz1
    by_cases h64 : (k : Int) < 64
    · obtain ⟨b, o, rfl, hbo, hcc⟩ := R.out.2 (by decide)
      have hcell : wr.cell? ⟨b, o + k, none⟩ = some (.int .u8 (nth xs k : Int)) := (HB.out.cell hbo).trans (hcc k (by omega))
      clear hcc
      have hx := xor_u8 (xs.getD k 0) x
      change bits .xor .u8 (nth xs k : Int) _ = _ at hx
      have HE : Hid ((xs.take (k + 1)).map (· ^^^ x) = (xs.take k).map (· ^^^ x) ++ [xs.getD k 0 ^^^ x]) := by
        show _ = _
        rw [take_snoc_getD (by rw [R.out.1]; omega), List.map_append]; rfl
      generalize xs.getD k 0 ^^^ x = y at *
      go_wp2_with (at_builtin; refine wpList_push isU8 rfl _ _ rfl rfl rfl HO.out HB.out hsz (by omega) y rfl ?_; intro v1 w2 hown1 hbel1 hsz1)
      go_roundw
      case rel => exact ⟨k + 1, by omega, by go_num, by rw [HE.out]; exact hown1, hbel1⟩
      case measure => simp [intOf]; omega
    · obtain rfl : k = 64 := by have := HK.out; omega
      go_wp2_with fail
      go_ret
      have e : xs.take 64 = xs := List.take_of_length_le (by rw [R.out.1]; exact Nat.le_refl _)
      have h := HO.out
      rw [e] at h
      exact RetB.mk h HB.out

set_option maxRecDepth 1000000 in
set_option maxHeartbeats 1000000 in
theorem wMasks (A : Option Addr) (n c : Nat) (k : List UInt8) (w : World) (hp : Pr w) (ha : Rd w w.heap.size A n k) (hn : n ≤ 1000000000) (hc : n ≤ c) (hc' : c ≤ 9223372036854775807) :
    Calls Tryd.prog 24 #[.slice A n c] w fun e w' => ∃ g, e = .returned (.func (.func 35) #[] #[.pointer (some ⟨g, 0, none⟩)]) ∧ MaskAt w' g (padTo (shortL k) 64) ∧ Below w.heap.size w w' := by
  have HA := Lib.hid ha
  have HP := Lib.hid hp
  have HL := Lib.hid (shortL_len k)
  have HPL := Lib.hid (pad_len k)
  clear hp ha
  have hmf : ∀ (fn : Fn) (first cap : Array Value) (w : World), (Instr.makeFunc fn first cap).run Tryd.prog w = .ok (.func fn first cap) w := fun _ _ _ _ => rfl
  go_enter Tryd.func24, Tryd.ntmps24
  go_wp2_with fail
  refine (wShort A n c k w HP.out HA.out hn hc hc').mono ?_
  rintro e w1 ⟨A1, n1, c1, rfl, ho, hcp, hcp', hb⟩
  have S := Lib.hid ho.1
  have hn1 : n1 ≤ 64 := by rw [← ho.1.1]; exact HL.out
  have B := Lib.hid hb
  clear ho hb
  go_wp2_with fail
  refine (wPadded A1 n1 c1 64 (shortL k) w1 S.out (by omega) (by decide) (by decide)).mono ?_
  rintro e w2 ⟨A2, n2, c2, rfl, hown2, hb⟩
  obtain rfl : n2 = 64 := (Rd.of_own hown2).1.symm.trans HPL.out
  have U := Lib.hid (Rd.of_own hown2)
  clear hown2
  replace B := Lib.hid (B.out.trans (hb.mono B.out.size))
  clear hb
  go_wp2_with fail
  go_ret
  exact ⟨w2.heap.size, rfl, ⟨by simp, A2, c2, by rw [World.cell?_alloc_at _ _ _ _ (by rfl)]; rfl, U.out.grow _⟩, B.out.alloc B.out.size _⟩

set_option maxRecDepth 1000000 in
set_option maxHeartbeats 1000000 in
theorem wHmac (A A' : Option Addr) (n m c d : Nat) (k bs : List UInt8) (w : World) (hp : Pr w) (ha : Rd w w.heap.size A n k) (hb : Rd w w.heap.size A' m bs) (hn : n ≤ 1000000000) (hc : n ≤ c) (hc' : c ≤ 9223372036854775807) (hm : m ≤ 999999000) :
    Calls Tryd.prog 9 #[.slice A n c, .slice A' m d] w fun e w' => e = .returned (.agg (arrB (hmacL k bs))) ∧ Below w.heap.size w w' := by
  have hz := tag_zero
  have HX : Hid (hmacL k bs = shaL (maskL k 92 ++ shaL (maskL k 54 ++ bs))) := rfl
  have HM1 := Lib.hid (maskL_len k 54)
  have HM2 := Lib.hid (maskL_len k 92)
  have HP1 := Lib.hid (mask_pad k 54)
  have HP2 := Lib.hid (mask_pad k 92)
  have T0 : Hid (TagAt (w.alloc (.cells (arrB zeros32) 25)) w.heap.size zeros32) := ⟨rfl, heap_alloc_last w _⟩
  have B : Hid (Below w.heap.size w (w.alloc (.cells (arrB zeros32) 25))) := (Below.refl _ _).alloc (Nat.le_refl _) _
  have P := Lib.hid (hp.to B.out)
  have R := Lib.hid (ha.to B.out)
  have S := Lib.hid (hb.to B.out)
  clear ha hb hp
  go_enter Tryd.func9, Tryd.ntmps9
  go_wp2_with fail
  generalize w.alloc (.cells (arrB zeros32) 25) = w0 at *
  refine (wMasks A n c k w0 P.out R.out hn hc hc').mono ?_
  generalize padTo (shortL k) 64 = pd at *
  rintro e w1 ⟨gm, rfl, hma, hb⟩
  have MA := Lib.hid hma
  replace T0 := Lib.hid (T0.out.below hb)
  replace P := Lib.hid (P.out.to hb)
  clear hma R
  replace S := Lib.hid (S.out.to hb)
  replace B := Lib.hid (B.out.trans (hb.mono B.out.size))
  clear hb
  go_wp2_with fail
  refine (wMask gm pd 54 w1 MA.out).mono ?_
  rw [HP1.out]
  generalize maskL k 54 = mi at *
  rintro e w2 ⟨A2, n2, c2, rfl, hown2, hb⟩
  obtain rfl : n2 = 64 := (Rd.of_own hown2).1.symm.trans HM1.out
  have U := Lib.hid (Rd.of_own hown2)
  replace T0 := Lib.hid (T0.out.below hb)
  replace P := Lib.hid (P.out.to hb)
  replace MA := Lib.hid (MA.out.to hb)
  clear hown2
  replace S := Lib.hid (S.out.to hb)
  replace B := Lib.hid (B.out.trans (hb.mono B.out.size))
  clear hb
  go_wp2_with fail
  refine (wCat2 A2 A' 64 m c2 d mi bs w2 U.out S.out (by omega)).mono ?_
  rintro e w3 ⟨A3, n3, c3, rfl, hown3, hb⟩
  have M := Lib.hid (Rd.of_own hown3)
  obtain ⟨hcp3, hcp3'⟩ := own_cap hown3
  obtain rfl : n3 = 64 + m := by rw [← M.out.1, List.length_append, HM1.out, S.out.1]
  replace T0 := Lib.hid (T0.out.below hb)
  replace P := Lib.hid (P.out.to hb)
  replace MA := Lib.hid (MA.out.to hb)
  clear hown3 U S
  replace B := Lib.hid (B.out.trans (hb.mono B.out.size))
  clear hb
  go_wp2_with fail
  refine (wSha A3 (64 + m) c3 _ w3 P.out M.out (by omega) hcp3 hcp3').mono ?_
  generalize hin : shaL (mi ++ bs) = ti at *
  have HI := Lib.hid hin
  have hti : ti.length = 32 := by rw [← hin]; exact shaL_len _
  have HTI := Lib.hid hti
  clear hin hti
  rintro e w4 ⟨rfl, hb⟩
  replace T0 := Lib.hid (T0.out.below hb)
  replace P := Lib.hid (P.out.to hb)
  replace MA := Lib.hid (MA.out.to hb)
  clear M
  replace B := Lib.hid (B.out.trans (hb.mono B.out.size))
  clear hb
  have S1 := Lib.hid (tag_size HTI.out)
  have E1 : Hid ((arrB zeros32).size = (arrB ti).size) := by
    show _ = _
    rw [arrB_size, arrB_size, HTI.out]; rfl
  go_wp2_with (refine wpList_store_row rfl 25 _ _ rfl w4.heap.size (arrB ti) rfl rfl 25 (arrB zeros32) (heap_alloc_last w4 _) S1.out E1.out (arrB_one _) ?_; rw [World.setRow_alloc_new])
  have hb1 : Below w4.heap.size w4 (w4.alloc (.cells (arrB ti) 25)) := (Below.refl _ _).alloc (Nat.le_refl _) _
  have HGL : Hid (w.heap.size < w4.heap.size) := heap_at_lt T0.out.2
  have T1 : Hid (TagAt (w4.alloc (.cells (arrB ti) 25)) w4.heap.size ti) := ⟨HTI.out, heap_alloc_last w4 _⟩
  replace T0 := Lib.hid (T0.out.below hb1)
  replace P := Lib.hid (P.out.to hb1)
  replace MA := Lib.hid (MA.out.to hb1)
  replace B := Lib.hid (B.out.trans (hb1.mono B.out.size))
  clear hb1
  clear E1 hz
  generalize w4.heap.size = g at *
  generalize w4.alloc (.cells (arrB ti) 25) = w5 at *
  have hsa := tag_sliceAll g
  have P5 : Hid (Pr w5.drew) := P.out
  have MA5 : Hid (MaskAt w5.drew gm pd) := MA.out
  replace T0 : Hid (TagAt w5.drew w.heap.size zeros32) := T0.out
  replace T1 : Hid (TagAt w5.drew g ti) := T1.out
  replace B := Lib.hid B.out.drew
  have BT := Lib.hid (Below.refl w5.drew.heap.size w5.drew)
  clear P MA
  generalize hwd : w5.drew = wd at *
  have HWD := Lib.hid hwd
  clear hwd
  have S2 := Lib.hid (tag_size (hmacL_len k bs))
  have HC96 : Hid ((maskL k 92 ++ ti).length = 96) := by (show _ = _); rw [List.length_append, HM2.out, HTI.out]
  have E0 : Hid ((arrB zeros32).size = (arrB (hmacL k bs)).size) := by
    show _ = _
    rw [arrB_size, arrB_size, hmacL_len]; rfl
  refine wp_region_held_drew (S := (fun _ => True)) (by kernel_rfl) (trivial) (fun hHeld => ?_)
  rw [HWD.out]
  refine wpAnyH_take (i := 0) (v := ?_) rfl (by kernel_rfl) (by kernel_rfl) (by kernel_rfl) (fun _ _ _ h => h) (Or.inl ⟨by rfl, ?_⟩) (by assumption) ?_
  rotate_left 1
  · intro w hSw; (try dsimp only at hSw); go_simp; (try with_reducible rfl)
  simp only [Act.put, List.getElem_toArray, List.getElem_cons_zero, List.getElem_cons_succ, List.setIfInBounds_toArray, List.set_cons_zero, List.set_cons_succ]
  refine wpAnyH_take (i := 2) (v := ?_) rfl (by kernel_rfl) (by kernel_rfl) (by kernel_rfl) (fun _ _ _ h => h) (Or.inl ⟨by rfl, ?_⟩) (by assumption) ?_
  rotate_left 1
  · intro w hSw; (try dsimp only at hSw); go_simp; (try with_reducible rfl)
  simp only [Act.put, List.getElem_toArray, List.getElem_cons_zero, List.getElem_cons_succ, List.setIfInBounds_toArray, List.set_cons_zero, List.set_cons_succ]
  refine wpAnyH_ready (rs := [1]) (by kernel_rfl) (by simp) ?_
  refine AllReadyH.cons rfl (fun K hK => ?_) AllReadyH.nil
  go_simp
  refine (wMask gm pd 92 _ MA5.out).mono ?_
  rw [HP2.out]
  generalize maskL k 92 = mo at *
  rintro e w6 ⟨A6, n6, c6, rfl, hown6, hb⟩
  obtain rfl : n6 = 64 := (Rd.of_own hown6).1.symm.trans HM2.out
  have U := Lib.hid (Rd.of_own hown6)
  have V := Lib.hid (T1.out.rd.to hb)
  replace P5 := Lib.hid (P5.out.to hb)
  replace BT := Lib.hid (BT.out.trans (hb.mono BT.out.size))
  clear hown6 hb MA5
  go_wp2_with fail
  refine hK.out _ _ (trivial) (fun hHeld => ?_)
  clear hK K
  refine wpAnyH_ready (rs := [3]) (by kernel_rfl) (by simp) ?_
  refine AllReadyH.cons rfl (fun K hK => ?_) AllReadyH.nil
  go_simp
  refine hK.out _ _ (trivial) (fun hHeld => ?_)
  clear hK K
  refine wpAnyH_ready (rs := [4]) (by kernel_rfl) (by simp) ?_
  refine AllReadyH.cons rfl (fun K hK => ?_) AllReadyH.nil
  go_simp
  refine (wCat2 A6 (some ⟨g, 0, none⟩) 64 32 c6 32 mo ti w6 U.out V.out (by decide)).mono ?_
  rintro e w8 ⟨A8, n8, c8, rfl, hown8, hb⟩
  have M := Lib.hid (Rd.of_own hown8)
  obtain ⟨hcap8, hcap8'⟩ := own_cap hown8
  obtain rfl : n8 = 96 := (Rd.of_own hown8).1.symm.trans HC96.out
  replace P5 := Lib.hid (P5.out.to hb)
  replace BT := Lib.hid (BT.out.trans (hb.mono BT.out.size))
  clear hb hown8 U V
  go_wp2_with fail
  refine hK.out _ _ (trivial) (fun hHeld => ?_)
  clear hK K
  refine wpAnyH_ready (rs := [5]) (by kernel_rfl) (by simp) ?_
  refine AllReadyH.cons rfl (fun K hK => ?_) AllReadyH.nil
  go_simp
  refine (wSha A8 96 c8 _ _ P5.out M.out (by decide) hcap8 hcap8').mono ?_
  rintro e w9 ⟨rfl, hb⟩
  rw [← HX.out]
  replace BT := Lib.hid (BT.out.trans (hb.mono BT.out.size))
  clear hb M
  go_wp2_with fail
  refine hK.out _ _ (trivial) (fun hHeld => ?_)
  clear hK K
  have TT := Lib.hid (T0.out.below BT.out)
  refine wpAnyH_ready (rs := [6]) (by kernel_rfl) (by simp) ?_
  refine AllReadyH.cons rfl (fun K hK => ?_) AllReadyH.nil
  rw [if_pos (by rfl)]
  refine wp_store_row0 25 _ _ rfl rfl w.heap.size (arrB (hmacL k bs)) rfl rfl 25 _ TT.out.2 S2.out E0.out (arrB_one _) ?_
  refine hK.out _ _ (trivial) (fun hHeld => ?_)
  clear hK K
  refine wpAnyH_done (by kernel_rfl) ?_ _
  have BB := Lib.hid (below_setRow (B.out.trans (BT.out.mono B.out.size)) (Nat.le_refl _) (arrB (hmacL k bs)) (g := w.heap.size))
  replace TT := Lib.hid (TT.out.setRow (hmacL_len k bs))
  generalize w9.setRow w.heap.size (arrB (hmacL k bs)) = w10 at *
  clear hHeld
  go_wp2_with fail
  (try simp only [Exit.inBlock, Exit.then])
  refine bodyPost_ret (v := .agg (arrB (hmacL k bs))) ?_ rfl ⟨rfl, BB.out⟩
  exact results_cell_row rfl _ _ w.heap.size 25 (arrB (hmacL k bs)) (0, 0) _ rfl TT.out.2 Tryd.underlying25 rfl S2.out
end Go.Proofs.YtgkmkkfnpoapfaaDoor
