/- Several texts in one (a claim has 60 files at most): HmacRefS, MfR, HmacRefD, HmacRefO. -/
import Derived.Test.YtlmdidblgeeplaaGreatDoorTz
import Derived.Test.YtlmdidblgeeplaaGreatDoorPWA
import Derived.Test.YtlmdidblgeeplaaGreatDoorPShaHy
import Derived.Deep.RegionHeld
import Derived.Test.YtlmdidblgeeplaaGreatDoorPCfWrx
import Derived.Test.YtlmdidblgeeplaaGreatDoorPCfVy
import Derived.Test.YtlmdidblgeeplaaGreatDoorPCfSx
import Derived.Test.YtlmdidblgeeplaaGreatDoorPCpRy
import Derived.Test.YtlmdidblgeeplaaGreatDoorPPadx
import Derived.Deep.WholeRow
import Derived.Deep.Cut
namespace Go.Proofs.YtlmdidblgeeplaaGreatDoor
set_option maxRecDepth 1000000
set_option maxHeartbeats 8000000
set_option linter.unusedVariables false
set_option linter.unusedSimpArgs false
section
open Go.RowKit
theorem step_pushAll {P : Program} {T U : TypeId} (L : U8 P T U) {ops : Array Oper} {o : Oper} {a : Act} {K : Act → World → Prop} {Q : Exit → Act → World → Prop} {E : Prop} (hgd : o.guard = none) (s x : Operand)
  (ho : o.op = .call { callee := .builtin .append, args := #[s, x], argTypes := #[T, T] }) {B B' n m c : Nat} {A : Option Addr} {w wx : World} {v : Value} {bs news : List UInt8} (hs : a.eval s = v)
  (hx : a.eval x = .slice A m c) (hm : 0 < m) (hown : wx.ownsRow B U 1 v n (bs.map bval)) (hr : Rd wx B' A m news) (hb : Below B w wx) (hB : B ≤ wx.heap.size) (hk : n + m ≤ 140737488355328)
  (h : ∀ v' w1, w1.ownsRow B U 1 v' (n + m) ((bs ++ news).map bval) → Below B w w1 → wx.heap.size ≤ w1.heap.size → K (a.put o.dst v') w1) :
  if Region.wanted o (yielded ops a.tmps) = true then Oper.wp P o a wx K Q else E := by
 obtain ⟨i0, hi, hz0, hz1, hz2⟩ := info_parts L.info
 obtain ⟨b, of, rfl, _, hc⟩ := hr.2 hm
 have hlen : news.length = m := hr.1
 refine step_append_lies wx hgd s x T ho B U i0 (.int .u8 0) 1 1 L.ul hi hz0 hz1 hz2 rfl (by decide) v n _ hs hown ⟨b, of, none⟩ m c (news.map bval) hx (by simpa using hlen) ?_ (bvals_one _) hm ?_ ?_ hB _ rfl ?_
 ·intro j u hu
  have hj : j < m := by
   rcases Nat.lt_or_ge j m with g | g
   ·exact g
   ·rw [List.getElem?_eq_none (by simpa [hlen] using g)] at hu; cases hu
  have e : (⟨b, of, none⟩ : Addr).add j = ⟨b, of + j, none⟩ := by unfold Addr.add; split <;> simp_all
  rw [e, hc j hj, ← hu, List.getElem?_map, List.getElem?_eq_getElem (by omega), nth_of_lt (by omega)]
  rfl
 ·unfold maxLen; omega
 ·omega
 ·intro g' cap w1 hown' hgrow _ _
  exact h _ w1 (by rw [List.map_append]; exact hown') (hb.grown hgrow hB (fun j hj => (hown.lt j hj).1)) hgrow.size
theorem tag_setRowOther {w : World} {g g' : Nat} {bs : List UInt8} (h : TagAt w g bs) (cs : Array Value) (hne : g ≠ g') : TagAt (w.setRow g' cs) g bs :=
 ⟨h.1, by rw [setRow_other w g' g cs hne]; exact h.2⟩
theorem rHmac (A A' : Option Addr) (n m c d : Nat) (k bs : List UInt8) (w : World) (ha : Rd w w.heap.size A n k) (hb : Rd w w.heap.size A' m bs) (hn : n ≤ 1000000000) (hm : m ≤ 999999000) :
  Calls Tryz.prog 54 #[.slice A n c, .slice A' m d] w fun e w' => e = .returned (.agg (arrB (hmacL k bs))) ∧ Below w.heap.size w w' := by
 have hz := tag_zero
 have HX : Hid (hmacL k bs = shaL (maskL k 92 ++ shaL (maskL k 54 ++ bs))) := rfl
 have HBl := qH hb.1
 have HM1 := qH (maskL_len k 54)
 have HM2 := qH (maskL_len k 92)
 have T0 : Hid (TagAt (w.alloc (.cells (arrB zeros32) 23)) w.heap.size zeros32) := ⟨rfl, heap_alloc_last w _⟩
 have B : Hid (Below w.heap.size w (w.alloc (.cells (arrB zeros32) 23))) := (Below.refl _ _).alloc (Nat.le_refl _) _
 have R := qH (ha.to B.out)
 have S := qH (hb.to B.out)
 clear ha hb
 go_enter Tryz.func54, Tryz.ntmps54
 go_wp2_with fail
 generalize w.alloc (.cells (arrB zeros32) 23) = w0 at *
 refine (rMasked A n c k 54 w0 R.out hn).mono ?_
 generalize maskL k 54 = mi at *
 rintro e w1 ⟨A1, n1, c1, rfl, hown1, hb⟩
 obtain rfl : n1 = 64 := by rw [← (Rd.of_own hown1).1]; exact HM1.out
 have O := qH hown1
 have B0 := qH hb
 have S1 := qH (S.out.to hb)
 clear hown1 hb
 go_wp2_with (at_builtin; refine wpList_pushAll isU8 rfl _ _ rfl rfl rfl O.out S1.out B0.out B0.out.size (by omega) ?_; intro v2 w2 hown2 hbel2 hsz2)
 obtain ⟨A2, c2, rfl⟩ := own_slice hown2
 have M := qH (Rd.of_own hown2)
 replace T0 := qH (T0.out.below hbel2)
 clear hown2 O B0 S1 hsz2
 replace R := qH (R.out.to hbel2)
 replace S := qH (S.out.to hbel2)
 replace B := qH (B.out.trans (hbel2.mono B.out.size))
 clear hbel2
 refine (rSum A2 (64 + m) c2 _ w2 M.out (by omega)).mono ?_
 generalize hin : shaL (mi ++ bs) = ti at *
 have HI := qH hin
 have hti : ti.length = 32 := by rw [← hin]; exact shaL_len _
 have HTI := qH hti
 clear hin hti
 rintro e w3 ⟨rfl, hb⟩
 replace T0 := qH (T0.out.below hb)
 replace R := qH (R.out.to hb)
 replace S := qH (S.out.to hb)
 replace B := qH (B.out.trans (hb.mono B.out.size))
 clear hb
 clear M
 have S1 := qH (tag_size HTI.out)
 have E1 : Hid ((arrB zeros32).size = (arrB ti).size) := by
  show _ = _
  rw [arrB_size, arrB_size, HTI.out]; rfl
 go_wp2_with (refine wpList_store_row rfl 23 _ _ rfl w3.heap.size (arrB ti) rfl rfl 23 (arrB zeros32) (heap_alloc_last w3 _) S1.out E1.out (arrB_one _) ?_; rw [World.setRow_alloc_new])
 have hb1 : Below w3.heap.size w3 (w3.alloc (.cells (arrB ti) 23)) := (Below.refl _ _).alloc (Nat.le_refl _) _
 have HGL : Hid (w.heap.size < w3.heap.size) := heap_at_lt T0.out.2
 have T1 : Hid (TagAt (w3.alloc (.cells (arrB ti) 23)) w3.heap.size ti) := ⟨HTI.out, heap_alloc_last w3 _⟩
 replace T0 := qH (T0.out.below hb1)
 replace R := qH (R.out.to hb1)
 replace S := qH (S.out.to hb1)
 replace B := qH (B.out.trans (hb1.mono B.out.size))
 clear hb1
 clear E1 hz
 generalize w3.heap.size = g at *
 generalize w3.alloc (.cells (arrB ti) 23) = w4 at *
 have hu := Tryz.underlying23
 have hi : (Tryz.prog.info? 23).map (·.size) = some (ti.map bval).length := by rw [List.length_map, HTI.out]; exact (zero_of_info tag_info).2
 replace R := qH R.out.drew'
 replace T0 : Hid (TagAt w4.drew w.heap.size zeros32) := T0.out
 replace T1 : Hid (TagAt w4.drew g ti) := T1.out
 replace B := qH B.out.drew
 have BT := qH (Below.refl w4.drew.heap.size w4.drew)
 have h0 : TagAt w4 g ti := T1.out
 have HTI2 : Hid (TagAt w4 g ti) := h0
 clear h0 S
 generalize hwd : w4.drew = wd at *
 have HWD := qH hwd
 clear hwd
 have S0 := qH (tag_size (shaL_len (maskL k 92 ++ ti)))
 have E0 : Hid ((arrB zeros32).size = (arrB (hmacL k bs)).size) := by
  show _ = _
  rw [arrB_size, arrB_size, hmacL_len]; rfl
 refine wp_region_held_drew (S := (fun w' => w'.rangeAt g 0 (ti.map bval))) (by kernel_rfl) ((by rw [HWD.out]; exact T1.out.range)) (fun hHeld => ?_)
 rw [HWD.out] at hHeld ⊢
 refine tk 0 ?_
 simp only [pR]
 refine tl 2 (.agg (List.toArray (ti.map bval))) rfl (yieldsIf_load_mid (by rfl) 23 _ rfl g 0 rfl (ti.map bval) _ (fun _ h => h) hu rfl hi) ?_
 simp only [pR]
 refine rd1 1 (fun K hK => ?_)
 go_simp
 refine (rMasked A n c k 92 _ R.out hn).mono ?_
 generalize maskL k 92 = mo at *
 rintro e w5 ⟨A5, n5, c5, rfl, hown5, hb⟩
 obtain rfl : n5 = 64 := (Rd.of_own hown5).1.symm.trans HM2.out
 have O := qH hown5
 replace BT := qH (BT.out.trans (hb.mono BT.out.size))
 clear hown5 hb
 go_wp2_with fail
 refine hK.out _ _ ((T1.out.below BT.out).range) (fun hHeld => ?_)
 clear hK K
 refine rd1 3 (fun K hK => ?_)
 go_simp
 refine (rTagBytes ti _ HTI.out).mono ?_
 rintro e w6 ⟨A6, n6, c6, rfl, hown6, hb⟩
 obtain rfl : n6 = 32 := (Rd.of_own hown6).1.symm.trans HTI.out
 have U := qH (Rd.of_own hown6)
 replace O := qH (own_below O.out hb)
 replace BT := qH (BT.out.trans (hb.mono BT.out.size))
 clear hown6 hb
 go_wp2_with fail
 refine hK.out _ _ ((T1.out.below BT.out).range) (fun hHeld => ?_)
 clear hK K
 refine rd1 4 (fun K hK => ?_)
 refine step_pushAll isU8 rfl (.tmp 12) (.tmp 14) rfl rfl rfl (by decide) O.out U.out BT.out BT.out.size (by decide) ?_
 intro v7 w7 hown7 hbel7 hsz7
 obtain ⟨A7, c7, rfl⟩ := own_slice hown7
 have M := qH (Rd.of_own hown7)
 replace BT := qH hbel7
 clear hown7 hbel7 hsz7 O U
 refine hK.out _ _ ((T1.out.below BT.out).range) (fun hHeld => ?_)
 clear hK K
 simp only [pR]
 refine rd1 5 (fun K hK => ?_)
 go_simp
 refine (rSum A7 (64 + 32) c7 _ _ M.out (by decide)).mono ?_
 rintro e w8 ⟨rfl, hb⟩
 rw [← HX.out]
 replace BT := qH (BT.out.trans (hb.mono BT.out.size))
 clear hb M
 go_wp2_with fail
 refine hK.out _ _ ((T1.out.below BT.out).range) (fun hHeld => ?_)
 clear hK K
 have TT := qH (T0.out.below BT.out)
 have S2 := qH (tag_size (hmacL_len k bs))
 have BG := qH (T1.out.below BT.out)
 have HNE : Hid (w.heap.size ≠ g) := by
  show _ ≠ _
  have := HGL.out
  omega
 refine rd1 6 (fun K hK => ?_)
 rw [if_pos (by rfl)]
 refine wp_store_row0 23 _ _ rfl rfl w.heap.size (arrB (hmacL k bs)) rfl rfl 23 _ TT.out.2 S2.out E0.out (arrB_one _) ?_
 refine hK.out _ _ (((tag_setRowOther BG.out _ HNE.out.symm).range)) (fun hHeld => ?_)
 clear hK K
 refine wpAnyH_done (by kernel_rfl) ?_ _
 have BB := qH (below_setRow (B.out.trans (BT.out.mono B.out.size)) (Nat.le_refl _) (arrB (hmacL k bs)) (g := w.heap.size))
 replace TT := qH (TT.out.setRow (hmacL_len k bs))
 generalize w8.setRow w.heap.size (arrB (hmacL k bs)) = w9 at *
 clear hHeld
 go_wp2_with fail
 (try simp only [Exit.inBlock, Exit.then])
 refine bodyPost_ret (v := .agg (arrB (hmacL k bs))) ?_ rfl ⟨rfl, BB.out⟩
 exact results_cell_row rfl _ _ w.heap.size 23 (arrB (hmacL k bs)) (0, 0) _ rfl TT.out.2 Tryz.underlying23 rfl S2.out
end
section
open Go.RowKit
theorem rCanM (v : CV) (m : Mf) (w : World) (h : RdM w w.heap.size v m) (d : Bd v) :
  Calls Tryz.prog 10 #[.agg (mfL m v).toArray] w fun x w' => x = .returned (.bool (canM m)) ∧ Below w.heap.size w w' := by
 have B := qH ((Below.refl w.heap.size w).alloc (Nat.le_refl _) (.cells (mfL m v).toArray 30))
 have M := qH (MB.new w h.t v)
 have R := qH (h.cf.to B.out)
 have D := qH d
 have HV : Hid (canM m = (decide (0 < m.ver) && (decide (m.ver ≤ 1099511627776) && (decide (0 < m.trial) && (decide (m.trial < 9) && canC m.cf))))) := rfl
 clear h d
 go_enter Tryz.func10, Tryz.ntmps10
 go_upto_region 1 with (fail)
 generalize w.alloc (.cells (mfL m v).toArray 30) = w1 at *
 obtain ⟨x0, x1, x2, x3, x4⟩ := M.out.cells
 generalize m.ver = ver at *
 generalize m.trial = tr at *
 by_cases c1 : 0 < ver
 rotate_left 1
 ·have HF : Hid (false = canM m) := by (show _ = _); rw [HV.out, decide_eq_false c1]; rfl
  clear HV
  go_wp2_with fail
  go_ret
  exact ⟨ret_bool HF.out, B.out⟩
 by_cases c2 : ver ≤ 1099511627776
 rotate_left 1
 ·have HF : Hid (false = canM m) := by (show _ = _); rw [HV.out, decide_eq_false c2, decide_eq_true c1]; rfl
  clear HV
  go_wp2_with fail
  go_ret
  exact ⟨ret_bool HF.out, B.out⟩
 by_cases c3 : 0 < tr
 rotate_left 1
 ·have HF : Hid (false = canM m) := by (show _ = _); rw [HV.out, decide_eq_false c3, decide_eq_true c1, decide_eq_true c2]; rfl
  clear HV
  go_wp2_with fail
  go_ret
  exact ⟨ret_bool HF.out, B.out⟩
 by_cases c4 : tr < 9
 rotate_left 1
 ·have HF : Hid (false = canM m) := by (show _ = _); rw [HV.out, decide_eq_false c4, decide_eq_true c1, decide_eq_true c2, decide_eq_true c3]; rfl
  clear HV
  go_wp2_with fail
  go_ret
  exact ⟨ret_bool HF.out, B.out⟩
 have HF : Hid (canC m.cf = canM m) := by (show _ = _); rw [HV.out, decide_eq_true c4, decide_eq_true c1, decide_eq_true c2, decide_eq_true c3]; rfl
 clear HV
 go_wp2_with fail
 refine (rCan v m.cf w1 R.out D.out.2.1).mono ?_
 rintro e w2 ⟨rfl, hb⟩
 replace B := qH (B.out.trans (hb.mono B.out.size))
 rw [HF.out]
 clear hb x0 x1 x2 x3 x4
 obtain ⟨d, hd⟩ : ∃ d, canM m = d := ⟨_, rfl⟩
 rw [hd]
 replace HF := qH hd.symm
 clear hd
 go_wp2_with fail
 go_ret
 exact ⟨ret_bool HF.out, B.out⟩
theorem rHeadM (v : CV) (m : Mf) (w : World) (h : RdM w w.heap.size v m) (hc : canC m.cf = true) :
  Calls Tryz.prog 35 #[.agg (mfL m v).toArray] w fun x w' => RetB 5 w (headM m) x w' := by
 have B0 := qH ((Below.refl w.heap.size w).alloc (Nat.le_refl _) (.cells (mfL m v).toArray 30))
 have M := qH (MB.new w h.t v)
 have R := qH (h.cf.to B0.out)
 have HC := qH hc
 have HL := qH (formC_len hc)
 have HT := qH h.t.prev
 have HQ : Hid (48 + (4 + (formC m.cf).length) ≤ 140737488355328) := by (show _ ≤ _); have := formC_len hc; omega
 have HV : Hid (headM m = enc (u64N m.ver) 8 ++ m.prev ++ enc (u64N m.trial) 8 ++ (enc (formC m.cf).length 4 ++ formC m.cf)) := rfl
 have S32 := qH (tag_sizeL h.t.prev)
 clear h hc
 go_enter Tryz.func35, Tryz.ntmps35
 go_upto_region 1 with (fail)
 generalize w.alloc (.cells (mfL m v).toArray 30) = w1 at *
 obtain ⟨x0, -⟩ := (M.out.to ((Below.refl w1.heap.size w1).alloc (Nat.le_refl _) (.cells #[] 5))).cells
 go_wp2_with fail
 have O := qH (own_top (w := w1) (B := w1.heap.size) [] 5 (Nat.le_refl _) (fun u hu => (by cases hu)) (by decide))
 have B := qH ((Below.refl w1.heap.size w1).alloc (Nat.le_refl _) (.cells #[] 5))
 generalize w1.alloc (.cells #[] 5) = w2 at *
 refine (rIntB m.ver w2).mono ?_
 rintro e w3 ⟨A3, n3, c3, rfl, hown, hb⟩
 obtain rfl : n3 = 8 := by rw [← (Rd.of_own hown).1, enc_len]
 have R3 := qH (Rd.of_own hown)
 replace O := qH (own_below (xs := ([] : List UInt8).map bval) O.out hb)
 replace B := qH (B.out.trans (hb.mono B.out.size))
 clear hown hb x0
 go_upto_region 2 with (at_builtin; refine wpList_pushAll isU8 rfl _ _ rfl rfl rfl O.out R3.out B.out B.out.size (by decide) ?_; intro v4 w4 hown4 hb4 hs4; obtain ⟨A4, c4, rfl⟩ := own_slice hown4)
 replace O := qH hown4
 replace B := qH hb4
 have P := qH ((M.out.to hb4).prev)
 have hu := Tryz.underlying23
 clear hown4 hb4 hs4 R3
 go_wp2_with (refine wpList_load_mid rfl 23 _ rfl w.heap.size 1 rfl (m.prev.map bval) _ P.out hu rfl S32.out ?_)
 clear hu P
 refine (rTagB m.prev w4 HT.out).mono ?_
 rintro e w5 ⟨A5, n5, c5, rfl, hown, hb⟩
 obtain rfl : n5 = 32 := by rw [← (Rd.of_own hown).1, HT.out]
 have R5 := qH (Rd.of_own hown)
 replace O := qH (own_below O.out hb)
 replace B := qH (B.out.trans (hb.mono B.out.size))
 clear hown hb
 go_upto_region 3 with (at_builtin; refine wpList_pushAll isU8 rfl _ _ rfl rfl rfl O.out R5.out B.out B.out.size (by decide) ?_; intro v6 w6 hown6 hb6 hs6; obtain ⟨A6, c6, rfl⟩ := own_slice hown6)
 replace O := qH hown6
 replace B := qH hb6
 obtain ⟨-, x1, -⟩ := (M.out.to hb6).cells
 clear hown6 hb6 hs6 R5
 go_wp2_with fail
 refine (rIntB m.trial w6).mono ?_
 rintro e w7 ⟨A7, n7, c7, rfl, hown, hb⟩
 obtain rfl : n7 = 8 := by rw [← (Rd.of_own hown).1, enc_len]
 have R7 := qH (Rd.of_own hown)
 replace O := qH (own_below O.out hb)
 replace B := qH (B.out.trans (hb.mono B.out.size))
 clear hown hb x1
 go_upto_region 4 with (at_builtin; refine wpList_pushAll isU8 rfl _ _ rfl rfl rfl O.out R7.out B.out B.out.size (by decide) ?_; intro v8 w8 hown8 hb8 hs8; obtain ⟨A8, c8, rfl⟩ := own_slice hown8)
 replace O := qH hown8
 replace B := qH hb8
 obtain ⟨-, -, x2, x3, x4⟩ := (M.out.to hb8).cells
 replace R := qH (R.out.to hb8)
 clear hown8 hb8 hs8 R7
 go_wp2_with fail
 refine (rForm v m.cf w8 R.out HC.out).mono ?_
 rintro e w9 ⟨A9, n9, c9, rfl, hown, hb⟩
 obtain rfl : n9 = (formC m.cf).length := (Rd.of_own hown).1.symm
 have R9 := qH (Rd.of_own hown)
 replace O := qH (own_below O.out hb)
 replace B := qH (B.out.trans (hb.mono B.out.size))
 clear hown hb x2 x3 x4 R
 go_wp2_with fail
 refine (rBytesB A9 (formC m.cf).length c9 (formC m.cf) w9 R9.out (by have := HL.out; omega)).mono ?_
 rintro e w10 ⟨A10, n10, c10, rfl, hown, hb⟩
 obtain rfl : n10 = 4 + (formC m.cf).length := by rw [← (Rd.of_own hown).1, List.length_append, enc_len]
 have R10 := qH (Rd.of_own hown)
 replace O := qH (own_below O.out hb)
 replace B := qH (B.out.trans (hb.mono B.out.size))
 clear hown hb R9
 go_wp2_with (at_builtin; refine wpList_pushAll isU8 rfl _ _ rfl rfl rfl O.out R10.out B.out B.out.size HQ.out ?_; intro v11 w11 hown11 hb11 hs11; obtain ⟨A11, c11, rfl⟩ := own_slice hown11)
 go_ret
 refine ⟨A11, _, c11, rfl, ?_, B0.out.trans (hb11.mono B0.out.size)⟩
 rw [HV.out]
 exact own_mono hown11 B0.out.size
theorem rBytesM (v : CV) (m : Mf) (w : World) (h : RdM w w.heap.size v m) (hc : canM m = true) :
  Calls Tryz.prog 14 #[.agg (mfL m v).toArray] w fun x w' => RetB 5 w (bytesM m) x w' := by
 have B0 := qH ((Below.refl w.heap.size w).alloc (Nat.le_refl _) (.cells (mfL m v).toArray 30))
 have M := qH (MB.new w h.t v)
 have R := qH (h.to B0.out)
 have HC := qH (canM_iff.1 hc).2.2.2.2
 have HL := qH (headM_len h.t.prev hc)
 have HT := qH h.t.tag
 have HV : Hid (bytesM m = headM m ++ m.tag) := rfl
 have S32 := qH (tag_sizeL h.t.tag)
 have S69 := qH (mf_size h.t v)
 clear h hc
 go_enter Tryz.func14, Tryz.ntmps14
 go_upto_region 1 with (fail)
 generalize w.alloc (.cells (mfL m v).toArray 30) = w1 at *
 obtain ⟨wd, hwd⟩ : ∃ x, w1.drew = x := ⟨_, rfl⟩
 have BS : Hid (Below w1.heap.size w1 wd) := by (show Below _ _ _); rw [← hwd]; exact (Below.refl _ _).drew
 have hu := Tryz.underlying23
 refine wp_region_held_drew (S := (fun w' => Below w1.heap.size w1 w')) (by kernel_rfl) ((Below.refl _ _).drew) (fun hHeld => ?_)
 rw [hwd] at hHeld ⊢
 clear hwd hHeld
 have BD := BS
 have hHeld := BS.out
 refine tl 0 (.agg (mfL m v).toArray) rfl (yieldsIf_load_row (by rfl) 30 _ rfl w.heap.size rfl 30 (mfL m v).toArray (0, 0) _ (fun w' h => (M.out.to h).row) Tryz.underlying30 rfl S69.out) ?_
 simp only [pR]
 refine tk 2 ?_
 simp only [pR]
 refine tl 3 (.agg (List.toArray (m.tag.map bval))) rfl (yieldsIf_load_mid (by rfl) 23 _ rfl w.heap.size 37 rfl (m.tag.map bval) _ ((fun w' h => (M.out.to h).tag)) hu rfl S32.out) ?_
 simp only [pR]
 clear hHeld
 refine rd1 1 (fun K hK => ?_)
 go_simp
 refine (rHeadM v m wd (R.out.to BS.out) HC.out).mono ?_
 rintro e w5 ⟨A5, n5, c5, rfl, hown, hb⟩
 replace BS := qH (BS.out.trans (hb.mono BS.out.size))
 have O := qH hown
 have BW := qH hb
 clear hown hb
 go_wp2_with fail
 refine hK.out _ _ (BS.out) (fun hHeld => ?_)
 clear hK K
 clear hHeld
 refine rd1 4 (fun K hK => ?_)
 go_simp
 refine (rTagB m.tag w5 HT.out).mono ?_
 rintro e w6 ⟨A6, n6, c6, rfl, hown, hb⟩
 replace BS := qH (BS.out.trans (hb.mono BS.out.size))
 replace O := qH (own_below O.out hb)
 replace BW := qH (BW.out.trans (hb.mono BW.out.size))
 have R6 := qH (Rd.of_own hown)
 clear hown hb
 go_wp2_with fail
 refine hK.out _ _ (BS.out) (fun hHeld => ?_)
 clear hK K
 clear hHeld
 have HN : Hid (n5 + n6 ≤ 140737488355328) := by
  (show _ ≤ _)
  have h1 := HL.out
  have h2 := O.out.1
  have h3 := R6.out.1
  rw [HT.out] at h3
  rw [List.length_map] at h2
  omega
 have H6 : Hid (0 < n6) := by (show _ < _); rw [← R6.out.1, HT.out]; decide
 refine rd1 5 (fun K hK => ?_)
 refine step_pushAll isU8 rfl (.tmp 4) (.tmp 7) rfl rfl rfl H6.out O.out R6.out BW.out BW.out.size HN.out ?_
 intro v7 w7 hown7 hb7 hs7
 obtain ⟨A7, c7, rfl⟩ := own_slice hown7
 replace O := qH hown7
 replace BS := qH (BD.out.trans (hb7.mono BD.out.size))
 clear hown7 hb7 hs7
 refine hK.out _ _ (BS.out) (fun hHeld => ?_)
 clear hK K
 simp only [pR]
 clear hHeld
 refine tk 6 ?_
 simp only [pR]
 refine wpAnyH_done (by kernel_rfl) ?_ _
 go_wp2_with fail
 go_ret
 refine ⟨A7, _, c7, rfl, ?_, B0.out.trans (BS.out.mono B0.out.size)⟩
 rw [HV.out]
 exact own_mono O.out (Nat.le_trans B0.out.size BD.out.size)
theorem rHashM (v : CV) (m : Mf) (w : World) (h : RdM w w.heap.size v m) (d : Bd v) :
  Calls Tryz.prog 13 #[.agg (mfL m v).toArray] w fun x w' => x = .returned (.agg (arrB (hashM m))) ∧ Below w.heap.size w w' := by
 have hz := tag_zero
 have B1 := qH ((Below.refl w.heap.size w).alloc (Nat.le_refl _) (.cells (mfL m v).toArray 30))
 have M := qH (MB.new w h.t v)
 have R := qH (h.to B1.out)
 have HS : Hid ((w.alloc (.cells (mfL m v).toArray 30)).heap.size = w.heap.size + 1) := by (show _ = _); simp
 have D := qH d
 have HP := qH h.t.prev
 have HT := qH h.t.tag
 have S69 := qH (mf_size h.t v)
 have HV : Hid (hashM m = if canM m = true then shaL (bytesM m) else zeros32) := rfl
 clear h d
 go_enter Tryz.func13, Tryz.ntmps13
 go_upto_region 1 with (fail)
 generalize w.alloc (.cells (mfL m v).toArray 30) = w1 at *
 have B2 : Hid (Below w1.heap.size w1 (w1.alloc (.cells (arrB zeros32) 23))) := (Below.refl _ _).alloc (Nat.le_refl _) _
 have T : Hid (TagAt (w1.alloc (.cells (arrB zeros32) 23)) (w.heap.size + 1) zeros32) := ⟨rfl, by rw [← HS.out]; exact heap_alloc_last w1 _⟩
 replace M := qH (M.out.to B2.out)
 replace R := qH (R.out.to B2.out)
 have HS2 : Hid ((w1.alloc (.cells (arrB zeros32) 23)).heap.size = w.heap.size + 2) := by (show _ = _); simp [HS.out]
 replace B2 := qH (B1.out.trans (B2.out.mono B1.out.size))
 generalize w1.alloc (.cells (arrB zeros32) 23) = w2 at *
 clear B1 HS hz
 go_wp2_with (refine wpList_load_row rfl 30 _ rfl w.heap.size rfl 30 (mfL m v).toArray (0, 0) _ M.out.row Tryz.underlying30 rfl S69.out ?_)
 refine (rCanM v m w2 R.out D.out).mono ?_
 rintro e w3 ⟨rfl, hb⟩
 replace M := qH (M.out.to hb)
 replace R := qH (R.out.to hb)
 replace T := qH (T.out.below hb)
 have HS3 : Hid (w.heap.size + 2 ≤ w3.heap.size) := by (show _ ≤ _); rw [← HS2.out]; exact hb.size
 replace B2 := qH (B2.out.trans (hb.mono B2.out.size))
 clear hb HS2
 cases hc : canM m
 ·rw [hc] at HV
  replace HV : Hid (hashM m = zeros32) := by (show _ = _); rw [HV.out, if_neg (by decide)]
  clear hc
  have SL : Hid ((Tryz.prog.info? 23).map (·.size) = some (arrB zeros32).size) := tag_size rfl
  go_wp2_with (refine wpList_store_row rfl 23 _ _ rfl (w.heap.size + 1) (arrB zeros32) rfl rfl 23 (arrB zeros32) T.out.2 SL.out rfl (arrB_one _) ?_)
  (try simp only [Exit.inBlock, Exit.then])
  refine bodyPost_ret (results_cell_row rfl _ _ (w.heap.size + 1) 23 (arrB zeros32) (0, 0) _ rfl (setRow_heap _ _ _ _ _ _ T.out.2) Tryz.underlying23 rfl SL.out) rfl ?_
  exact ⟨by rw [HV.out], below_setRow B2.out (by omega) _⟩
 ·rw [hc] at HV
  replace HV : Hid (hashM m = shaL (bytesM m)) := by (show _ = _); rw [HV.out, if_pos rfl]
  have HC := qH hc
  have HL := qH (bytesM_len HP.out HT.out hc).1
  clear hc
  go_wp2_with (refine wpList_load_row rfl 30 _ rfl w.heap.size rfl 30 (mfL m v).toArray (0, 0) _ M.out.row Tryz.underlying30 rfl S69.out ?_)
  refine (rBytesM v m w3 R.out HC.out).mono ?_
  rintro e w4 ⟨A4, n4, c4, rfl, hown, hb⟩
  have R4 := qH (Rd.of_own hown)
  replace T := qH (T.out.below hb)
  replace B2 := qH (B2.out.trans (hb.mono B2.out.size))
  clear hown hb
  go_wp2_with fail
  refine (rSum A4 n4 c4 (bytesM m) w4 R4.out (by have := HL.out; have := R4.out.1; omega)).mono ?_
  rintro e w5 ⟨rfl, hb⟩
  replace T := qH (T.out.below hb)
  replace B2 := qH (B2.out.trans (hb.mono B2.out.size))
  have SL := qH (tag_size (shaL_len (bytesM m)))
  have ST : Hid ((arrB zeros32).size = (arrB (shaL (bytesM m))).size) := by (show _ = _); rw [arrB_size, arrB_size, shaL_len]; rfl
  clear hb
  go_wp2_with (refine wpList_store_row rfl 23 _ _ rfl (w.heap.size + 1) (arrB (shaL (bytesM m))) rfl rfl 23 (arrB zeros32) T.out.2 SL.out ST.out (arrB_one _) ?_)
  (try simp only [Exit.inBlock, Exit.then])
  refine bodyPost_ret (results_cell_row rfl _ _ (w.heap.size + 1) 23 (arrB (shaL (bytesM m))) (0, 0) _ rfl (setRow_heap _ _ _ _ _ _ T.out.2) Tryz.underlying23 rfl SL.out) rfl ?_
  exact ⟨by rw [HV.out], below_setRow B2.out (by omega) _⟩
end
section
open Go.RowKit
def RdI (w : World) (B : Nat) (A : Option Addr) (n : Nat) (xs : List Int) : Prop :=
 xs.length = n ∧ (0 < n → ∃ b o, A = some ⟨b, o, none⟩ ∧ b < B ∧ ∀ j, j < n → w.cell? ⟨b, o + j, none⟩ = some (.int .i64 (xs.getD j 0)))
theorem take_snoc_I {xs : List Int} {k : Nat} (h : k < xs.length) : xs.take (k + 1) = xs.take k ++ [xs.getD k 0] := by
 rw [List.take_succ_eq_append_getElem h]; simp [List.getD, List.getElem?_eq_getElem h]
def FormRel (w : World) (lab : List UInt8) (xs : List Int) (n : Nat) (v i : Value) (wr : World) : Prop :=
 ∃ k : Nat, k ≤ n ∧ i = .int .i64 (k : Int) ∧ OwnG wr w.heap.size 5 v (lab.length + 1 + 8 * k) (formI lab (xs.take k)) ∧ Below w.heap.size w wr
theorem rFormI (s : ByteArray) (A : Option Addr) (n c : Nat) (xs : List Int) (w : World) (hs : s.size ≤ 1000000) (ha : RdI w w.heap.size A n xs) (hn : n ≤ 1000000) :
  Calls Tryz.prog 120 #[.string s, .slice A n c] w fun e w' => ∃ A n c, e = .returned (.slice A n c) ∧ Rd w' w'.heap.size A n (formI s.data.toList xs) ∧ n ≤ c ∧ c ≤ 9223372036854775807 ∧ Below w.heap.size w w' := by
 have HA := qH ha
 have HS := qH (data_len s)
 have kc := Lib.run_convert_string_bytes (P := Tryz.prog) w 9 31 5 s Tryz.underlying9 Tryz.underlying31 Tryz.underlying5
 have O0 := qH (OwnG.bytesWorld (P := Tryz.prog) w w.heap.size 5 s hs (Nat.le_refl _))
 have B0 := qH (Go.Joins.below_bytesWorld w.heap.size w 5 s (Nat.le_refl _))
 clear ha
 obtain ⟨c0, hc0⟩ : ∃ c0, grownCap w s.size 0 5 = c0 := ⟨_, rfl⟩
 rw [hc0] at kc O0
 obtain ⟨wb, hwb⟩ : ∃ wb, Lib.bytesWorld w 5 s = wb := ⟨_, rfl⟩
 rw [hwb] at kc O0 B0
 clear hc0 hwb
 have O1 := qH (O0.out.below ((Below.refl _ _).alloc (Nat.le_refl _) (.cells #[.int .u8 0] 5)))
 have B1 := qH (B0.out.alloc B0.out.size (.cells #[.int .u8 0] 5))
 go_enter Tryz.func120, Tryz.ntmps120
 go_wp2_with (at_builtin; refine wpList_pushG isU8 rfl _ _ rfl rfl rfl (by decide) O1.out (Rd.lit [0] [.int .u8 0] _ rfl) B1.out B1.out.size (by simp; omega) ?_; intro v1 w1 hown1 hbel1 hsz1)
 rw [← formI_nil] at hown1
 replace hown1 : OwnG w1 w.heap.size 5 v1 (s.size + 1) (formI s.data.toList []) := hown1
 have O := qH hown1
 have B := qH hbel1
 clear hown1 hbel1 hsz1 kc O1 B1 O0 B0
 obtain ⟨lab, hlab⟩ : ∃ l, s.data.toList = l := ⟨_, rfl⟩
 rw [hlab] at O HS
 rw [← HS.out] at O
 have HLAB := qH hlab
 clear hlab
 have HSZ : Hid (lab.length ≤ 1000000) := by show _ ≤ _; rw [HS.out]; exact hs
 go_loopw [5, 6] (fun v i wr => FormRel w lab xs n v i wr) (fun _ i _ => n - (intOf i).toNat)
 case atStart => exact ⟨0, Nat.zero_le _, rfl, O.out, B.out⟩
 case round =>
  obtain ⟨k, hk, rfl, hown, hb⟩ := hrel
  have HO := qH hown
  have HB := qH hb
  have HK := qH hk
  clear hown hb hk O B
  by_cases hlt : k < n
  ·obtain ⟨b, o, rfl, hbo, hc⟩ := HA.out.2 (by omega)
   have hcell : wr.cell? ⟨b, o + k, none⟩ = some (.int .i64 (xs.getD k 0)) := (HB.out.cell hbo).trans (hc k hlt)
   clear hc
   have HE := qH (take_snoc_I (xs := xs) (k := k) (by rw [HA.out.1]; exact hlt))
   have h64 : IntKind.u64.wrap (xs.getD k 0) = (u64N (xs.getD k 0) : Int) := by rw [← u64N_eq]; simp only [IntKind.wrap_u64]
   have hltu := qH (u64N_lt (xs.getD k 0))
   have HF := qH (formI_snoc lab (xs.take k) (xs.getD k 0))
   generalize xs.getD k 0 = x at *
   generalize u64N x = y at *
   go_wp2_with fail
   refine (refPut y 8 wr hltu.out (by decide)).mono ?_
   rintro e w2 ⟨A2, n2, c2, rfl, hown2, hb⟩
   obtain rfl : n2 = 8 := by rw [← (Rd.of_own hown2).1, enc_len]
   have R := qH (Rd.of_own hown2)
   have O2 := qH (HO.out.below hb)
   have B2 := qH (HB.out.trans (hb.mono HB.out.size))
   clear hown2 hb hcell h64
   have HLT := qH hlt
   have hki : (k : Int) < 1000000 := by omega
   go_wp2_with (at_builtin; refine wpList_pushG isU8 rfl _ _ rfl rfl rfl (by decide) O2.out R.out B2.out B2.out.size (by have := HSZ.out; have := HLT.out; omega) ?_; intro v3 w3 hown3 hbel3 hsz3)
   go_roundw
   case rel => exact ⟨k + 1, HLT.out, by go_num, by rw [HE.out, HF.out, show lab.length + 1 + 8 * (k + 1) = lab.length + 1 + 8 * k + 8 from by omega]; exact hown3, hbel3⟩
   case measure => simp [intOf]; omega
  ·obtain rfl : k = n := by have := HK.out; omega
   obtain ⟨A3, c3, rfl⟩ := HO.out.slice
   go_wp2
   go_ret
   rw [List.take_of_length_le (by rw [HA.out.1]; exact Nat.le_refl _)] at HO
   obtain ⟨h1, h2, h3⟩ := HO.out.rd
   rw [HLAB.out]
   exact ⟨_, _, _, rfl, h1, h2, h3, HB.out⟩
theorem rDerive (A A' : Option Addr) (n m c d : Nat) (k : List UInt8) (s : ByteArray) (xs : List Int) (w : World) (ha : Rd w w.heap.size A n k) (hb : RdI w w.heap.size A' m xs) (hn : n ≤ 1000000000) (hs : s.size ≤ 1000000) (hm : m ≤ 1000000) :
  Calls Tryz.prog 55 #[.slice A n c, .string s, .slice A' m d] w fun e w' => RetB 5 w (hmacL k (formI s.data.toList xs)) e w' := by
 have HL := qH (hmacL_len k (formI s.data.toList xs))
 have HF := qH (formI_len s.data.toList xs)
 have HD := qH (data_len s)
 have R := qH ha
 have S := qH hb
 clear ha hb
 go_enter Tryz.func55, Tryz.ntmps55
 go_wp2_with fail
 refine (rFormI s A' m d xs w hs S.out hm).mono ?_
 rintro e w1 ⟨A1, n1, c1, rfl, hr1, hcp1, hcp1', hb⟩
 have F := qH hr1
 have hn1 : n1 ≤ 9000001 := by rw [← hr1.1, HF.out, HD.out, S.out.1]; omega
 have B := qH hb
 replace R := qH (R.out.to hb)
 clear hr1 hb
 go_wp2_with fail
 refine (rHmac A A1 n n1 c c1 k _ w1 R.out F.out hn (by omega)).mono ?_
 rintro e w2 ⟨rfl, hb⟩
 replace B := qH (B.out.trans (hb.mono B.out.size))
 clear hb
 go_wp2_with fail
 refine (rTagBytes _ w2 HL.out).mono ?_
 rintro e w3 h
 have H := qH (RetB.from B.out h)
 obtain ⟨A3, n3, c3, rfl, _, _⟩ := h
 go_wp2_with fail
 go_ret
 exact H.out
end
section
open Go.RowKit
end
end Go.Proofs.YtlmdidblgeeplaaGreatDoor