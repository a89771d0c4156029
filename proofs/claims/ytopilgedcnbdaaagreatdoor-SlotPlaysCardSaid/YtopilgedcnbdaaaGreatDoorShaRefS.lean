/- Contracts of the document's own Sum and Chain (citadelref03). -/
import Derived.Test.YtopilgedcnbdaaaGreatDoorTz
import Derived.Test.YtopilgedcnbdaaaGreatDoorShaRefT
namespace Go.Proofs.YtopilgedcnbdaaaGreatDoor
set_option maxRecDepth 1000000
set_option maxHeartbeats 8000000
open Go.RowKit
set_option linter.unusedVariables false
def SumRel (w1 : World) (all : List UInt8) (m : Nat) (s i : Value) (wr : World) : Prop :=
 ∃ (k : Nat) (A : Option Addr) (c : Nat), k ≤ m ∧ i = .int .i64 ((64 * k : Nat) : Int) ∧ s = .slice A 8 c ∧ RdK .u32 wr wr.heap.size A 8 (eatAll shaF all k) ∧ Below w1.heap.size w1 wr
theorem rSum (A : Option Addr) (n c : Nat) (bs : List UInt8) (w : World) (ha : Rd w w.heap.size A n bs) (hn : n ≤ 1000000000) :
  Calls Tryz.prog 15 #[.slice A n c] w fun e w' => e = .returned (.agg (arrB (shaL bs))) ∧ Below w.heap.size w w' := by
 have hz := tag_zero
 have HR : Hid (shaL bs = printL (sumAll bs)) := rfl
 have HU : Hid (sumAll bs = eatAll shaF (bs ++ tailL bs.length) ((bs.length + (tailL bs.length).length) / 64)) := rfl
 have hl := ha.1
 have htl := tail_whole n
 have htl2 := tailL_len n
 have hzo : zerosOf n < 64 := by unfold zerosOf; omega
 rw [hl] at HU
 generalize hm : (n + (tailL n).length) / 64 = m at *
 have hL : n + (tailL n).length = 64 * m := by omega
 have T0 : Hid (TagAt (w.alloc (.cells (arrB zeros32) 57)) w.heap.size zeros32) := ⟨rfl, heap_alloc_last w _⟩
 have B : Hid (Below w.heap.size w (w.alloc (.cells (arrB zeros32) 57))) := (Below.refl _ _).alloc (Nat.le_refl _) _
 have R := qH (ha.grow (.cells (arrB zeros32) 57))
 have HLl := qH hL
 have HLb := qH hl
 have hln : (tailL n).length ≤ 100 := by omega
 have HT := qH hln
 clear ha htl htl2 hzo hm hL hl hln
 go_enter Tryz.func15, Tryz.ntmps15
 go_wp2_with fail
 clear hz
 generalize w.alloc (.cells (arrB zeros32) 57) = w0 at *
 refine (rTail n w0 hn).mono ?_
 rintro e w1 ⟨A1, n1, c1, rfl, hown1, hb⟩
 have P := qH (Rd.of_own hown1)
 have hn1 : n1 ≤ 100 := by rw [← P.out.1]; exact HT.out
 replace T0 := qH (T0.out.below hb)
 clear hown1
 replace R := qH (R.out.to hb)
 replace B := qH (B.out.trans (hb.mono B.out.size))
 clear hb
 go_wp2_with fail
 refine (refCat A A1 n n1 c c1 bs _ w1 R.out P.out (by omega)).mono ?_
 rintro e w2 ⟨A2, n2, c2, rfl, hown2, hb⟩
 have M := qH (Rd.of_own hown2)
 obtain ⟨hc2, hc2'⟩ := own_cap hown2
 have hn2 : n2 = 64 * m := by rw [← M.out.1, List.length_append, HLb.out]; exact HLl.out
 have HN2 := qH hn2
 replace T0 := qH (T0.out.below hb)
 clear hown2 P hn2
 replace B := qH (B.out.trans (hb.mono B.out.size))
 clear hb
 go_wp2_with fail
 refine (wFirstRow w2).mono ?_
 rintro e w3 ⟨A3, n3, c3, rfl, hown3, hb⟩
 have F := qH (RdK.of_own hown3)
 obtain rfl : n3 = 8 := by rw [← F.out.1]; rfl
 replace T0 := qH (T0.out.below hb)
 clear hown3
 replace M := qH (M.out.to hb)
 replace B := qH (B.out.trans (hb.mono B.out.size))
 clear hb
 generalize bs ++ tailL n = all at *
 go_wp2_with fail
 go_loopw [4, 5] (fun s i wr => SumRel w3 all m s i wr) (fun _ i _ => n2 - (intOf i).toNat)
 case atStart => exact ⟨0, A3, c3, Nat.zero_le _, rfl, rfl, F.out, Below.refl _ _⟩
 case round =>
  obtain ⟨k, A4, c4, hk, rfl, rfl, hs, hb⟩ := hrel
  have S := qH hs
  have BT := qH hb
  have M' := qH (M.out.to hb)
  obtain ⟨p, hp⟩ : ∃ p : Nat, p = 64 * k := ⟨_, rfl⟩
  rw [← hp]
  have HP := qH hp
  have HK := qH hk
  have H8 := qH (eatAll_8 shaF_8 all k)
  clear hs hb hk hp
  by_cases hlt : p < n2
  ·have hkm : k < m := by have := HP.out; have := HN2.out; omega
   have hp64 : p + 64 ≤ n2 := by have := HP.out; have := HN2.out; omega
   obtain ⟨A5, c5, s5, hr5, hc5, hc5'⟩ := slice_lh isU8 A2 (l := p) (h := p + 64) (by omega) hp64 hc2
   replace s5 := s5 .i64 .i64
   rw [show p + 64 - p = 64 from by omega] at s5 hr5 hc5
   have e1 : ((p + 64 : Nat) : Int) = (p : Int) + 64 := by omega
   rw [e1] at s5
   have R5 := qH (hr5 _ _ _ M'.out)
   have HE : Hid (eatAll shaF all (k + 1) = eatL (eatAll shaF all k) ((all.take (p + 64)).drop p)) := by rw [HP.out]; rfl
   have HKM := qH hkm
   clear hr5 e1 hkm
   go_wp2_with fail
   refine (rEat A4 A5 c4 c5 _ _ wr S.out H8.out R5.out hc5 (by omega)).mono ?_
   rintro e w4 ⟨A6, n6, c6, rfl, hown6, hb⟩
   have F6 := qH (RdK.of_own hown6)
   rw [← HE.out] at F6
   obtain rfl : n6 = 8 := by rw [← F6.out.1]; exact (eatAll_8 shaF_8 all (k + 1)).1
   have BT' := qH (BT.out.trans (hb.mono BT.out.size))
   clear hown6 hb
   go_wp2_with fail
   go_roundw
   case rel => exact ⟨k + 1, A6, c6, HKM.out, by have := HP.out; rw [show 64 * (k + 1) = p + 64 from by omega]; go_num, rfl, F6.out, BT'.out⟩
   case measure => simp [intOf]; omega
  ·obtain rfl : k = m := by have := HP.out; have := HN2.out; have := HK.out; omega
   have T1 := qH (T0.out.below BT.out)
   have B1 := qH (B.out.trans (BT.out.mono B.out.size))
   clear T0 B BT M'
   go_wp2_with fail
   refine (rPrint A4 c4 _ wr S.out H8.out).mono ?_
   rintro e w5 ⟨rfl, hb⟩
   rw [← HU.out, ← HR.out]
   have T2 := qH (T1.out.below hb)
   have B2 := qH (B1.out.trans (hb.mono B1.out.size))
   have S1 := qH (tag_size (shaL_len bs))
   have E1 : Hid ((arrB zeros32).size = (arrB (shaL bs)).size) := by
    show _ = _
    rw [arrB_size, arrB_size, shaL_len]; rfl
   clear hb
   go_wp2_with (refine wpList_store_row rfl 57 _ _ rfl w.heap.size (arrB (shaL bs)) rfl rfl 57 (arrB zeros32) T2.out.2 S1.out E1.out (arrB_one _) ?_)
   (try simp only [Exit.inBlock, Exit.then])
   refine bodyPost_ret (v := .agg (arrB (shaL bs))) ?_ rfl ⟨rfl, below_setRow B2.out (Nat.le_refl _) _⟩
   exact results_cell_row rfl _ _ w.heap.size 57 (arrB (shaL bs)) (0, 0) _ rfl (setRow_heap _ _ _ _ _ _ T2.out.2) Tryz.underlying57 rfl S1.out
end Go.Proofs.YtopilgedcnbdaaaGreatDoor