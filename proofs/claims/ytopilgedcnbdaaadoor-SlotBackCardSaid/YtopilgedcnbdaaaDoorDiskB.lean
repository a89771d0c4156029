/- The program's disk (disk): a sector read, with the cache and without; the cached sectors' numbers; what stays; is it due. -/
import Derived.Test.YtopilgedcnbdaaaDoorTz
import Derived.Test.YtopilgedcnbdaaaDoorDiskA
import Derived.Laws.CopyOwn
namespace Go.Proofs.YtopilgedcnbdaaaDoor
set_option maxRecDepth 1000000
set_option maxHeartbeats 8000000
open Go.RowKit
set_option linter.unusedVariables false
set_option linter.unusedSimpArgs false
theorem dClone (a : Addr) (n c : Nat) (bs : List UInt8) (w : World) (h : Rd w w.heap.size (some a) n bs) (hn : n ≤ 140737488355328) :
  Calls Tryd.prog 30 #[.slice (some a) n c] w fun e w' => RetB 5 w bs e w' := by
 have R := qH h
 clear h
 have q := u8_nil
 have HO : Hid ((w.alloc (.cells #[] 5)).ownsRow w.heap.size 5 1 (.slice (some ⟨w.heap.size, 0, none⟩) 0 0) 0 (([] : List UInt8).map bval)) := own_top (w := w) (B := w.heap.size) [] 5 (Nat.le_refl _) (by simp) (by decide)
 go_enter Tryd.func30, Tryd.ntmps30
 go_wp2_with (at_builtin; refine wpList_pushAll isU8 rfl (.tmp 5) (.tmp 6) rfl (B := w.heap.size) (w := w) (bs := []) (k := 0) rfl rfl HO.out (R.out.grow _) ((Below.refl _ _).alloc (Nat.le_refl _) _) (by simp) (by omega) ?_; intro v1 w1 hown1 hb1 hs1)
 rw [List.nil_append, Nat.zero_add] at hown1
 have O1 := qH hown1
 have B1 := qH hb1
 clear hown1 hb1 hs1
 go_wp2_with fail
 go_ret
 exact RetB.mk O1.out B1.out
theorem rd_arr (w : World) (bs : List UInt8) {n : Nat} (hn : bs.length = n) (T : TypeId) : Rd (w.alloc (.cells (arrB bs) T)) (w.alloc (.cells (arrB bs) T)).heap.size (some ⟨w.heap.size, 0, none⟩) n bs := by
 have h := Rd.lit (w := w) bs (bs.map bval) T rfl
 rw [List.length_map, hn] at h
 exact h.more (by simp)
theorem dRead (d : Nat) (F : Nat → Prop) (s : DS) (i : Int) (w : World) (h : DkAt w d F s) : Calls Tryd.prog 16 #[.pointer (some ⟨d, 0, none⟩), .int .i64 i] w fun e w' =>
  ∃ A n c, e = .returned (.tuple #[.slice A n c, .int .i64 (s.read i).2]) ∧ w'.ownsRow w.heap.size 5 1 (.slice A n c) n ((s.read i).1.map bval) ∧ Below w.heap.size w w' := by
 have HST := qH (dState d F s w h)
 have H := qH (dHas d F s i w h)
 obtain ⟨fb, mb, stv, h⟩ := h
 obtain ⟨c0, c1, c2, c3, c4, z2, z3, z4⟩ := dkCell h.obj
 have HS := qH h.secs
 have HM := qH h.map
 have HOK := qH h.ok
 have HF := qH (h.lt _ h.ff)
 have hdl := heap_at_lt h.obj
 clear h
 go_enter Tryd.func16, Tryd.ntmps16
 go_wp2_with fail
 refine (HST.out).mono ?_
 rintro e w1 ⟨rfl, rfl⟩
 cases hu : s.up
 ·have HU := qH hu
  clear hu
  go_wp2_with fail
  go_ret2
  rw [DS.read, HU.out, if_pos rfl]
  exact ⟨none, 0, 0, rfl, ⟨rfl, .inl ⟨rfl, rfl⟩⟩, Below.refl _ _⟩
 have HU := qH hu
 clear hu
 go_wp2_with fail
 refine (H.out).mono ?_
 rintro e w1 ⟨rfl, rfl⟩
 cases hh : s.has i
 ·have HH := qH hh
  clear hh
  go_wp2_with fail
  go_ret2
  rw [DS.read, HU.out, if_neg (by decide), HH.out, if_pos rfl]
  exact ⟨none, 0, 0, rfl, ⟨rfl, .inl ⟨rfl, rfl⟩⟩, Below.refl _ _⟩
 have HH := qH hh
 have hz : 0 ≤ i ∧ i < (s.L.length : Int) := by simpa [DS.has] using hh
 clear hh
 obtain ⟨k, rfl⟩ : ∃ k : Nat, i = (k : Int) := ⟨i.toNat, by omega⟩
 have hk : k < s.L.length := by omega
 have hk1 : (k : Int) < (s.L.length : Int) := by omega
 have hlook := (HM.out.look HOK.out.len hk (sec_zero w)).1
 have HL0 := qH (HOK.out.secF hk)
 have HE : Hid ((s.read (k : Int)) = (Sec.now (secAt s.L k), 0)) := by
  show _ = _
  rw [DS.read, HU.out, if_neg (by decide), HH.out, if_neg (by decide), Int.toNat_natCast]
 have hz0 := sec_zero
 have HZL : Hid (sec0.length = 64) := rfl
 cases hc : (secAt s.L k).2 with
 | some c =>
  have HC := qH hc
  have HCL := qH (HOK.out.secC hk hc)
  have S1 := qH (sec_size HCL.out)
  have E1 : Hid ((arrB sec0).size = (arrB c).size) := by show _ = _; rw [arrB_size, arrB_size, HCL.out, HZL.out]
  rw [hc] at hlook
  simp only [Option.map_some, Option.getD_some, Option.isSome_some, secV] at hlook
  clear hc hk
  generalize hn : s.L.length = n at *
  have HN := qH hn
  clear hn
  simp only [secV] at hz0
  go_wp2_with (refine wpList_store_row rfl 73 _ _ rfl w.heap.size (arrB c) rfl rfl 73 (arrB sec0) (heap_alloc_last w _) S1.out E1.out (arrB_one _) ?_; rw [World.setRow_alloc_new])
  have RC : Hid (Rd (w.alloc (.cells (arrB c) 73)) (w.alloc (.cells (arrB c) 73)).heap.size (some ⟨w.heap.size, 0, none⟩) 64 c) := rd_arr w c HCL.out _
  have BC : Hid (Below w.heap.size w (w.alloc (.cells (arrB c) 73))) := (Below.refl _ _).alloc (Nat.le_refl _) _
  generalize w.alloc (.cells (arrB c) 73) = w1 at *
  refine (dClone ⟨w.heap.size, 0, none⟩ 64 64 c w1 RC.out (by decide)).mono ?_
  rintro e w2 hR
  obtain ⟨A, m, cc, rfl, hown, hb⟩ := RetB.from BC.out hR
  have O1 := qH hown
  have B1 := qH hb
  clear hown hb hR
  go_wp2_with fail
  go_ret2
  rw [HE.out]
  have e : Sec.now (secAt s.L k) = c := by unfold Sec.now; rw [HC.out]; rfl
  rw [e]
  exact ⟨A, m, cc, rfl, O1.out, B1.out⟩
 | none =>
  have HC := qH hc
  have S0 := qH (sec_size HZL.out)
  have S1 := qH (sec_size HL0.out)
  have SL := qH (sec_len HL0.out)
  have E1 : Hid ((arrB sec0).size = (arrB (secAt s.L k).1).size) := by show _ = _; rw [arrB_size, arrB_size, HL0.out, HZL.out]
  have HR : Hid (w.rangeAt fb (k * 64) ((secAt s.L k).1.map bval)) := by
   have h1 := HS.out.at_ k (by simpa using hk)
   have e1 : (s.L.map (·.1)).getD k [] = (secAt s.L k).1 := by simp [List.getD, secAt, hk]
   rw [e1] at h1
   exact h1
  have HR2 : Hid ((w.alloc (.cells (arrB sec0) 73)).rangeAt fb (k * 64) ((secAt s.L k).1.map bval)) := World.rangeAt_alloc HR.out _
  rw [hc] at hlook
  simp only [Option.map_none, Option.getD_none, Option.isSome_none, secV] at hlook
  clear hc hk
  generalize hn : s.L.length = n at *
  have HN := qH hn
  clear hn
  simp only [secV] at hz0
  obtain ⟨f, hf⟩ : ∃ f, (secAt s.L k).1 = f := ⟨_, rfl⟩
  rw [hf] at HL0 S1 SL E1 HR HR2
  have HFE := qH hf
  clear hf
  have T1 : True := trivial
  go_wp2_with (first
   | (have _t := T1; refine wpList_store_row rfl 73 _ _ rfl w.heap.size (arrB sec0) rfl rfl 73 (arrB sec0) (heap_alloc_last w _) S0.out rfl (arrB_one _) ?_; rw [World.setRow_alloc_new]; clear T1)
   | (refine wpList_load_mid rfl 73 _ rfl fb (k * 64) rfl (f.map bval) _ HR2.out Tryd.underlying73 rfl SL.out ?_)
   | (refine wpList_store_row rfl 73 _ _ rfl w.heap.size (arrB f) rfl rfl 73 (arrB sec0) (heap_alloc_last w _) S1.out E1.out (arrB_one _) ?_; rw [World.setRow_alloc_new]))
  have RC : Hid (Rd (w.alloc (.cells (arrB f) 73)) (w.alloc (.cells (arrB f) 73)).heap.size (some ⟨w.heap.size, 0, none⟩) 64 f) := rd_arr w f HL0.out _
  have BC : Hid (Below w.heap.size w (w.alloc (.cells (arrB f) 73))) := (Below.refl _ _).alloc (Nat.le_refl _) _
  generalize w.alloc (.cells (arrB f) 73) = w1 at *
  refine (dClone ⟨w.heap.size, 0, none⟩ 64 64 f w1 RC.out (by decide)).mono ?_
  rintro e w2 hR
  obtain ⟨A, m, cc, rfl, hown, hb⟩ := RetB.from BC.out hR
  have O1 := qH hown
  have B1 := qH hb
  clear hown hb hR
  go_wp2_with fail
  go_ret2
  rw [HE.out]
  have e : Sec.now (secAt s.L k) = f := by unfold Sec.now; rw [HC.out, HFE.out]; rfl
  rw [e]
  exact ⟨A, m, cc, rfl, O1.out, B1.out⟩
end Go.Proofs.YtopilgedcnbdaaaDoor