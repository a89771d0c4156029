/- Contracts of the document's own hmac (citadelref04): the tag, sealed messages. -/
import Derived.Test.YtgkmkkfnpoapfaaDoorHmacRef
import Derived.Test.YtgkmkkfnpoapfaaDoorShaH
import Derived.Deep.RegionHeld
namespace Go.Proofs.YtgkmkkfnpoapfaaDoor
open Go.RowKit
set_option linter.unusedVariables false
set_option linter.unusedSimpArgs false

/-- 'append(out, x...)' at a step of a region that draws: onto a row of the call's own, a slice that reads as bytes. -/
theorem step_pushAll {P : Program} {T U : TypeId} (L : U8 P T U) {ops : Array Oper} {o : Oper} {a : Act} {K : Act → World → Prop} {Q : Exit → Act → World → Prop} {E : Prop} (hgd : o.guard = none) (s x : Operand)
    (ho : o.op = .call { callee := .builtin .append, args := #[s, x], argTypes := #[T, T] }) {B B' n m c : Nat} {A : Option Addr} {w wx : World} {v : Value} {bs news : List UInt8} (hs : a.eval s = v)
    (hx : a.eval x = .slice A m c) (hm : 0 < m) (hown : wx.ownsRow B U 1 v n (bs.map bval)) (hr : Rd wx B' A m news) (hb : Below B w wx) (hB : B ≤ wx.heap.size) (hk : n + m ≤ 140737488355328)
    (h : ∀ v' w1, w1.ownsRow B U 1 v' (n + m) ((bs ++ news).map bval) → Below B w w1 → wx.heap.size ≤ w1.heap.size → K (a.put o.dst v') w1) :
    if Region.wanted o (yielded ops a.tmps) = true then Oper.wp P o a wx K Q else E := by
  obtain ⟨i0, hi, hz0, hz1, hz2⟩ := info_parts L.info
  obtain ⟨b, of, rfl, _, hc⟩ := hr.2 hm
  have hlen : news.length = m := hr.1
  refine step_append_lies wx hgd s x T ho B U i0 (.int .u8 0) 1 1 L.ul hi hz0 hz1 hz2 rfl (by decide) v n _ hs hown ⟨b, of, none⟩ m c (news.map bval) hx (by simpa using hlen) ?_ (bvals_one _) hm ?_ ?_ hB _ rfl ?_
  · intro j u hu
    have hj : j < m := by
      rcases Nat.lt_or_ge j m with g | g
      · exact g
      · rw [List.getElem?_eq_none (by simpa [hlen] using g)] at hu; cases hu
    have e : (⟨b, of, none⟩ : Addr).add j = ⟨b, of + j, none⟩ := by unfold Addr.add; split <;> simp_all
    rw [e, hc j hj, ← hu, List.getElem?_map, List.getElem?_eq_getElem (by omega), nth_of_lt (by omega)]
    rfl
  · unfold maxLen; omega
  · omega
  · intro g' cap w1 hown' hgrow _ _
    exact h _ w1 (by rw [List.map_append]; exact hown') (hb.grown hgrow hB (fun j hj => (hown.lt j hj).1)) hgrow.size

theorem tag_setRowOther {w : World} {g g' : Nat} {bs : List UInt8} (h : TagAt w g bs) (cs : Array Value) (hne : g ≠ g') : TagAt (w.setRow g' cs) g bs :=
  ⟨h.1, by rw [setRow_other w g' g cs hne]; exact h.2⟩

set_option maxRecDepth 1000000 in
set_option maxHeartbeats 1000000 in
theorem rHmac (A A' : Option Addr) (n m c d : Nat) (k bs : List UInt8) (w : World) (ha : Rd w w.heap.size A n k) (hb : Rd w w.heap.size A' m bs) (hn : n ≤ 1000000000) (hm : m ≤ 999999000) :
    Calls Tryd.prog 10 #[.slice A n c, .slice A' m d] w fun e w' => e = .returned (.agg (arrB (hmacL k bs))) ∧ Below w.heap.size w w' := by
  have hz := tag_zero
  have HX : Hid (hmacL k bs = shaL (maskL k 92 ++ shaL (maskL k 54 ++ bs))) := rfl
  have HBl := Lib.hid hb.1
  have HM1 := Lib.hid (maskL_len k 54)
  have HM2 := Lib.hid (maskL_len k 92)
  have T0 : Hid (TagAt (w.alloc (.cells (arrB zeros32) 25)) w.heap.size zeros32) := ⟨rfl, heap_alloc_last w _⟩
  have B : Hid (Below w.heap.size w (w.alloc (.cells (arrB zeros32) 25))) := (Below.refl _ _).alloc (Nat.le_refl _) _
  have R := Lib.hid (ha.to B.out)
  have S := Lib.hid (hb.to B.out)
  clear ha hb
  go_enter Tryd.func10, Tryd.ntmps10
  go_wp2_with fail
  generalize w.alloc (.cells (arrB zeros32) 25) = w0 at *
  refine (rMasked A n c k 54 w0 R.out hn).mono ?_
  generalize maskL k 54 = mi at *
  rintro e w1 ⟨A1, n1, c1, rfl, hown1, hb⟩
  obtain rfl : n1 = 64 := by rw [← (Rd.of_own hown1).1]; exact HM1.out
  have O := Lib.hid hown1
  have B0 := Lib.hid hb
  have S1 := Lib.hid (S.out.to hb)
  clear hown1 hb
  go_wp2_with (at_builtin; refine wpList_pushAll isU8 rfl _ _ rfl rfl rfl O.out S1.out B0.out B0.out.size (by omega) ?_; intro v2 w2 hown2 hbel2 hsz2)
  obtain ⟨A2, c2, rfl⟩ := own_slice hown2
  have M := Lib.hid (Rd.of_own hown2)
  replace T0 := Lib.hid (T0.out.below hbel2)
  clear hown2 O B0 S1 hsz2
  replace R := Lib.hid (R.out.to hbel2)
  replace S := Lib.hid (S.out.to hbel2)
  replace B := Lib.hid (B.out.trans (hbel2.mono B.out.size))
  clear hbel2
  refine (rSum A2 (64 + m) c2 _ w2 M.out (by omega)).mono ?_
  generalize hin : shaL (mi ++ bs) = ti at *
  have HI := Lib.hid hin
  have hti : ti.length = 32 := by rw [← hin]; exact shaL_len _
  have HTI := Lib.hid hti
  clear hin hti
  rintro e w3 ⟨rfl, hb⟩
  replace T0 := Lib.hid (T0.out.below hb)
  replace R := Lib.hid (R.out.to hb)
  replace S := Lib.hid (S.out.to hb)
  replace B := Lib.hid (B.out.trans (hb.mono B.out.size))
  clear hb
  clear M
  have S1 := Lib.hid (tag_size HTI.out)
  have E1 : Hid ((arrB zeros32).size = (arrB ti).size) := by
    show _ = _
    rw [arrB_size, arrB_size, HTI.out]; rfl
  go_wp2_with (refine wpList_store_row rfl 25 _ _ rfl w3.heap.size (arrB ti) rfl rfl 25 (arrB zeros32) (heap_alloc_last w3 _) S1.out E1.out (arrB_one _) ?_; rw [World.setRow_alloc_new])
  have hb1 : Below w3.heap.size w3 (w3.alloc (.cells (arrB ti) 25)) := (Below.refl _ _).alloc (Nat.le_refl _) _
  have HGL : Hid (w.heap.size < w3.heap.size) := heap_at_lt T0.out.2
  have T1 : Hid (TagAt (w3.alloc (.cells (arrB ti) 25)) w3.heap.size ti) := ⟨HTI.out, heap_alloc_last w3 _⟩
  replace T0 := Lib.hid (T0.out.below hb1)
  replace R := Lib.hid (R.out.to hb1)
  replace S := Lib.hid (S.out.to hb1)
  replace B := Lib.hid (B.out.trans (hb1.mono B.out.size))
  clear hb1
  clear E1 hz
  generalize w3.heap.size = g at *
  generalize w3.alloc (.cells (arrB ti) 25) = w4 at *
  have hu := Tryd.underlying25
  have hi : (Tryd.prog.info? 25).map (·.size) = some (ti.map bval).length := by rw [List.length_map, HTI.out]; exact (zero_of_info tag_info).2
  replace R := Lib.hid R.out.drew'
  replace T0 : Hid (TagAt w4.drew w.heap.size zeros32) := T0.out
  replace T1 : Hid (TagAt w4.drew g ti) := T1.out
  replace B := Lib.hid B.out.drew
  have BT := Lib.hid (Below.refl w4.drew.heap.size w4.drew)
  have h0 : TagAt w4 g ti := T1.out
  have HTI2 : Hid (TagAt w4 g ti) := h0
  clear h0 S
  generalize hwd : w4.drew = wd at *
  have HWD := Lib.hid hwd
  clear hwd
  have S0 := Lib.hid (tag_size (shaL_len (maskL k 92 ++ ti)))
  have E0 : Hid ((arrB zeros32).size = (arrB (hmacL k bs)).size) := by
    show _ = _
    rw [arrB_size, arrB_size, hmacL_len]; rfl
  refine wp_region_held_drew (S := (fun w' => w'.rangeAt g 0 (ti.map bval))) (by kernel_rfl) ((by rw [HWD.out]; exact T1.out.range)) (fun hHeld => ?_)
  rw [HWD.out] at hHeld ⊢
  refine wpAnyH_take (i := 0) (v := ?_) rfl (by kernel_rfl) (by kernel_rfl) (by kernel_rfl) (fun _ _ _ h => h) (Or.inl ⟨by rfl, ?_⟩) (by assumption) ?_
  rotate_left 1
  · intro w hSw; (try dsimp only at hSw); go_simp; (try with_reducible rfl)
  simp only [Act.put, List.getElem_toArray, List.getElem_cons_zero, List.getElem_cons_succ, List.setIfInBounds_toArray, List.set_cons_zero, List.set_cons_succ]
  refine wpAnyH_take (i := 2) (v := .agg (List.toArray (ti.map bval))) rfl (by kernel_rfl) (by kernel_rfl) (by kernel_rfl) (fun _ _ _ h => h) (yieldsIf_load_mid (by rfl) 25 _ rfl g 0 rfl (ti.map bval) _ (fun _ h => h) hu rfl hi) (by assumption) ?_
  simp only [Act.put, List.getElem_toArray, List.getElem_cons_zero, List.getElem_cons_succ, List.setIfInBounds_toArray, List.set_cons_zero, List.set_cons_succ]
  refine wpAnyH_ready (rs := [1]) (by kernel_rfl) (by simp) ?_
  refine AllReadyH.cons rfl (fun K hK => ?_) AllReadyH.nil
  go_simp
  refine (rMasked A n c k 92 _ R.out hn).mono ?_
  generalize maskL k 92 = mo at *
  rintro e w5 ⟨A5, n5, c5, rfl, hown5, hb⟩
  obtain rfl : n5 = 64 := (Rd.of_own hown5).1.symm.trans HM2.out
  have O := Lib.hid hown5
  replace BT := Lib.hid (BT.out.trans (hb.mono BT.out.size))
  clear hown5 hb
  go_wp2_with fail
  refine hK.out _ _ ((T1.out.below BT.out).range) (fun hHeld => ?_)
  clear hK K
  refine wpAnyH_ready (rs := [3]) (by kernel_rfl) (by simp) ?_
  refine AllReadyH.cons rfl (fun K hK => ?_) AllReadyH.nil
  go_simp
  refine (rTagBytes ti _ HTI.out).mono ?_
  rintro e w6 ⟨A6, n6, c6, rfl, hown6, hb⟩
  obtain rfl : n6 = 32 := (Rd.of_own hown6).1.symm.trans HTI.out
  have U := Lib.hid (Rd.of_own hown6)
  replace O := Lib.hid (own_below O.out hb)
  replace BT := Lib.hid (BT.out.trans (hb.mono BT.out.size))
  clear hown6 hb
  go_wp2_with fail
  refine hK.out _ _ ((T1.out.below BT.out).range) (fun hHeld => ?_)
  clear hK K
  refine wpAnyH_ready (rs := [4]) (by kernel_rfl) (by simp) ?_
  refine AllReadyH.cons rfl (fun K hK => ?_) AllReadyH.nil
  refine step_pushAll isU8 rfl (.tmp 12) (.tmp 14) rfl rfl rfl (by decide) O.out U.out BT.out BT.out.size (by decide) ?_
  intro v7 w7 hown7 hbel7 hsz7
  obtain ⟨A7, c7, rfl⟩ := own_slice hown7
  have M := Lib.hid (Rd.of_own hown7)
  replace BT := Lib.hid hbel7
  clear hown7 hbel7 hsz7 O U
  refine hK.out _ _ ((T1.out.below BT.out).range) (fun hHeld => ?_)
  clear hK K
  simp only [Act.put, List.getElem_toArray, List.getElem_cons_zero, List.getElem_cons_succ, List.setIfInBounds_toArray, List.set_cons_zero, List.set_cons_succ]
  refine wpAnyH_ready (rs := [5]) (by kernel_rfl) (by simp) ?_
  refine AllReadyH.cons rfl (fun K hK => ?_) AllReadyH.nil
  go_simp
  refine (rSum A7 (64 + 32) c7 _ _ M.out (by decide)).mono ?_
  rintro e w8 ⟨rfl, hb⟩
  rw [← HX.out]
  replace BT := Lib.hid (BT.out.trans (hb.mono BT.out.size))
  clear hb M
  go_wp2_with fail
  refine hK.out _ _ ((T1.out.below BT.out).range) (fun hHeld => ?_)
  clear hK K
  have TT := Lib.hid (T0.out.below BT.out)
  have S2 := Lib.hid (tag_size (hmacL_len k bs))
  have BG := Lib.hid (T1.out.below BT.out)
  have HNE : Hid (w.heap.size ≠ g) := by
    show _ ≠ _
    have := HGL.out
    omega
  refine wpAnyH_ready (rs := [6]) (by kernel_rfl) (by simp) ?_
  refine AllReadyH.cons rfl (fun K hK => ?_) AllReadyH.nil
  rw [if_pos (by rfl)]
  refine wp_store_row0 25 _ _ rfl rfl w.heap.size (arrB (hmacL k bs)) rfl rfl 25 _ TT.out.2 S2.out E0.out (arrB_one _) ?_
  refine hK.out _ _ (((tag_setRowOther BG.out _ HNE.out.symm).range)) (fun hHeld => ?_)
  clear hK K
  refine wpAnyH_done (by kernel_rfl) ?_ _
  have BB := Lib.hid (below_setRow (B.out.trans (BT.out.mono B.out.size)) (Nat.le_refl _) (arrB (hmacL k bs)) (g := w.heap.size))
  replace TT := Lib.hid (TT.out.setRow (hmacL_len k bs))
  generalize w8.setRow w.heap.size (arrB (hmacL k bs)) = w9 at *
  clear hHeld
  go_wp2_with fail
  (try simp only [Exit.inBlock, Exit.then])
  refine bodyPost_ret (v := .agg (arrB (hmacL k bs))) ?_ rfl ⟨rfl, BB.out⟩
  exact results_cell_row rfl _ _ w.heap.size 25 (arrB (hmacL k bs)) (0, 0) _ rfl TT.out.2 Tryd.underlying25 rfl S2.out
end Go.Proofs.YtgkmkkfnpoapfaaDoor
