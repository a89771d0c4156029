/- Contracts of the program's digest, Sum, Chain (sha). -/
import Derived.Test.YtopilgedcnbdaaaDoorTz
import Derived.Test.YtopilgedcnbdaaaDoorShaD
import Derived.Test.YtopilgedcnbdaaaDoorShaT
namespace Go.Proofs.YtopilgedcnbdaaaDoor
set_option maxRecDepth 1000000
set_option maxHeartbeats 8000000
open Go.RowKit
set_option linter.unusedVariables false
set_option linter.unusedSimpArgs false
theorem eatAll_pre (s : List Nat) (xs ys : List UInt8) : ∀ i, 64 * i ≤ xs.length → eatAll s (xs ++ ys) i = eatAll s xs i
 | 0, _ => rfl
 | i + 1, h => by
  have ih := eatAll_pre s xs ys i (by omega)
  simp only [eatAll]
  rw [ih, List.take_append_of_le_length (by omega)]
theorem eatAll_app (s : List Nat) {xs ys : List UInt8} {m : Nat} (h : xs.length = 64 * m) : ∀ i, eatAll s (xs ++ ys) (m + i) = eatAll (eatAll s xs m) ys i
 | 0 => eatAll_pre s xs ys m (by omega)
 | i + 1 => by
  have ih := eatAll_app s (ys := ys) h i
  have e : ((xs ++ ys).take (64 * (m + i) + 64)).drop (64 * (m + i)) = (ys.take (64 * i + 64)).drop (64 * i) := by
   rw [List.take_append, List.drop_append, List.drop_of_length_le (by simp; omega), List.nil_append]
   have e1 : 64 * (m + i) + 64 - xs.length = 64 * i + 64 := by omega
   have e2 : 64 * (m + i) - (xs.take (64 * (m + i) + 64)).length = 64 * i := by simp; omega
   rw [e1, e2]
  show eatL (eatAll s (xs ++ ys) (m + i)) (((xs ++ ys).take (64 * (m + i) + 64)).drop (64 * (m + i))) = _
  rw [ih, e]
  rfl
theorem TagAt.setRowOther {w : World} {g g' : Nat} {bs : List UInt8} (h : TagAt w g bs) (cs : Array Value) (hne : g ≠ g') : TagAt (w.setRow g' cs) g bs :=
 ⟨h.1, by rw [setRow_other w g' g cs hne]; exact h.2⟩
theorem sum_split {bs : List UInt8} {n m1 m2 : Nat} (hl : bs.length = n) (h1 : 64 * m1 ≤ n) (h2 : n - 64 * m1 + (tailL n).length = 64 * m2) :
  sumAll bs = eatAll (eatAll shaF (bs.take (64 * m1)) m1) (bs.drop (64 * m1) ++ tailL n) m2 := by
 unfold sumAll
 rw [hl, show (n + (tailL n).length) / 64 = m1 + m2 from by omega]
 have e : bs ++ tailL n = bs.take (64 * m1) ++ (bs.drop (64 * m1) ++ tailL n) := by rw [← List.append_assoc, List.take_append_drop]
 rw [e, eatAll_app shaF (by simp; omega)]
theorem wDigest (A : Option Addr) (n c : Nat) (bs : List UInt8) (w : World) (hp : Pr w) (ha : Rd w w.heap.size A n bs) (hn : n ≤ 1000000000) (hc : n ≤ c) (hc' : c ≤ 9223372036854775807) :
  Calls Tryd.prog 20 #[.slice A n c, .agg (arrN .u32 shaK)] w fun e w' => e = .returned (.agg (arrB (shaL bs))) ∧ Below w.heap.size w w' := by
 have hz := tag_zero
 have hz8 := st_zero
 obtain ⟨m1, hm1⟩ : ∃ m, m = n / 64 := ⟨_, rfl⟩
 obtain ⟨q, hq⟩ : ∃ q, q = 64 * m1 := ⟨_, rfl⟩
 have htw := tail_whole n
 have htl : (tailL n).length ≤ 100 := by rw [tailL_len]; unfold zerosOf; omega
 obtain ⟨m2, hm2⟩ : ∃ m, m = (n - q + (tailL n).length) / 64 := ⟨_, rfl⟩
 have hL2 : n - q + (tailL n).length = 64 * m2 := by omega
 have HSP : Hid (shaL bs = printL (eatAll (eatAll shaF (bs.take q) m1) (bs.drop q ++ tailL n) m2)) := by
  show _ = _
  rw [shaL, sum_split (n := n) (m1 := m1) (m2 := m2) ha.1 (by omega) (by rw [← hq]; exact hL2), ← hq]
 have hqn : q ≤ n := by omega
 have i1 : (n : Int) - (n : Int) % 64 = (q : Int) := by omega
 have HQ := qH hq
 have HL2 := qH hL2
 have HTL := qH htl
 have HE1 := qH (eatAll_8 shaF_8 (bs.take q) m1)
 have HE2 := qH (eatAll_8 HE1.out (bs.drop q ++ tailL n) m2)
 have N0 : Hid (NumAt 66 .u32 ((w.alloc (.cells (arrN .u32 shaK) 66)).alloc (.cells (arrB zeros32) 41)) w.heap.size shaK) := (NumAt.new _ .u32 w shaK).alloc _
 have T1 : Hid (TagAt ((w.alloc (.cells (arrN .u32 shaK) 66)).alloc (.cells (arrB zeros32) 41)) (w.heap.size + 1) zeros32) := by
  have h := heap_alloc_last (w.alloc (.cells (arrN .u32 shaK) 66)) (.cells (arrB zeros32) 41)
  rw [show (w.alloc (.cells (arrN .u32 shaK) 66)).heap.size = w.heap.size + 1 from by simp] at h
  exact ⟨rfl, h⟩
 have B : Hid (Below w.heap.size w ((w.alloc (.cells (arrN .u32 shaK) 66)).alloc (.cells (arrB zeros32) 41))) := ((Below.refl _ _).alloc (Nat.le_refl _) _).alloc (by simp) _
 have R := qH (ha.to B.out)
 have P := qH (hp.to B.out)
 have HK64 := qH (k_size (xs := shaK) rfl)
 have s0 := slice_h isU8 A hqn hc .i64
 obtain ⟨A5, c5, s5, hr5, hc5, hc5'⟩ := slice_l isU8 A hqn hc
 replace s5 := s5 .i64
 have HR5 := qH hr5
 clear ha hp hm1 hq htw htl hm2 hL2 hr5
 go_enter Tryd.func20, Tryd.ntmps20
 go_wp2_with fail
 generalize ((w.alloc (.cells (arrN .u32 shaK) 66)).alloc (.cells (arrB zeros32) 41)) = w0 at *
 replace R : Hid (Rd w0.drew w0.drew.heap.size A n bs) := R.out.drew'
 replace P := qH P.out.drew
 replace B := qH B.out.drew
 replace N0 := qH N0.out.drew
 replace T1 : Hid (TagAt w0.drew (w.heap.size + 1) zeros32) := T1.out
 have BT := qH (Below.refl w0.drew.heap.size w0.drew)
 have HES := qH (st_size HE1.out.1)
 have HEE := qH (same_size (k := .u32) (xs := zeros8) (ys := eatAll shaF (bs.take q) m1) HE1.out.1.symm)
 obtain ⟨ss, hss⟩ : ∃ ss, eatAll shaF (bs.take q) m1 = ss := ⟨_, rfl⟩
 rw [hss] at HSP HE1 HE2 HES HEE
 have HSS := qH hss
 clear hss hz
 generalize hwd : w0.drew = wd at *
 have HWD := qH hwd
 clear hwd
 have HNE0 : Hid (∀ g, wd.heap.size ≤ g → w.heap.size ≠ g) := fun g hg => by have := N0.out.lt; omega
 obtain ⟨pl, hpl⟩ : ∃ pl, eatAll ss (bs.drop q ++ tailL n) m2 = pl := ⟨_, rfl⟩
 rw [hpl] at HSP HE2
 have HPL := qH hpl
 have HTS := qH (tag_size (printL_len HE2.out.1))
 have HTE : Hid ((arrB zeros32).size = (arrB (printL pl)).size) := by
  show _ = _
  rw [arrB_size, arrB_size, printL_len HE2.out.1]; rfl
 clear hpl
 have HDL : Hid (n - q + (tailL n).length ≤ 2000000000) := by show _ ≤ _; have := HTL.out; omega
 have HT1L : Hid (∀ g, wd.heap.size ≤ g → w.heap.size + 1 ≠ g) := fun g hg => by have := heap_at_lt T1.out.2; omega
 have HN8 : Hid (∀ k, (bs.drop q ++ tailL n).length = k → k = 64 * m2) := fun k hk => by rw [← hk, List.length_append, List.length_drop, R.out.1]; exact HL2.out
 have HD4 : Hid (∀ k, (tailL n).length = k → n - q + k ≤ 140737488355328) := fun k hk => by have := HDL.out; omega
 have HM8 : Hid (∀ k, k = 64 * m2 → k ≤ 2000000000) := fun k hk => by have := HDL.out; have := HL2.out; omega
 refine wp_region_held_drew (S := (fun w' => NumAt 66 .u32 w' w.heap.size shaK)) (by kernel_rfl) ((by rw [HWD.out]; exact N0.out)) (fun hHeld => ?_)
 rw [HWD.out]
 refine tk 1 ?_
 simp only [pR]
 refine tk 2 ?_
 simp only [pR]
 refine tk 3 ?_
 simp only [pR]
 refine tl 4 (.agg (arrN .u32 shaK)) rfl (yieldsIf_load_row (by rfl) 66 _ rfl w.heap.size rfl 66 (arrN .u32 shaK) (0, 0) _ (fun _ h => h) Tryd.underlying66 rfl HK64.out) ?_
 simp only [pR]
 refine wpAnyH_ready (rs := [0, 6]) (by kernel_rfl) (by simp) ?_
 refine AllReadyH.cons rfl (fun K hK => ?_) (AllReadyH.cons rfl (fun K hK => ?_) AllReadyH.nil)
 ·skip
  go_simp
  refine (wFirst _ (P.out.to BT.out)).mono ?_
  rintro e w5 ⟨rfl, hb⟩
  replace BT := qH (BT.out.trans (hb.mono BT.out.size))
  clear hb
  go_wp2_with fail
  refine hK.out _ _ ((N0.out.to BT.out)) (fun hHeld => ?_)
  clear hK K
  refine wpAnyH_ready (rs := [5, 6]) (by kernel_rfl) (by simp) ?_
  refine AllReadyH.cons rfl (fun K hK => ?_) (AllReadyH.cons rfl (fun K hK => ?_) AllReadyH.nil)
  ·skip
   go_simp
   refine (wEatAll A q c m1 shaF (bs.take q) _ shaF_8 ((R.out.to BT.out).front hqn) HQ.out (by omega) hc' (by omega)).mono ?_
   rintro e w6 ⟨rfl, hb⟩
   rw [HSS.out]
   replace BT := qH (BT.out.trans (hb.mono BT.out.size))
   clear hb
   go_wp2_with fail
   refine hK.out _ _ ((N0.out.to BT.out)) (fun hHeld => ?_)
   clear hK K
   refine rd1 6 (fun K hK => ?_)
   go_simp
   refine hK.out _ _ (((N0.out.to BT.out).alloc _)) (fun hHeld => ?_)
   clear hK K
   have hba : Below w6.heap.size w6 (w6.alloc (.cells (arrN .u32 zeros8) 81)) := (Below.refl _ _).alloc (Nat.le_refl _) _
   have N6 := qH (NumAt.new 81 .u32 w6 zeros8)
   have HG : Hid (wd.heap.size ≤ w6.heap.size) := BT.out.size
   replace BT := qH (BT.out.trans (hba.mono BT.out.size))
   generalize w6.heap.size = g6 at *
   generalize w6.alloc (.cells (arrN .u32 zeros8) 81) = w7 at *
   clear hba hHeld
   refine rd1 7 (fun K hK => ?_)
   rw [if_pos (by rfl)]
   refine wp_store_row0 81 _ _ rfl rfl g6 (arrN .u32 ss) rfl rfl 81 _ N6.out HES.out HEE.out (arrN_one _ _) ?_
   refine hK.out _ _ (((N0.out.to BT.out).setRowOther _ (HNE0.out _ HG.out))) (fun hHeld => ?_)
   clear hK K
   replace N6 := qH (N6.out.setRow (xs := ss))
   replace BT := qH (below_setRow BT.out HG.out (arrN .u32 ss))
   generalize w7.setRow g6 (arrN .u32 ss) = w9 at *
   clear hHeld
   refine wpAnyH_done (by kernel_rfl) ?_ _
   go_wp2_with fail
   replace N6 := qH N6.out.drew
   replace BT := qH BT.out.drew
   refine wp_region_held_drew (S := (fun w' => NumAt 81 .u32 w' g6 ss ∧ NumAt 66 .u32 w' w.heap.size shaK)) (by kernel_rfl) (⟨N6.out, N0.out.to BT.out⟩) (fun hHeld => ?_)
   refine tl 0 (.agg (arrN .u32 ss)) rfl (yieldsIf_load_row (by rfl) 81 _ rfl g6 rfl 81 (arrN .u32 ss) (0, 0) _ (fun _ h => h.1) Tryd.underlying81 rfl HES.out) ?_
   simp only [pR]
   refine tk 1 ?_
   simp only [pR]
   refine tk 2 ?_
   simp only [pR]
   refine tk 3 ?_
   simp only [pR]
   refine tk 4 ?_
   simp only [pR]
   refine tk 5 ?_
   simp only [pR]
   refine tl 9 (.agg (arrN .u32 shaK)) rfl (yieldsIf_load_row (by rfl) 66 _ rfl w.heap.size rfl 66 (arrN .u32 shaK) (0, 0) _ (fun _ h => h.2) Tryd.underlying66 rfl HK64.out) ?_
   simp only [pR]
   refine rd1 6 (fun K hK => ?_)
   go_simp
   refine (wTail n _ hn).mono ?_
   rintro e w5 ⟨A4, n4, c4, rfl, hown4, hb⟩
   have U := qH (Rd.of_own hown4)
   replace BT := qH (BT.out.trans (hb.mono BT.out.size))
   replace N6 := qH (N6.out.to hb)
   clear hb hown4
   go_wp2_with fail
   refine hK.out _ _ (⟨N6.out, N0.out.to BT.out⟩) (fun hHeld => ?_)
   clear hK K
   refine rd1 7 (fun K hK => ?_)
   go_simp
   refine hK.out _ _ (⟨N6.out.alloc _, (N0.out.to BT.out).alloc _⟩) (fun hHeld => ?_)
   clear hK K
   refine rd1 8 (fun K hK => ?_)
   go_simp
   refine (wCat2 A5 A4 (n - q) n4 c5 c4 _ _ w5 (HR5.out _ _ _ (R.out.to BT.out)) U.out (HD4.out _ U.out.1)).mono ?_
   rintro e w8 ⟨A8, n8, c8, rfl, hown8, hb⟩
   have M := qH (Rd.of_own hown8)
   obtain ⟨hcap8, hcap8'⟩ := own_cap hown8
   have HN := qH (HN8.out _ M.out.1)
   replace BT := qH (BT.out.trans (hb.mono BT.out.size))
   replace N6 := qH (N6.out.to hb)
   clear hb hown8 U
   go_wp2_with fail
   refine hK.out _ _ (⟨N6.out, N0.out.to BT.out⟩) (fun hHeld => ?_)
   clear hK K
   refine rd1 10 (fun K hK => ?_)
   go_simp
   refine (wEatAll A8 n8 c8 m2 ss (bs.drop q ++ tailL n) _ HE1.out M.out HN.out hcap8 hcap8' (HM8.out _ HN.out)).mono ?_
   rintro e w10 ⟨rfl, hb⟩
   rw [HPL.out]
   replace BT := qH (BT.out.trans (hb.mono BT.out.size))
   replace N6 := qH (N6.out.to hb)
   clear hb M
   go_wp2_with fail
   refine hK.out _ _ (⟨N6.out, N0.out.to BT.out⟩) (fun hHeld => ?_)
   clear hK K
   refine rd1 11 (fun K hK => ?_)
   go_simp
   refine (wPrintT pl _ HE2.out).mono ?_
   rintro e w11 ⟨rfl, hb⟩
   replace BT := qH (BT.out.trans (hb.mono BT.out.size))
   replace N6 := qH (N6.out.to hb)
   clear hb
   go_wp2_with fail
   refine hK.out _ _ (⟨N6.out, N0.out.to BT.out⟩) (fun hHeld => ?_)
   clear hK K
   have TT := qH (T1.out.below BT.out)
   have HGT : Hid (w.heap.size + 1 ≠ g6) := HT1L.out _ HG.out
   refine rd1 12 (fun K hK => ?_)
   rw [if_pos (by rfl)]
   refine wp_store_row0 41 _ _ rfl rfl (w.heap.size + 1) (arrB (printL pl)) rfl rfl 41 _ TT.out.2 HTS.out HTE.out (arrB_one _) ?_
   refine hK.out _ _ (⟨N6.out.setRowOther _ HGT.out.symm, (N0.out.to BT.out).setRowOther _ (Nat.ne_of_lt (Nat.lt_succ_self _))⟩) (fun hHeld => ?_)
   clear hK K
   refine wpAnyH_done (by kernel_rfl) ?_ _
   have BB := qH (below_setRow (B.out.trans (BT.out.mono B.out.size)) (Nat.le_succ _) (arrB (printL pl)) (g := w.heap.size + 1))
   replace TT := qH (TT.out.setRow (printL_len HE2.out.1))
   generalize w11.setRow (w.heap.size + 1) (arrB (printL pl)) = w12 at *
   clear hHeld
   go_wp2_with fail
   (try simp only [Exit.inBlock, Exit.then])
   refine bodyPost_ret (v := .agg (arrB (printL pl))) ?_ rfl ⟨by rw [HSP.out], BB.out⟩
   exact results_cell_row rfl _ _ (w.heap.size + 1) 41 (arrB (printL pl)) (0, 0) _ rfl TT.out.2 Tryd.underlying41 rfl HTS.out
  ·skip
   go_simp
   refine hK.out _ _ (((N0.out.to BT.out).alloc _)) (fun hHeld => ?_)
   clear hK K
   have hba : Below w5.heap.size w5 (w5.alloc (.cells (arrN .u32 zeros8) 81)) := (Below.refl _ _).alloc (Nat.le_refl _) _
   have N6 := qH (NumAt.new 81 .u32 w5 zeros8)
   obtain ⟨g6, hg6⟩ : ∃ g, w5.heap.size = g := ⟨_, rfl⟩
   have HG : Hid (wd.heap.size ≤ g6) := by (show _ ≤ _); rw [← hg6]; exact BT.out.size
   replace BT := qH (BT.out.trans (hba.mono BT.out.size))
   rw [hg6] at N6 ⊢
   clear hg6 hba hHeld
   generalize w5.alloc (.cells (arrN .u32 zeros8) 81) = w6 at *
   refine rd1 5 (fun K hK => ?_)
   go_simp
   refine (wEatAll A q c m1 shaF (bs.take q) _ shaF_8 ((R.out.to BT.out).front hqn) HQ.out (by omega) hc' (by omega)).mono ?_
   rintro e w7 ⟨rfl, hb⟩
   rw [HSS.out]
   replace BT := qH (BT.out.trans (hb.mono BT.out.size))
   replace N6 := qH (N6.out.to hb)
   clear hb
   go_wp2_with fail
   refine hK.out _ _ ((N0.out.to BT.out)) (fun hHeld => ?_)
   clear hK K
   refine rd1 7 (fun K hK => ?_)
   rw [if_pos (by rfl)]
   refine wp_store_row0 81 _ _ rfl rfl g6 (arrN .u32 ss) rfl rfl 81 _ N6.out HES.out HEE.out (arrN_one _ _) ?_
   refine hK.out _ _ (((N0.out.to BT.out).setRowOther _ (HNE0.out _ HG.out))) (fun hHeld => ?_)
   clear hK K
   replace N6 := qH (N6.out.setRow (xs := ss))
   replace BT := qH (below_setRow BT.out HG.out (arrN .u32 ss))
   generalize w7.setRow g6 (arrN .u32 ss) = w9 at *
   clear hHeld
   refine wpAnyH_done (by kernel_rfl) ?_ _
   go_wp2_with fail
   replace N6 := qH N6.out.drew
   replace BT := qH BT.out.drew
   refine wp_region_held_drew (S := (fun w' => NumAt 81 .u32 w' g6 ss ∧ NumAt 66 .u32 w' w.heap.size shaK)) (by kernel_rfl) (⟨N6.out, N0.out.to BT.out⟩) (fun hHeld => ?_)
   refine tl 0 (.agg (arrN .u32 ss)) rfl (yieldsIf_load_row (by rfl) 81 _ rfl g6 rfl 81 (arrN .u32 ss) (0, 0) _ (fun _ h => h.1) Tryd.underlying81 rfl HES.out) ?_
   simp only [pR]
   refine tk 1 ?_
   simp only [pR]
   refine tk 2 ?_
   simp only [pR]
   refine tk 3 ?_
   simp only [pR]
   refine tk 4 ?_
   simp only [pR]
   refine tk 5 ?_
   simp only [pR]
   refine tl 9 (.agg (arrN .u32 shaK)) rfl (yieldsIf_load_row (by rfl) 66 _ rfl w.heap.size rfl 66 (arrN .u32 shaK) (0, 0) _ (fun _ h => h.2) Tryd.underlying66 rfl HK64.out) ?_
   simp only [pR]
   refine rd1 6 (fun K hK => ?_)
   go_simp
   refine (wTail n _ hn).mono ?_
   rintro e w5 ⟨A4, n4, c4, rfl, hown4, hb⟩
   have U := qH (Rd.of_own hown4)
   replace BT := qH (BT.out.trans (hb.mono BT.out.size))
   replace N6 := qH (N6.out.to hb)
   clear hb hown4
   go_wp2_with fail
   refine hK.out _ _ (⟨N6.out, N0.out.to BT.out⟩) (fun hHeld => ?_)
   clear hK K
   refine rd1 7 (fun K hK => ?_)
   go_simp
   refine hK.out _ _ (⟨N6.out.alloc _, (N0.out.to BT.out).alloc _⟩) (fun hHeld => ?_)
   clear hK K
   refine rd1 8 (fun K hK => ?_)
   go_simp
   refine (wCat2 A5 A4 (n - q) n4 c5 c4 _ _ w5 (HR5.out _ _ _ (R.out.to BT.out)) U.out (HD4.out _ U.out.1)).mono ?_
   rintro e w8 ⟨A8, n8, c8, rfl, hown8, hb⟩
   have M := qH (Rd.of_own hown8)
   obtain ⟨hcap8, hcap8'⟩ := own_cap hown8
   have HN := qH (HN8.out _ M.out.1)
   replace BT := qH (BT.out.trans (hb.mono BT.out.size))
   replace N6 := qH (N6.out.to hb)
   clear hb hown8 U
   go_wp2_with fail
   refine hK.out _ _ (⟨N6.out, N0.out.to BT.out⟩) (fun hHeld => ?_)
   clear hK K
   refine rd1 10 (fun K hK => ?_)
   go_simp
   refine (wEatAll A8 n8 c8 m2 ss (bs.drop q ++ tailL n) _ HE1.out M.out HN.out hcap8 hcap8' (HM8.out _ HN.out)).mono ?_
   rintro e w10 ⟨rfl, hb⟩
   rw [HPL.out]
   replace BT := qH (BT.out.trans (hb.mono BT.out.size))
   replace N6 := qH (N6.out.to hb)
   clear hb M
   go_wp2_with fail
   refine hK.out _ _ (⟨N6.out, N0.out.to BT.out⟩) (fun hHeld => ?_)
   clear hK K
   refine rd1 11 (fun K hK => ?_)
   go_simp
   refine (wPrintT pl _ HE2.out).mono ?_
   rintro e w11 ⟨rfl, hb⟩
   replace BT := qH (BT.out.trans (hb.mono BT.out.size))
   replace N6 := qH (N6.out.to hb)
   clear hb
   go_wp2_with fail
   refine hK.out _ _ (⟨N6.out, N0.out.to BT.out⟩) (fun hHeld => ?_)
   clear hK K
   have TT := qH (T1.out.below BT.out)
   have HGT : Hid (w.heap.size + 1 ≠ g6) := HT1L.out _ HG.out
   refine rd1 12 (fun K hK => ?_)
   rw [if_pos (by rfl)]
   refine wp_store_row0 41 _ _ rfl rfl (w.heap.size + 1) (arrB (printL pl)) rfl rfl 41 _ TT.out.2 HTS.out HTE.out (arrB_one _) ?_
   refine hK.out _ _ (⟨N6.out.setRowOther _ HGT.out.symm, (N0.out.to BT.out).setRowOther _ (Nat.ne_of_lt (Nat.lt_succ_self _))⟩) (fun hHeld => ?_)
   clear hK K
   refine wpAnyH_done (by kernel_rfl) ?_ _
   have BB := qH (below_setRow (B.out.trans (BT.out.mono B.out.size)) (Nat.le_succ _) (arrB (printL pl)) (g := w.heap.size + 1))
   replace TT := qH (TT.out.setRow (printL_len HE2.out.1))
   generalize w11.setRow (w.heap.size + 1) (arrB (printL pl)) = w12 at *
   clear hHeld
   go_wp2_with fail
   (try simp only [Exit.inBlock, Exit.then])
   refine bodyPost_ret (v := .agg (arrB (printL pl))) ?_ rfl ⟨by rw [HSP.out], BB.out⟩
   exact results_cell_row rfl _ _ (w.heap.size + 1) 41 (arrB (printL pl)) (0, 0) _ rfl TT.out.2 Tryd.underlying41 rfl HTS.out
 ·skip
  go_simp
  refine hK.out _ _ ((N0.out.alloc _)) (fun hHeld => ?_)
  clear hK K
  have hba : Below wd.heap.size wd (wd.alloc (.cells (arrN .u32 zeros8) 81)) := (Below.refl _ _).alloc (Nat.le_refl _) _
  have N6 := qH (NumAt.new 81 .u32 wd zeros8)
  obtain ⟨g6, hg6⟩ : ∃ g, wd.heap.size = g := ⟨_, rfl⟩
  have HG : Hid (wd.heap.size ≤ g6) := by (show _ ≤ _); rw [← hg6]; exact BT.out.size
  replace BT := qH (BT.out.trans (hba.mono BT.out.size))
  rw [hg6] at N6 ⊢
  clear hg6 hba hHeld
  generalize wd.alloc (.cells (arrN .u32 zeros8) 81) = w6 at *
  refine rd1 0 (fun K hK => ?_)
  go_simp
  refine (wFirst _ (P.out.to BT.out)).mono ?_
  rintro e w5b ⟨rfl, hb⟩
  replace BT := qH (BT.out.trans (hb.mono BT.out.size))
  replace N6 := qH (N6.out.to hb)
  clear hb
  go_wp2_with fail
  refine hK.out _ _ ((N0.out.to BT.out)) (fun hHeld => ?_)
  clear hK K
  refine rd1 5 (fun K hK => ?_)
  go_simp
  refine (wEatAll A q c m1 shaF (bs.take q) _ shaF_8 ((R.out.to BT.out).front hqn) HQ.out (by omega) hc' (by omega)).mono ?_
  rintro e w7 ⟨rfl, hb⟩
  rw [HSS.out]
  replace BT := qH (BT.out.trans (hb.mono BT.out.size))
  replace N6 := qH (N6.out.to hb)
  clear hb
  go_wp2_with fail
  refine hK.out _ _ ((N0.out.to BT.out)) (fun hHeld => ?_)
  clear hK K
  refine rd1 7 (fun K hK => ?_)
  rw [if_pos (by rfl)]
  refine wp_store_row0 81 _ _ rfl rfl g6 (arrN .u32 ss) rfl rfl 81 _ N6.out HES.out HEE.out (arrN_one _ _) ?_
  refine hK.out _ _ (((N0.out.to BT.out).setRowOther _ (HNE0.out _ HG.out))) (fun hHeld => ?_)
  clear hK K
  replace N6 := qH (N6.out.setRow (xs := ss))
  replace BT := qH (below_setRow BT.out HG.out (arrN .u32 ss))
  generalize w7.setRow g6 (arrN .u32 ss) = w9 at *
  clear hHeld
  refine wpAnyH_done (by kernel_rfl) ?_ _
  go_wp2_with fail
  replace N6 := qH N6.out.drew
  replace BT := qH BT.out.drew
  refine wp_region_held_drew (S := (fun w' => NumAt 81 .u32 w' g6 ss ∧ NumAt 66 .u32 w' w.heap.size shaK)) (by kernel_rfl) (⟨N6.out, N0.out.to BT.out⟩) (fun hHeld => ?_)
  refine tl 0 (.agg (arrN .u32 ss)) rfl (yieldsIf_load_row (by rfl) 81 _ rfl g6 rfl 81 (arrN .u32 ss) (0, 0) _ (fun _ h => h.1) Tryd.underlying81 rfl HES.out) ?_
  simp only [pR]
  refine tk 1 ?_
  simp only [pR]
  refine tk 2 ?_
  simp only [pR]
  refine tk 3 ?_
  simp only [pR]
  refine tk 4 ?_
  simp only [pR]
  refine tk 5 ?_
  simp only [pR]
  refine tl 9 (.agg (arrN .u32 shaK)) rfl (yieldsIf_load_row (by rfl) 66 _ rfl w.heap.size rfl 66 (arrN .u32 shaK) (0, 0) _ (fun _ h => h.2) Tryd.underlying66 rfl HK64.out) ?_
  simp only [pR]
  refine rd1 6 (fun K hK => ?_)
  go_simp
  refine (wTail n _ hn).mono ?_
  rintro e w5 ⟨A4, n4, c4, rfl, hown4, hb⟩
  have U := qH (Rd.of_own hown4)
  replace BT := qH (BT.out.trans (hb.mono BT.out.size))
  replace N6 := qH (N6.out.to hb)
  clear hb hown4
  go_wp2_with fail
  refine hK.out _ _ (⟨N6.out, N0.out.to BT.out⟩) (fun hHeld => ?_)
  clear hK K
  refine rd1 7 (fun K hK => ?_)
  go_simp
  refine hK.out _ _ (⟨N6.out.alloc _, (N0.out.to BT.out).alloc _⟩) (fun hHeld => ?_)
  clear hK K
  refine rd1 8 (fun K hK => ?_)
  go_simp
  refine (wCat2 A5 A4 (n - q) n4 c5 c4 _ _ w5 (HR5.out _ _ _ (R.out.to BT.out)) U.out (HD4.out _ U.out.1)).mono ?_
  rintro e w8 ⟨A8, n8, c8, rfl, hown8, hb⟩
  have M := qH (Rd.of_own hown8)
  obtain ⟨hcap8, hcap8'⟩ := own_cap hown8
  have HN := qH (HN8.out _ M.out.1)
  replace BT := qH (BT.out.trans (hb.mono BT.out.size))
  replace N6 := qH (N6.out.to hb)
  clear hb hown8 U
  go_wp2_with fail
  refine hK.out _ _ (⟨N6.out, N0.out.to BT.out⟩) (fun hHeld => ?_)
  clear hK K
  refine rd1 10 (fun K hK => ?_)
  go_simp
  refine (wEatAll A8 n8 c8 m2 ss (bs.drop q ++ tailL n) _ HE1.out M.out HN.out hcap8 hcap8' (HM8.out _ HN.out)).mono ?_
  rintro e w10 ⟨rfl, hb⟩
  rw [HPL.out]
  replace BT := qH (BT.out.trans (hb.mono BT.out.size))
  replace N6 := qH (N6.out.to hb)
  clear hb M
  go_wp2_with fail
  refine hK.out _ _ (⟨N6.out, N0.out.to BT.out⟩) (fun hHeld => ?_)
  clear hK K
  refine rd1 11 (fun K hK => ?_)
  go_simp
  refine (wPrintT pl _ HE2.out).mono ?_
  rintro e w11 ⟨rfl, hb⟩
  replace BT := qH (BT.out.trans (hb.mono BT.out.size))
  replace N6 := qH (N6.out.to hb)
  clear hb
  go_wp2_with fail
  refine hK.out _ _ (⟨N6.out, N0.out.to BT.out⟩) (fun hHeld => ?_)
  clear hK K
  have TT := qH (T1.out.below BT.out)
  have HGT : Hid (w.heap.size + 1 ≠ g6) := HT1L.out _ HG.out
  refine rd1 12 (fun K hK => ?_)
  rw [if_pos (by rfl)]
  refine wp_store_row0 41 _ _ rfl rfl (w.heap.size + 1) (arrB (printL pl)) rfl rfl 41 _ TT.out.2 HTS.out HTE.out (arrB_one _) ?_
  refine hK.out _ _ (⟨N6.out.setRowOther _ HGT.out.symm, (N0.out.to BT.out).setRowOther _ (Nat.ne_of_lt (Nat.lt_succ_self _))⟩) (fun hHeld => ?_)
  clear hK K
  refine wpAnyH_done (by kernel_rfl) ?_ _
  have BB := qH (below_setRow (B.out.trans (BT.out.mono B.out.size)) (Nat.le_succ _) (arrB (printL pl)) (g := w.heap.size + 1))
  replace TT := qH (TT.out.setRow (printL_len HE2.out.1))
  generalize w11.setRow (w.heap.size + 1) (arrB (printL pl)) = w12 at *
  clear hHeld
  go_wp2_with fail
  (try simp only [Exit.inBlock, Exit.then])
  refine bodyPost_ret (v := .agg (arrB (printL pl))) ?_ rfl ⟨by rw [HSP.out], BB.out⟩
  exact results_cell_row rfl _ _ (w.heap.size + 1) 41 (arrB (printL pl)) (0, 0) _ rfl TT.out.2 Tryd.underlying41 rfl HTS.out
theorem wSha (A : Option Addr) (n c : Nat) (bs : List UInt8) (w : World) (hp : Pr w) (ha : Rd w w.heap.size A n bs) (hn : n ≤ 1000000000) (hc : n ≤ c) (hc' : c ≤ 9223372036854775807) :
  Calls Tryd.prog 11 #[.slice A n c] w fun e w' => e = .returned (.agg (arrB (shaL bs))) ∧ Below w.heap.size w w' := by
 have hz := tag_zero
 have T0 : Hid (TagAt (w.alloc (.cells (arrB zeros32) 41)) w.heap.size zeros32) := ⟨rfl, heap_alloc_last w _⟩
 have B : Hid (Below w.heap.size w (w.alloc (.cells (arrB zeros32) 41))) := (Below.refl _ _).alloc (Nat.le_refl _) _
 have R := qH (ha.to B.out)
 have P := qH (hp.to B.out)
 clear ha hp
 go_enter Tryd.func11, Tryd.ntmps11
 go_wp2_with fail
 clear hz
 generalize w.alloc (.cells (arrB zeros32) 41) = w0 at *
 refine (wConstants w0 P.out).mono ?_
 rintro e w1 ⟨rfl, hb⟩
 replace R := qH (R.out.to hb)
 replace P := qH (P.out.to hb)
 replace T0 := qH (T0.out.below hb)
 replace B := qH (B.out.trans (hb.mono B.out.size))
 clear hb
 go_wp2_with fail
 refine (wDigest A n c bs w1 P.out R.out hn hc hc').mono ?_
 rintro e w2 ⟨rfl, hb⟩
 replace T0 := qH (T0.out.below hb)
 replace B := qH (B.out.trans (hb.mono B.out.size))
 clear hb
 have S1 := qH (tag_size (shaL_len bs))
 have E1 : Hid ((arrB zeros32).size = (arrB (shaL bs)).size) := by
  show _ = _
  rw [arrB_size, arrB_size, shaL_len]; rfl
 go_wp2_with (refine wpList_store_row rfl 41 _ _ rfl w.heap.size (arrB (shaL bs)) rfl rfl 41 (arrB zeros32) T0.out.2 S1.out E1.out (arrB_one _) ?_)
 (try simp only [Exit.inBlock, Exit.then])
 refine bodyPost_ret (v := .agg (arrB (shaL bs))) ?_ rfl ⟨rfl, below_setRow B.out (Nat.le_refl _) _⟩
 exact results_cell_row rfl _ _ w.heap.size 41 (arrB (shaL bs)) (0, 0) _ rfl (setRow_heap _ _ _ _ _ _ T0.out.2) Tryd.underlying41 rfl S1.out
end Go.Proofs.YtopilgedcnbdaaaDoor