/- Contracts of the document's own functions of layer 10, part three: Take. -/
import Derived.Test.YtkaobafgecoomaaChW
namespace Go.Proofs.Ytkaobafgecoomaa
open Go.RowKit
set_option linter.unusedVariables false
set_option linter.unusedSimpArgs false

set_option maxRecDepth 1000000 in
set_option maxHeartbeats 1000000 in
theorem rTake (a b d e s : Int) (A : Option Addr) (n c : Nat) (l : List (List UInt8)) (w : World) (hS : RdS w w.heap.size A n l) (hnc : n ≤ c) (hn : n ≤ 140737488355328) :
    Calls Try.prog 18 #[.agg #[.int .i64 a, .int .i64 b, .int .i64 d, .int .i64 e, .int .i64 s, .slice A n c]] w fun x w' => TakeR w ⟨a, b, d, e, s⟩ l x w' := by
  obtain ⟨w2, hw2, hq, hz, hb, hsz⟩ := two_queues w a b d e s (.slice A n c)
  have HW2 := Lib.hid hw2
  have Q := Lib.hid hq
  have Z := Lib.hid hz
  have B := Lib.hid hb
  have S := Lib.hid (hS.toX hb)
  have S0 := Lib.hid hS
  have HN := Lib.hid hn
  have HC := Lib.hid hnc
  have HLL := Lib.hid hS.1
  have SZ := Lib.hid hsz
  clear hw2 hq hz hb hS hn hnc hsz
  obtain ⟨x0, x1, x2, x3, x4, x5⟩ := Q.out.six
  go_enter Try.func18, Try.ntmps18
  go_wp2_with fail
  rw [HW2.out]
  clear HW2
  refine (rMayQ a b d e s A n c l w2 S.out HN.out).mono ?_
  rintro x w3 ⟨rfl, hb⟩
  replace Q := Lib.hid (Q.out.to hb)
  replace Z := Lib.hid (Z.out.to hb)
  replace S := Lib.hid (S.out.toX hb)
  replace B := Lib.hid (B.out.trans (hb.mono B.out.size))
  replace SZ := Lib.hid (show w.heap.size + 2 ≤ w3.heap.size by have := hb.size; have := SZ.out; omega)
  clear hb x0 x1 x2 x3 x4 x5
  obtain ⟨x0, x1, x2, x3, x4, x5⟩ := Q.out.six
  obtain ⟨r0, r1, r2, r3, r4, r5⟩ := Z.out.qx.six
  obtain ⟨f0, f1, f2, f3, f4, f5⟩ := Z.out.zeros
  cases hm : mayQ ⟨a, b, d, e, s⟩ l
  · have HE : Hid (errT ⟨a, b, d, e, s⟩ l = 2) := by show _ = _; unfold errT; rw [hm]; rfl
    clear hm
    go_wp2_with fail
    change bodyPost _ _ _ _ _ (setQ w3 (w.heap.size + 1) Ch.zero (.slice none 0 0))
    have P9 := Z.out.put Ch.zero (.slice none 0 0)
    have B9 := below_setQ B.out (Nat.le_succ w.heap.size) Ch.zero (.slice none 0 0)
    generalize setQ w3 (w.heap.size + 1) Ch.zero (.slice none 0 0) = w9 at *
    refine bodyPost_ret (res_take rfl _ _ (w.heap.size + 1) Ch.zero (.slice none 0 0) (.int .i64 _) (.slice none 0 0) rfl rfl rfl P9) rfl (TakeR.bad HE.out (by decide) B9)
  have HM := Lib.hid hm
  clear hm
  by_cases h0 : n = 0
  · have HE : Hid (errT ⟨a, b, d, e, s⟩ l = 100) := by
      show _ = _
      unfold errT; rw [HM.out, if_pos rfl, if_pos (List.eq_nil_of_length_eq_zero (HLL.out.trans h0))]
    subst h0
    go_wp2_with fail
    change bodyPost _ _ _ _ _ (setQ w3 (w.heap.size + 1) Ch.zero (.slice none 0 0))
    have P9 := Z.out.put Ch.zero (.slice none 0 0)
    have B9 := below_setQ B.out (Nat.le_succ w.heap.size) Ch.zero (.slice none 0 0)
    generalize setQ w3 (w.heap.size + 1) Ch.zero (.slice none 0 0) = w9 at *
    refine bodyPost_ret (res_take rfl _ _ (w.heap.size + 1) Ch.zero (.slice none 0 0) (.int .i64 _) (.slice none 0 0) rfl rfl rfl P9) rfl (TakeR.bad HE.out (by decide) B9)
  have HE : Hid (errT ⟨a, b, d, e, s⟩ l = 0) := by
    show _ = _
    unfold errT; rw [HM.out, if_pos rfl, if_neg (fun h => h0 (by rw [← HLL.out, h]; rfl))]
  have HP : Hid (0 < n) := Nat.pos_of_ne_zero h0
  have HLE := Lib.hid (mayQ_lens HM.out)
  have hbq : ((n : Int) == 0) = false := by simpa using h0
  have hB4 := (Below.refl w3.heap.size w3).alloc (Nat.le_refl _) (.cells #[.int .i64 a, .int .i64 b, .int .i64 d, .int .i64 e, .int .i64 s, .slice none 0 0] 26)
  have G := Lib.hid (QB.new w3 a b d e s (.slice none 0 0))
  have B4 := Lib.hid hB4
  have H4 : Hid ((w3.alloc (.cells #[.int .i64 a, .int .i64 b, .int .i64 d, .int .i64 e, .int .i64 s, .slice none 0 0] 26)).heap.size = w3.heap.size + 1) := by show _ = _; simp
  clear hB4 r0 r1 r2 r3 r4 r5 f0 f1 f2 f3 f4 f5
  go_wp2_with fail
  clear x0 x1 x2 x3 x4 x5 h0
  generalize w3.alloc (.cells #[.int .i64 a, .int .i64 b, .int .i64 d, .int .i64 e, .int .i64 s, .slice none 0 0] 26) = w4 at *
  go_loopw [6] (fun s7 wr => ∃ (k : Nat) (v : Value), Hid (1 ≤ k) ∧ k ≤ n ∧ s7 = .int .i64 (k : Int) ∧ QB wr w3.heap.size ⟨a, b, d, e, s⟩ v ∧ RowsX wr (w3.heap.size + 1) v (k - 1) (((l.take k).drop 1).map fullR) ∧ Below w3.heap.size w3 wr ∧ w3.heap.size + 1 ≤ wr.heap.size) (fun s7 _ => n - (intOf s7).toNat)
  case atStart => exact ⟨1, .slice none 0 0, Nat.le_refl _, HP.out, rfl, G.out, by rw [take_drop_none (Nat.le_refl 1)]; exact RowsX.nil w4 (w3.heap.size + 1), B4.out, Nat.le_of_eq H4.out.symm⟩
  case round =>
    obtain ⟨k, v, hk1, hk, rfl, hq, hx, hb, hsz⟩ := hrel
    clear G B4 H4
    have G := Lib.hid hq
    have X := Lib.hid hx
    have B4 := Lib.hid hb
    have H4 := Lib.hid hsz
    have QR := Lib.hid (Q.out.below (by have := SZ.out; omega) hb)
    clear hq hx hb hsz
    obtain ⟨x0, x1, x2, x3, x4, x5⟩ := QR.out.six
    by_cases hlt : k < n
    · have hltI : (k : Int) < (n : Int) := by omega
      have HLT : Hid (k < n) := hlt
      have hwk : IntKind.i64.wrap ((k : Int) + 1) = (k : Int) + 1 := by have := HLL.out; have := HLE.out.1; rw [IntKind.wrap_i64]; omega
      obtain ⟨bb, o, A1, m1, c1, rfl, hcell, hrd⟩ := ((S.out.belowX B4.out).moreX B4.out.size).at_ hlt
      have HCL := Lib.hid hcell
      have HR1 := Lib.hid hrd
      have HM1 : Hid (m1 ≤ 16) := by
        show _ ≤ _
        rw [← hrd.1]
        have hkl : k < l.length := by rw [S.out.1]; exact hlt
        refine HLE.out.2 _ ?_
        rw [show l.getD k [] = l[k] from by simp [List.getD, List.getElem?_eq_getElem hkl]]
        exact List.getElem_mem hkl
      clear hrd hk hlt
      have HKF := hk1
      clear hk1 hcell
      go_wp2_with fail
      obtain ⟨wd, hwd⟩ : ∃ wd, wr.drew = wd := ⟨_, rfl⟩
      have SS : Hid (wd.cell? ⟨w3.heap.size, 5, none⟩ = some v ∧ wd.cell? ⟨w.heap.size, 5, none⟩ = some (.slice (some ⟨bb, o, none⟩) n c) ∧ wd.cell? ⟨bb, o + k, none⟩ = some (.slice A1 m1 c1)) := by
        rw [← hwd]; exact ⟨G.out.qx.c5, x5, HCL.out⟩
      clear x0 x1 x2 x3 x4 x5 QR
      replace G : Hid (QB wd w3.heap.size ⟨a, b, d, e, s⟩ v) := by rw [← hwd]; exact G.out
      replace X : Hid (RowsX wd (w3.heap.size + 1) v (k - 1) (((l.take k).drop 1).map fullR)) := by rw [← hwd]; exact X.out
      replace B4 : Hid (Below w3.heap.size w3 wd) := by rw [← hwd]; exact B4.out.drew
      replace H4 : Hid (w3.heap.size + 1 ≤ wd.heap.size) := by rw [← hwd]; exact H4.out
      replace HR1 : Hid (Rd wd wd.heap.size A1 m1 (l.getD k [])) := by rw [← hwd]; exact HR1.out
      refine AnyE.start (m := 12) (S := (fun w' => w'.cell? ⟨w3.heap.size, 5, none⟩ = some v ∧ w'.cell? ⟨w.heap.size, 5, none⟩ = some (.slice (some ⟨bb, o, none⟩) n c) ∧ w'.cell? ⟨bb, o + k, none⟩ = some (.slice A1 m1 c1))) (by kernel_rfl) ((by rw [hwd]; exact SS.out)) (fun hHeld => ?_)
      rw [hwd] at hHeld ⊢
      clear hwd
      have SK : Hid (∀ W, Below wd.heap.size wd W → W.cell? ⟨w3.heap.size, 5, none⟩ = some v ∧ W.cell? ⟨w.heap.size, 5, none⟩ = some (.slice (some ⟨bb, o, none⟩) n c) ∧ W.cell? ⟨bb, o + k, none⟩ = some (.slice A1 m1 c1)) := fun W hW =>
        ⟨(hW.cell (p := ⟨_, _, none⟩) (cell_block SS.out.1)).trans SS.out.1, (hW.cell (p := ⟨_, _, none⟩) (cell_block SS.out.2.1)).trans SS.out.2.1, (hW.cell (p := ⟨_, _, none⟩) (cell_block SS.out.2.2)).trans SS.out.2.2⟩
      obtain ⟨A5, c5, w6, hrun, ho, h1, h2, hb6⟩ := append_nil_u8 27 (c := c1) HR1.out (by have := HM1.out; omega)
      obtain ⟨A7, c7, w7, hrun7, hq7, hx7, hk7⟩ := push_row 24 G.out X.out (Nat.lt_succ_self _) H4.out ho h1 h2 hb6 (by have := HLL.out; have := HLE.out.1; have := HLT.out; omega)
      have RUN := Lib.hid hrun
      have RUN7 := Lib.hid hrun7
      have G7 := Lib.hid hq7
      have X7 := Lib.hid hx7
      have K7 := Lib.hid hk7
      have B6 := Lib.hid hb6
      have B6a := Lib.hid (hb6.trans (((Below.refl w6.heap.size w6).alloc (Nat.le_refl _) (.cells #[.slice A5 m1 c5] 27)).mono hb6.size))
      have S7 : Hid (w7.cell? ⟨w3.heap.size, 5, none⟩ = some v ∧ w7.cell? ⟨w.heap.size, 5, none⟩ = some (.slice (some ⟨bb, o, none⟩) n c) ∧ w7.cell? ⟨bb, o + k, none⟩ = some (.slice A1 m1 c1)) :=
        ⟨hq7.qx.c5, (hk7.cell (a := ⟨w.heap.size, 5, none⟩) (cell_block SS.out.2.1) (by have := SZ.out; show ¬ _ ≤ _; simp only; omega)).trans SS.out.2.1, (hk7.cell (a := ⟨bb, o + k, none⟩) (cell_block SS.out.2.2) (by
          obtain ⟨b', o', e', h', _⟩ := S.out.2 (Nat.lt_of_le_of_lt (Nat.zero_le _) HLT.out)
          injection e' with e'; injection e' with e' _
          show ¬ _ ≤ _; simp only; omega)).trans SS.out.2.2⟩
      clear hrun ho h1 h2 hb6 hrun7 hq7 hx7 hk7
      refine AnyE.take (i := 0) (v := ?_) rfl (by kernel_rfl) (by kernel_rfl) (by kernel_rfl) (by kernel_rfl) (fun _ _ _ h => h) (Or.inl ⟨by rfl, ?_⟩) (by assumption) ?_
      rotate_left 1
      · intro w hSw; (try dsimp only at hSw); go_simp; (try with_reducible rfl)
      simp only [Act.put, List.getElem_toArray, List.getElem_cons_zero, List.getElem_cons_succ, List.setIfInBounds_toArray, List.set_cons_zero, List.set_cons_succ]
      refine AnyE.take (i := 1) (v := ?_) rfl (by kernel_rfl) (by kernel_rfl) (by kernel_rfl) (by kernel_rfl) (fun _ _ _ h => h) (Or.inl ⟨by rfl, ?_⟩) (by assumption) ?_
      rotate_left 1
      · intro w hSw; (try dsimp only at hSw); go_simp; (try with_reducible rfl)
      simp only [Act.put, List.getElem_toArray, List.getElem_cons_zero, List.getElem_cons_succ, List.setIfInBounds_toArray, List.set_cons_zero, List.set_cons_succ]
      refine AnyE.take (i := 3) (v := ?_) rfl (by kernel_rfl) (by kernel_rfl) (by kernel_rfl) (by kernel_rfl) (fun _ _ _ h => h) (Or.inl ⟨by rfl, ?_⟩) (by assumption) ?_
      rotate_left 1
      · intro w hSw; (try dsimp only at hSw); go_simp; (try with_reducible rfl)
      simp only [Act.put, List.getElem_toArray, List.getElem_cons_zero, List.getElem_cons_succ, List.setIfInBounds_toArray, List.set_cons_zero, List.set_cons_succ]
      refine AnyE.take (i := 4) (v := ?_) rfl (by kernel_rfl) (by kernel_rfl) (by kernel_rfl) (by kernel_rfl) (fun _ _ _ h => h) (Or.inl ⟨by rfl, ?_⟩) (by assumption) ?_
      rotate_left 1
      · intro w hSw; (try dsimp only at hSw); go_simp; (try with_reducible rfl)
      simp only [Act.put, List.getElem_toArray, List.getElem_cons_zero, List.getElem_cons_succ, List.setIfInBounds_toArray, List.set_cons_zero, List.set_cons_succ]
      refine AnyE.take (i := 5) (v := ?_) rfl (by kernel_rfl) (by kernel_rfl) (by kernel_rfl) (by kernel_rfl) (fun _ _ _ h => h) (Or.inl ⟨by rfl, ?_⟩) (by assumption) ?_
      rotate_left 1
      · intro w hSw; (try dsimp only at hSw); go_simp; (try with_reducible rfl)
      simp only [Act.put, List.getElem_toArray, List.getElem_cons_zero, List.getElem_cons_succ, List.setIfInBounds_toArray, List.set_cons_zero, List.set_cons_succ]
      refine AnyE.take (i := 6) (v := ?_) rfl (by kernel_rfl) (by kernel_rfl) (by kernel_rfl) (by kernel_rfl) (fun _ _ _ h => h) (Or.inl ⟨by rfl, ?_⟩) (by assumption) ?_
      rotate_left 1
      · intro w hSw; (try dsimp only at hSw); go_simp; (try with_reducible rfl)
      simp only [Act.put, List.getElem_toArray, List.getElem_cons_zero, List.getElem_cons_succ, List.setIfInBounds_toArray, List.set_cons_zero, List.set_cons_succ]
      refine AnyE.take (i := 7) (v := ?_) rfl (by kernel_rfl) (by kernel_rfl) (by kernel_rfl) (by kernel_rfl) (fun _ _ _ h => h) (Or.inl ⟨by rfl, ?_⟩) (by assumption) ?_
      rotate_left 1
      · intro w hSw; (try dsimp only at hSw); go_simp; (try with_reducible rfl)
      simp only [Act.put, List.getElem_toArray, List.getElem_cons_zero, List.getElem_cons_succ, List.setIfInBounds_toArray, List.set_cons_zero, List.set_cons_succ]
      refine AnyE.ready (rs := [2]) (by kernel_rfl) (by simp) ?_
      refine ReadyE.cons rfl (fun K hK => ?_) ReadyE.nil
      go_simp
      refine hK.out _ _ (SK.out _ ((Below.refl _ _).alloc (Nat.le_refl _) _)) (fun hHeld => ?_)
      clear hK K
      refine AnyE.ready (rs := [8]) (by kernel_rfl) (by simp) ?_
      refine ReadyE.cons rfl (fun K hK => ?_) ReadyE.nil
      refine step_append_run rfl (.tmp 28) (.tmp 33) rfl rfl rfl RUN.out ?_
      skip
      refine hK.out _ _ (SK.out _ B6.out) (fun hHeld => ?_)
      clear hK K
      simp only [Act.put, List.getElem_toArray, List.getElem_cons_zero, List.getElem_cons_succ, List.setIfInBounds_toArray, List.set_cons_zero, List.set_cons_succ]
      refine AnyE.ready (rs := [9]) (by kernel_rfl) (by simp) ?_
      refine ReadyE.cons rfl (fun K hK => ?_) ReadyE.nil
      go_simp
      refine hK.out _ _ (SK.out _ B6a.out) (fun hHeld => ?_)
      clear hK K
      refine AnyE.ready (rs := [10]) (by kernel_rfl) (by simp) ?_
      refine ReadyE.cons rfl (fun K hK => ?_) ReadyE.nil
      refine step_append_run rfl (.tmp 27) (.tmp 35) rfl rfl rfl RUN7.out ?_
      skip
      refine hK.out _ _ (S7.out) (fun hHeld => ?_)
      clear hK K
      simp only [Act.put, List.getElem_toArray, List.getElem_cons_zero, List.getElem_cons_succ, List.setIfInBounds_toArray, List.set_cons_zero, List.set_cons_succ]
      refine AnyE.take (i := 11) (v := ?_) rfl (by kernel_rfl) (by kernel_rfl) (by kernel_rfl) (by kernel_rfl) (fun _ _ _ h => h) (Or.inl ⟨by rfl, ?_⟩) (by assumption) ?_
      rotate_left 1
      · intro w hSw; (try dsimp only at hSw); go_simp; (try with_reducible rfl)
      simp only [Act.put, List.getElem_toArray, List.getElem_cons_zero, List.getElem_cons_succ, List.setIfInBounds_toArray, List.set_cons_zero, List.set_cons_succ]
      clear hHeld
      have c5' := G7.out.qx.c5
      have f5' := G7.out.fz 5
      refine AnyE.ready (rs := [12]) (by kernel_rfl) (by simp) ?_
      refine ReadyE.last rfl (by kernel_rfl) (fun K hK => ?_)
      go_simp
      refine hK.out _ _ trivial (fun _ => ?_)
      clear hK K
      refine AnyE.done (by kernel_rfl) ?_ _
      have HST := Lib.hid (store_rows G7.out X7.out (Nat.lt_succ_self _) K7.out)
      clear c5' f5'
      generalize w7.setCell ⟨w3.heap.size, 5, none⟩ (.slice A7 (k - 1 + 1) c7) = w8 at *
      go_wp2_with fail
      go_roundw
      case rel => exact ⟨k + 1, _, Nat.le_add_left _ _, HLT.out, by go_num, HST.out.1, by
        rw [take_drop_step (by rw [S.out.1]; exact HLT.out) HKF.out, List.map_append, show k + 1 - 1 = k - 1 + 1 from by have := HKF.out; omega]; exact HST.out.2.1,
        HST.out.2.2.below B4.out B4.out.size (fun b h => by omega), Nat.le_trans H4.out HST.out.2.2.size⟩
      case measure => have := HLT.out; simp [intOf]; omega
    · obtain rfl : k = n := by omega
      have hltI : ¬ (k : Int) < (k : Int) := by omega
      have HT : Hid (l.take k = l) := by show _ = _; rw [← S.out.1]; exact List.take_length
      clear hk hlt hk1
      obtain ⟨bb, o, A1, m1, c1, rfl, hcell, hrd⟩ := ((S.out.belowX B4.out).moreX B4.out.size).at_ HP.out
      rw [Nat.add_zero] at hcell
      obtain ⟨A3, c3, rfl, hc3, hc3'⟩ := X.out.slice
      have HCL := Lib.hid hcell
      have HR1 := Lib.hid hrd
      have HC3 := Lib.hid hc3
      have HC3' := Lib.hid hc3'
      have HL0 : Hid (l.getD 0 [] = l.headD []) := by
        show _ = _
        rcases l with _ | ⟨x, l⟩ <;> rfl
      have HM1 : Hid (m1 ≤ 16) := by
        show _ ≤ _
        rw [← hrd.1]
        have hkl : 0 < l.length := by rw [S.out.1]; exact HP.out
        refine HLE.out.2 _ ?_
        rw [show l.getD 0 [] = l[0] from by simp [List.getD, List.getElem?_eq_getElem hkl]]
        exact List.getElem_mem hkl
      clear hrd hc3 hc3' hcell
      go_wp2_with fail
      obtain ⟨wd, hwd⟩ : ∃ wd, wr.drew = wd := ⟨_, rfl⟩
      have SS : Hid ((wd.cell? ⟨w3.heap.size, 0, none⟩ = some (.int .i64 a) ∧ wd.cell? ⟨w3.heap.size, 1, none⟩ = some (.int .i64 b) ∧ wd.cell? ⟨w3.heap.size, 2, none⟩ = some (.int .i64 d) ∧ wd.cell? ⟨w3.heap.size, 3, none⟩ = some (.int .i64 e) ∧ wd.cell? ⟨w3.heap.size, 4, none⟩ = some (.int .i64 s) ∧ wd.cell? ⟨w3.heap.size, 5, none⟩ = some (.slice A3 (k - 1) c3)) ∧ wd.cell? ⟨w.heap.size, 5, none⟩ = some (.slice (some ⟨bb, o, none⟩) k c) ∧ wd.cell? ⟨bb, o, none⟩ = some (.slice A1 m1 c1)) := by
        rw [← hwd]; exact ⟨G.out.qx.six, x5, HCL.out⟩
      clear x0 x1 x2 x3 x4 x5 QR
      have ZW := Lib.hid (Z.out.below (by have := SZ.out; omega) B4.out)
      replace G : Hid (QB wd w3.heap.size ⟨a, b, d, e, s⟩ (.slice A3 (k - 1) c3)) := by rw [← hwd]; exact G.out
      replace X : Hid (RowsX wd (w3.heap.size + 1) (.slice A3 (k - 1) c3) (k - 1) ((l.drop 1).map fullR)) := by rw [← hwd]; have := X.out; rw [HT.out] at this; exact this
      replace B4 : Hid (Below w3.heap.size w3 wd) := by rw [← hwd]; exact B4.out.drew
      replace H4 : Hid (w3.heap.size + 1 ≤ wd.heap.size) := by rw [← hwd]; exact H4.out
      replace HR1 : Hid (Rd wd wd.heap.size A1 m1 (l.headD [])) := by rw [← hwd, ← HL0.out]; exact HR1.out
      replace ZW : Hid (QB wd (w.heap.size + 1) Ch.zero (.slice none 0 0)) := by rw [← hwd]; exact ZW.out
      have hpI : 0 < k := HP.out
      refine wp_region_held_drew (S := (fun w' => (w'.cell? ⟨w3.heap.size, 0, none⟩ = some (.int .i64 a) ∧ w'.cell? ⟨w3.heap.size, 1, none⟩ = some (.int .i64 b) ∧ w'.cell? ⟨w3.heap.size, 2, none⟩ = some (.int .i64 d) ∧ w'.cell? ⟨w3.heap.size, 3, none⟩ = some (.int .i64 e) ∧ w'.cell? ⟨w3.heap.size, 4, none⟩ = some (.int .i64 s) ∧ w'.cell? ⟨w3.heap.size, 5, none⟩ = some (.slice A3 (k - 1) c3)) ∧ w'.cell? ⟨w.heap.size, 5, none⟩ = some (.slice (some ⟨bb, o, none⟩) k c) ∧ w'.cell? ⟨bb, o, none⟩ = some (.slice A1 m1 c1))) (by kernel_rfl) ((by rw [hwd]; exact SS.out)) (fun hHeld => ?_)
      rw [hwd] at hHeld ⊢
      clear hwd
      have SK : Hid (∀ w', Below wd.heap.size wd w' → (w'.cell? ⟨w3.heap.size, 0, none⟩ = some (.int .i64 a) ∧ w'.cell? ⟨w3.heap.size, 1, none⟩ = some (.int .i64 b) ∧ w'.cell? ⟨w3.heap.size, 2, none⟩ = some (.int .i64 d) ∧ w'.cell? ⟨w3.heap.size, 3, none⟩ = some (.int .i64 e) ∧ w'.cell? ⟨w3.heap.size, 4, none⟩ = some (.int .i64 s) ∧ w'.cell? ⟨w3.heap.size, 5, none⟩ = some (.slice A3 (k - 1) c3)) ∧ w'.cell? ⟨w.heap.size, 5, none⟩ = some (.slice (some ⟨bb, o, none⟩) k c) ∧ w'.cell? ⟨bb, o, none⟩ = some (.slice A1 m1 c1)) := fun W hW =>
        ⟨(G.out.to hW).qx.six, (hW.cell (p := ⟨_, _, none⟩) (cell_block SS.out.2.1)).trans SS.out.2.1, (hW.cell (p := ⟨_, _, none⟩) (cell_block SS.out.2.2)).trans SS.out.2.2⟩
      obtain ⟨A5, c5, w6, hrun, ho, h1, h2, hb6⟩ := append_nil_u8 27 (c := c1) HR1.out (by have := HM1.out; omega)
      have RUN := Lib.hid hrun
      have B6 := Lib.hid hb6
      have O6 := Lib.hid ho
      have Z6 := Lib.hid (ZW.out.to hb6)
      have X6 := Lib.hid (X.out.to hb6)
      clear hrun ho h1 h2 hb6
      refine wpAnyH_take (i := 1) (v := ?_) rfl (by kernel_rfl) (by kernel_rfl) (by kernel_rfl) (fun _ _ _ h => h) (Or.inl ⟨by rfl, ?_⟩) (by assumption) ?_
      rotate_left 1
      · intro w hSw; (try dsimp only at hSw); go_simp; (try with_reducible rfl)
      simp only [Act.put, List.getElem_toArray, List.getElem_cons_zero, List.getElem_cons_succ, List.setIfInBounds_toArray, List.set_cons_zero, List.set_cons_succ]
      refine wpAnyH_take (i := 2) (v := ?_) rfl (by kernel_rfl) (by kernel_rfl) (by kernel_rfl) (fun _ _ _ h => h) (Or.inl ⟨by rfl, ?_⟩) (by assumption) ?_
      rotate_left 1
      · intro w hSw; (try dsimp only at hSw); go_simp; (try with_reducible rfl)
      simp only [Act.put, List.getElem_toArray, List.getElem_cons_zero, List.getElem_cons_succ, List.setIfInBounds_toArray, List.set_cons_zero, List.set_cons_succ]
      refine wpAnyH_take (i := 3) (v := ?_) rfl (by kernel_rfl) (by kernel_rfl) (by kernel_rfl) (fun _ _ _ h => h) (Or.inl ⟨by rfl, ?_⟩) (by assumption) ?_
      rotate_left 1
      · intro w hSw; (try dsimp only at hSw); go_simp; (try with_reducible rfl)
      simp only [Act.put, List.getElem_toArray, List.getElem_cons_zero, List.getElem_cons_succ, List.setIfInBounds_toArray, List.set_cons_zero, List.set_cons_succ]
      refine wpAnyH_take (i := 4) (v := ?_) rfl (by kernel_rfl) (by kernel_rfl) (by kernel_rfl) (fun _ _ _ h => h) (Or.inl ⟨by rfl, ?_⟩) (by assumption) ?_
      rotate_left 1
      · intro w hSw; (try dsimp only at hSw); go_simp; (try with_reducible rfl)
      simp only [Act.put, List.getElem_toArray, List.getElem_cons_zero, List.getElem_cons_succ, List.setIfInBounds_toArray, List.set_cons_zero, List.set_cons_succ]
      refine wpAnyH_take (i := 6) (v := ?_) rfl (by kernel_rfl) (by kernel_rfl) (by kernel_rfl) (fun _ _ _ h => h) (Or.inl ⟨by rfl, ?_⟩) (by assumption) ?_
      rotate_left 1
      · intro w hSw; (try dsimp only at hSw); go_simp; (try with_reducible rfl)
      simp only [Act.put, List.getElem_toArray, List.getElem_cons_zero, List.getElem_cons_succ, List.setIfInBounds_toArray, List.set_cons_zero, List.set_cons_succ]
      refine wpAnyH_ready (rs := [0]) (by kernel_rfl) (by simp) ?_
      refine AllReadyH.cons rfl (fun K hK => ?_) AllReadyH.nil
      go_simp
      refine hK.out _ _ (SK.out _ ((Below.refl _ _).alloc (Nat.le_refl _) _)) (fun hHeld => ?_)
      clear hK K
      refine wpAnyH_ready (rs := [5]) (by kernel_rfl) (by simp) ?_
      refine AllReadyH.cons rfl (fun K hK => ?_) AllReadyH.nil
      refine step_append_run rfl (.tmp 38) (.tmp 42) rfl rfl rfl RUN.out ?_
      skip
      refine hK.out _ _ (SK.out _ B6.out) (fun hHeld => ?_)
      clear hK K
      simp only [Act.put, List.getElem_toArray, List.getElem_cons_zero, List.getElem_cons_succ, List.setIfInBounds_toArray, List.set_cons_zero, List.set_cons_succ]
      refine wpAnyH_take (i := 7) (v := ?_) rfl (by kernel_rfl) (by kernel_rfl) (by kernel_rfl) (fun _ _ _ h => h) (Or.inl ⟨by rfl, ?_⟩) (by assumption) ?_
      rotate_left 1
      · intro w hSw; (try dsimp only at hSw); go_simp; (try with_reducible rfl)
      simp only [Act.put, List.getElem_toArray, List.getElem_cons_zero, List.getElem_cons_succ, List.setIfInBounds_toArray, List.set_cons_zero, List.set_cons_succ]
      obtain ⟨r0, r1, r2, r3, r4, r5⟩ := Z6.out.qx.six
      obtain ⟨f0, f1, f2, f3, f4, f5⟩ := Z6.out.zeros
      have P9 := Z6.out.put ⟨a, b, d, e, s⟩ (.slice A3 (k - 1) c3)
      have S9 := below_setQ (B.out.trans ((B4.out.trans (B6.out.mono (Nat.le_trans (Nat.le_add_right _ 1) H4.out))).mono B.out.size)) (Nat.le_succ w.heap.size) ⟨a, b, d, e, s⟩ (.slice A3 (k - 1) c3)
      have K9 := (Keep.refl (fun b => b = w.heap.size + 1) w6).setQ _ ⟨a, b, d, e, s⟩ (.slice A3 (k - 1) c3) rfl
      have O9 := ((OwS.of X6.out).kept K9 (fun b h => by have := SZ.out; omega)).mono (show w.heap.size ≤ w3.heap.size + 1 by have := SZ.out; omega)
      have R9 := (O6.out.kept K9 (O6.out.off (fun b h => by have := SZ.out; have := H4.out; omega))).mono (show w.heap.size ≤ wd.heap.size by have := SZ.out; have := H4.out; omega)
      have SX : Hid (∀ w', w' = setQ w6 (w.heap.size + 1) ⟨a, b, d, e, s⟩ (.slice A3 (k - 1) c3) → (w'.cell? ⟨w3.heap.size, 0, none⟩ = some (.int .i64 a) ∧ w'.cell? ⟨w3.heap.size, 1, none⟩ = some (.int .i64 b) ∧ w'.cell? ⟨w3.heap.size, 2, none⟩ = some (.int .i64 d) ∧ w'.cell? ⟨w3.heap.size, 3, none⟩ = some (.int .i64 e) ∧ w'.cell? ⟨w3.heap.size, 4, none⟩ = some (.int .i64 s) ∧ w'.cell? ⟨w3.heap.size, 5, none⟩ = some (.slice A3 (k - 1) c3)) ∧ w'.cell? ⟨w.heap.size, 5, none⟩ = some (.slice (some ⟨bb, o, none⟩) k c) ∧ w'.cell? ⟨bb, o, none⟩ = some (.slice A1 m1 c1)) := by
        rintro W rfl
        have ss := SK.out _ B6.out
        have hbb : bb < w.heap.size := by
          obtain ⟨b', o', e', h', _⟩ := S0.out.2 HP.out
          injection e' with e'; injection e' with e' _; omega
        have sz := SZ.out
        have hne : ¬ bb = w.heap.size + 1 := by omega
        exact ⟨((G.out.to B6.out).kept K9 (fun h => by omega)).qx.six, (K9.cell (a := ⟨w.heap.size, 5, none⟩) (cell_block ss.2.1) (by show ¬ _ = _; simp only; omega)).trans ss.2.1, (K9.cell (a := ⟨bb, o, none⟩) (cell_block ss.2.2) (by show ¬ _ = _; exact hne)).trans ss.2.2⟩
      refine wpAnyH_ready (rs := [8]) (by kernel_rfl) (by simp) ?_
      refine AllReadyH.cons rfl (fun K hK => ?_) AllReadyH.nil
      go_simp
      refine hK.out _ _ (SX.out _ rfl) (fun hHeld => ?_)
      clear hK K
      refine wpAnyH_ready (rs := [9]) (by kernel_rfl) (by simp) ?_
      refine AllReadyH.cons rfl (fun K hK => ?_) AllReadyH.nil
      go_simp
      refine hK.out _ _ (SX.out _ rfl) (fun hHeld => ?_)
      clear hK K
      refine wpAnyH_done (by kernel_rfl) ?_ _
      go_wp2_with fail
      change bodyPost _ _ _ _ _ (setQ w6 (w.heap.size + 1) ⟨a, b, d, e, s⟩ (.slice A3 (k - 1) c3))
      clear SX
      generalize setQ w6 (w.heap.size + 1) ⟨a, b, d, e, s⟩ (.slice A3 (k - 1) c3) = w10 at *
      exact bodyPost_ret (res_take rfl _ _ (w.heap.size + 1) ⟨a, b, d, e, s⟩ (.slice A3 (k - 1) c3) (.int .i64 0) (.slice A5 m1 c5) rfl rfl rfl P9) rfl (TakeR.good HE.out rfl R9 O9 HC3.out HC3'.out S9)
end Go.Proofs.Ytkaobafgecoomaa
