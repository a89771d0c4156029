/- Contracts of the document's own functions of layer 10, part two: Put, Take. -/
import Derived.Test.YtkaobafgecoomaaChD
import Derived.Test.YtkaobafgecoomaaChV
namespace Go.Proofs.Ytkaobafgecoomaa
open Go.RowKit
set_option linter.unusedVariables false
set_option linter.unusedSimpArgs false

theorem append_nil_u8 {A : Option Addr} {m c : Nat} {row : List UInt8} {wd : World} (ty : TypeId) (hr : Rd wd wd.heap.size A m row) (hm : m ≤ 140737488355328) :
    ∃ A1 c1 w6, (Builtin.append_ #[27, 27] ty #[.slice (some ⟨wd.heap.size, 0, none⟩) 0 0, .slice A m c]).run Try.prog (wd.alloc (.cells #[] 5)) = .ok (.slice A1 m c1) w6 ∧ OwR w6 wd.heap.size A1 m row ∧ m ≤ c1 ∧ c1 ≤ 9223372036854775807 ∧ Below wd.heap.size wd w6 := by
  have hb := (Below.refl wd.heap.size wd).alloc (Nat.le_refl _) (.cells #[] 5)
  have hs : wd.heap.size ≤ (wd.alloc (.cells #[] 5)).heap.size := hb.size
  obtain ⟨v', w', hrun, hown, hbel, hsz⟩ := run_pushAll isU8 ty (B := wd.heap.size) (n := 0) (bs := []) (c := c) (own_top (w := wd) [] 5 (Nat.le_refl _) (by simp) (by decide)) (hr.to hb) hs (by omega)
  rw [Nat.zero_add, List.nil_append] at hown
  obtain ⟨A1, c1, rfl⟩ := own_slice hown
  obtain ⟨h1, h2⟩ := own_cap hown
  exact ⟨A1, c1, w', hrun, OwR.of_own hown, h1, h2, hb.trans hbel⟩
/-- A row that has just been copied, behind the rows of a queue that is boxed at g. -/
theorem push_row {B g k m c1 : Nat} {ch : Ch} {v : Value} {xs : List Row} {A1 : Option Addr} {row : List UInt8} {wd w6 : World} (ty : TypeId) (hq : QB wd g ch v) (hx : RowsX wd B v k xs) (hg : g < B) (hB : B ≤ wd.heap.size)
    (ho : OwR w6 wd.heap.size A1 m row) (h1 : m ≤ c1) (h2 : c1 ≤ 9223372036854775807) (hb : Below wd.heap.size wd w6) (hk : k + 1 ≤ 100000) :
    ∃ A2 c2 w7, (Builtin.append_ #[24, 24] ty #[v, .slice (some ⟨w6.heap.size, 0, none⟩) 1 1]).run Try.prog (w6.alloc (.cells #[.slice A1 m c1] 27)) = .ok (.slice A2 (k + 1) c2) w7 ∧
      QB w7 g ch v ∧ RowsX w7 B (.slice A2 (k + 1) c2) (k + 1) (xs ++ [fullR row]) ∧ Keep (fun b => B ≤ b) wd w7 := by
  obtain rfl : m = row.length := ho.1.1.symm
  have hb2 := (Below.refl w6.heap.size w6).alloc (Nat.le_refl _) (.cells #[.slice A1 row.length c1] 27)
  have hb3 := hb.trans (hb2.mono hb.size)
  have hO : ROk w6 B (fullR row) A1 c1 := ⟨ho.mono hB, Nat.le_refl _, h1, h2⟩
  obtain ⟨v', w7, hrun, hX, hK, hob⟩ := run_pushX ty (hx.to hb3) (x := fullR row) (A := A1) (c := c1) (heap_alloc_last w6 _) (hO.to hb2)
    (fun h0 b o e e2 => absurd (hx.base e2).2 (Nat.not_lt.2 (ho.blk h0 e).1)) (Nat.le_trans hB hb3.size) hk
  obtain ⟨A2, c2, rfl, _, _⟩ := hX.slice
  exact ⟨A2, c2, w7, hrun, (hq.to hb3).kept hK (fun e => by have h1 := (hx.base e).1; omega), hX, (Keep.of_below hb3).trans (hK.more (fun b e => (hx.base e).1))⟩
/-- The row's slice stored into that queue. -/
theorem store_rows {B g k c2 : Nat} {ch : Ch} {v : Value} {xs : List Row} {A2 : Option Addr} {wd w7 : World} (hq : QB w7 g ch v) (hx : RowsX w7 B (.slice A2 k c2) k xs) (hg : g < B) (hk : Keep (fun b => B ≤ b) wd w7) :
    QB (w7.setCell ⟨g, 5, none⟩ (.slice A2 k c2)) g ch (.slice A2 k c2) ∧ RowsX (w7.setCell ⟨g, 5, none⟩ (.slice A2 k c2)) B (.slice A2 k c2) k xs ∧ Keep (fun b => b = g ∨ B ≤ b) wd (w7.setCell ⟨g, 5, none⟩ (.slice A2 k c2)) :=
  ⟨hq.set _, hx.kept (R := fun b => b = g) ((Keep.refl _ _).setCell ⟨g, 5, none⟩ _ rfl) (fun b e => by rw [e]; exact hg), (hk.more (fun _ h => Or.inr h)).setCell ⟨g, 5, none⟩ _ (Or.inl rfl)⟩
theorem take_drop_step {l : List (List UInt8)} {k F : Nat} (h : k < l.length) (hF : F ≤ k) : (l.take (k + 1)).drop F = (l.take k).drop F ++ [l.getD k []] := by
  rw [List.take_succ_eq_append_getElem h, List.drop_append_of_le_length (by rw [List.length_take]; omega)]
  simp [List.getD, List.getElem?_eq_getElem h]
theorem take_drop_none {l : List (List UInt8)} {k F : Nat} (hF : k ≤ F) : (l.take k).drop F = [] := by
  rw [List.drop_eq_nil_iff, List.length_take]; omega
set_option maxRecDepth 1000000 in
set_option maxHeartbeats 1000000 in
theorem rPut (a b d e s : Int) (A A2 : Option Addr) (n c m c2 : Nat) (l : List (List UInt8)) (msg : List UInt8) (w : World) (hS : RdS w w.heap.size A n l) (hnc : n ≤ c) (hn : n ≤ 140737488355328) (hr : Rd w w.heap.size A2 m msg) :
    Calls Try.prog 12 #[.agg #[.int .i64 a, .int .i64 b, .int .i64 d, .int .i64 e, .int .i64 s, .slice A n c], .slice A2 m c2] w fun x w' => PutR w ⟨a, b, d, e, s⟩ l msg x w' := by
  obtain ⟨w2, hw2, hq, hz, hb, hsz⟩ := two_queues w a b d e s (.slice A n c)
  have HW2 := Lib.hid hw2
  have Q := Lib.hid hq
  have Z := Lib.hid hz
  have B := Lib.hid hb
  have S := Lib.hid (hS.toX hb)
  have R := Lib.hid (hr.to hb)
  have HN := Lib.hid hn
  have HC := Lib.hid hnc
  have HML := Lib.hid hr.1
  have HLL := Lib.hid hS.1
  have SZ := Lib.hid hsz
  clear hw2 hq hz hb hS hr hn hnc hsz
  obtain ⟨x0, x1, x2, x3, x4, x5⟩ := Q.out.six
  go_enter Try.func12, Try.ntmps12
  go_wp2_with fail
  rw [HW2.out]
  clear HW2
  refine (rMayQ a b d e s A n c l w2 S.out HN.out).mono ?_
  rintro x w3 ⟨rfl, hb⟩
  replace Q := Lib.hid (Q.out.to hb)
  replace Z := Lib.hid (Z.out.to hb)
  replace S := Lib.hid (S.out.toX hb)
  replace R := Lib.hid (R.out.to hb)
  replace B := Lib.hid (B.out.trans (hb.mono B.out.size))
  replace SZ := Lib.hid (show w.heap.size + 2 ≤ w3.heap.size by have := hb.size; have := SZ.out; omega)
  clear hb x0 x1 x2 x3 x4 x5
  obtain ⟨x0, x1, x2, x3, x4, x5⟩ := Q.out.six
  obtain ⟨r0, r1, r2, r3, r4, r5⟩ := Z.out.qx.six
  obtain ⟨f0, f1, f2, f3, f4, f5⟩ := Z.out.zeros
  cases hm : mayQ ⟨a, b, d, e, s⟩ l
  · have HE : Hid (errP ⟨a, b, d, e, s⟩ l msg = 2) := by show _ = _; unfold errP; rw [hm]; rfl
    clear hm
    go_wp2_with fail
    change bodyPost _ _ _ _ _ (setQ w3 (w.heap.size + 1) Ch.zero (.slice none 0 0))
    have P9 := Z.out.put Ch.zero (.slice none 0 0)
    have B9 := below_setQ B.out (Nat.le_succ w.heap.size) Ch.zero (.slice none 0 0)
    generalize setQ w3 (w.heap.size + 1) Ch.zero (.slice none 0 0) = w9 at *
    refine bodyPost_ret (res_queue rfl _ _ (w.heap.size + 1) Ch.zero (.slice none 0 0) (.int .i64 _) rfl rfl P9) rfl (PutR.bad HE.out (by decide) B9)
  have HM := Lib.hid hm
  clear hm
  by_cases hlong : (m : Int) > s
  · have HE : Hid (errP ⟨a, b, d, e, s⟩ l msg = 3) := by
      show _ = _; unfold errP longM; rw [HM.out, HML.out, decide_eq_true (by exact hlong)]; rfl
    go_wp2_with fail
    change bodyPost _ _ _ _ _ (setQ w3 (w.heap.size + 1) Ch.zero (.slice none 0 0))
    have P9 := Z.out.put Ch.zero (.slice none 0 0)
    have B9 := below_setQ B.out (Nat.le_succ w.heap.size) Ch.zero (.slice none 0 0)
    generalize setQ w3 (w.heap.size + 1) Ch.zero (.slice none 0 0) = w9 at *
    refine bodyPost_ret (res_queue rfl _ _ (w.heap.size + 1) Ch.zero (.slice none 0 0) (.int .i64 _) rfl rfl P9) rfl (PutR.bad HE.out (by decide) B9)
  have HE : Hid (errP ⟨a, b, d, e, s⟩ l msg = 0) := by
    show _ = _; unfold errP longM; rw [HM.out, HML.out, decide_eq_false (by exact hlong)]; rfl
  have HLE := Lib.hid (mayQ_lens HM.out)
  have HMS : Hid (m ≤ 16) := by (show _ ≤ _); have := (mayC_iff.1 (mayQ_iff.1 HM.out).1); simp only at this; omega
  obtain ⟨F, hF⟩ : ∃ F, fstM ⟨a, b, d, e, s⟩ l = F := ⟨_, rfl⟩
  have HPM : Hid (putM ⟨a, b, d, e, s⟩ l msg = l.drop F ++ [msg]) := by show _ = _; rw [putM_fst, hF]
  have HFF : Hid ((F = 0 ∧ (n : Int) < e) ∨ (F = 1 ∧ (n : Int) = e)) := by
    show _ ∨ _
    have h1 := (mayQ_iff.1 HM.out).2.1
    unfold fstM at hF
    rw [HLL.out] at hF h1
    simp only at h1 hF
    split at hF
    · exact .inr ⟨hF.symm, by assumption⟩
    · exact .inl ⟨hF.symm, by omega⟩
  have HFN : Hid (F ≤ n) := by
    show _ ≤ _
    have h1 := (mayC_iff.1 (mayQ_iff.1 HM.out).1)
    have h2 := HFF.out
    simp only at h1
    omega
  clear hF
  have hB4 := (Below.refl w3.heap.size w3).alloc (Nat.le_refl _) (.cells #[.int .i64 a, .int .i64 b, .int .i64 d, .int .i64 e, .int .i64 s, .slice none 0 0] 26)
  have G := Lib.hid (QB.new w3 a b d e s (.slice none 0 0))
  have B4 := Lib.hid hB4
  have H4 : Hid ((w3.alloc (.cells #[.int .i64 a, .int .i64 b, .int .i64 d, .int .i64 e, .int .i64 s, .slice none 0 0] 26)).heap.size = w3.heap.size + 1) := by show _ = _; simp
  clear hB4 r0 r1 r2 r3 r4 r5 f0 f1 f2 f3 f4 f5
  go_wp2_with fail
  clear x0 x1 x2 x3 x4 x5 hlong
  generalize w3.alloc (.cells #[.int .i64 a, .int .i64 b, .int .i64 d, .int .i64 e, .int .i64 s, .slice none 0 0] 26) = w4 at *
  go_loopw [7] (fun s7 wr => ∃ (k : Nat) (v : Value), k ≤ n ∧ s7 = .int .i64 (k : Int) ∧ QB wr w3.heap.size ⟨a, b, d, e, s⟩ v ∧ RowsX wr (w3.heap.size + 1) v (k - F) (((l.take k).drop F).map fullR) ∧ Below w3.heap.size w3 wr ∧ w3.heap.size + 1 ≤ wr.heap.size) (fun s7 _ => n - (intOf s7).toNat)
  case atStart => exact ⟨0, .slice none 0 0, Nat.zero_le _, rfl, G.out, by rw [Nat.zero_sub]; simpa using RowsX.nil w4 (w3.heap.size + 1), B4.out, Nat.le_of_eq H4.out.symm⟩
  case round =>
    obtain ⟨k, v, hk, rfl, hq, hx, hb, hsz⟩ := hrel
    clear G B4 H4
    have G := Lib.hid hq
    have X := Lib.hid hx
    have B4 := Lib.hid hb
    have H4 := Lib.hid hsz
    have QR := Lib.hid (Q.out.below (by have := SZ.out; omega) hb)
    clear hq hx hb hsz
    obtain ⟨x0, x1, x2, x3, x4, x5⟩ := QR.out.six
    by_cases hlt : k < n
    · have hltI : (k : Int) < (n : Int) := by omega
      have HLT : Hid (k < n) := hlt
      have hwk : IntKind.i64.wrap ((k : Int) + 1) = (k : Int) + 1 := by have := HLL.out; have := HLE.out.1; rw [IntKind.wrap_i64]; omega
      obtain ⟨bb, o, A1, m1, c1, rfl, hcell, hrd⟩ := ((S.out.belowX B4.out).moreX B4.out.size).at_ hlt
      have HCL := Lib.hid hcell
      have HR1 := Lib.hid hrd
      have HM1 : Hid (m1 ≤ 16) := by
        show _ ≤ _
        rw [← hrd.1]
        have hkl : k < l.length := by rw [S.out.1]; exact hlt
        refine HLE.out.2 _ ?_
        rw [show l.getD k [] = l[k] from by simp [List.getD, List.getElem?_eq_getElem hkl]]
        exact List.getElem_mem hkl
      clear hrd hk hlt
      by_cases hkF : F ≤ k
      · by_cases hk0 : k = 0
        · have hkp1 : decide (0 < (k : Int)) = false := decide_eq_false (by omega)
          have hkp2 : decide (0 < k) = false := decide_eq_false (by omega)
          have hne : (n : Int) < e := by have := HFF.out; omega
          clear hk0
          have HKF := Lib.hid hkF
          clear hkF hcell
          go_wp2_with fail
          obtain ⟨wd, hwd⟩ : ∃ wd, wr.drew = wd := ⟨_, rfl⟩
          have SS : Hid (wd.cell? ⟨w3.heap.size, 5, none⟩ = some v ∧ wd.cell? ⟨w.heap.size, 5, none⟩ = some (.slice (some ⟨bb, o, none⟩) n c) ∧ wd.cell? ⟨bb, o + k, none⟩ = some (.slice A1 m1 c1)) := by
            rw [← hwd]; exact ⟨G.out.qx.c5, x5, HCL.out⟩
          clear x0 x1 x2 x3 x4 x5 QR
          replace G : Hid (QB wd w3.heap.size ⟨a, b, d, e, s⟩ v) := by rw [← hwd]; exact G.out
          replace X : Hid (RowsX wd (w3.heap.size + 1) v (k - F) (((l.take k).drop F).map fullR)) := by rw [← hwd]; exact X.out
          replace B4 : Hid (Below w3.heap.size w3 wd) := by rw [← hwd]; exact B4.out.drew
          replace H4 : Hid (w3.heap.size + 1 ≤ wd.heap.size) := by rw [← hwd]; exact H4.out
          replace HR1 : Hid (Rd wd wd.heap.size A1 m1 (l.getD k [])) := by rw [← hwd]; exact HR1.out
          refine AnyE.start (m := 12) (S := (fun w' => w'.cell? ⟨w3.heap.size, 5, none⟩ = some v ∧ w'.cell? ⟨w.heap.size, 5, none⟩ = some (.slice (some ⟨bb, o, none⟩) n c) ∧ w'.cell? ⟨bb, o + k, none⟩ = some (.slice A1 m1 c1))) (by kernel_rfl) ((by rw [hwd]; exact SS.out)) (fun hHeld => ?_)
          rw [hwd] at hHeld ⊢
          clear hwd
          have SK : Hid (∀ W, Below wd.heap.size wd W → W.cell? ⟨w3.heap.size, 5, none⟩ = some v ∧ W.cell? ⟨w.heap.size, 5, none⟩ = some (.slice (some ⟨bb, o, none⟩) n c) ∧ W.cell? ⟨bb, o + k, none⟩ = some (.slice A1 m1 c1)) := fun W hW =>
            ⟨(hW.cell (p := ⟨_, _, none⟩) (cell_block SS.out.1)).trans SS.out.1, (hW.cell (p := ⟨_, _, none⟩) (cell_block SS.out.2.1)).trans SS.out.2.1, (hW.cell (p := ⟨_, _, none⟩) (cell_block SS.out.2.2)).trans SS.out.2.2⟩
          obtain ⟨A5, c5, w6, hrun, ho, h1, h2, hb6⟩ := append_nil_u8 27 (c := c1) HR1.out (by have := HM1.out; omega)
          obtain ⟨A7, c7, w7, hrun7, hq7, hx7, hk7⟩ := push_row 24 G.out X.out (Nat.lt_succ_self _) H4.out ho h1 h2 hb6 (by have := HLL.out; have := HLE.out.1; have := HLT.out; omega)
          have RUN := Lib.hid hrun
          have RUN7 := Lib.hid hrun7
          have G7 := Lib.hid hq7
          have X7 := Lib.hid hx7
          have K7 := Lib.hid hk7
          have B6 := Lib.hid hb6
          have B6a := Lib.hid (hb6.trans (((Below.refl w6.heap.size w6).alloc (Nat.le_refl _) (.cells #[.slice A5 m1 c5] 27)).mono hb6.size))
          have S7 : Hid (w7.cell? ⟨w3.heap.size, 5, none⟩ = some v ∧ w7.cell? ⟨w.heap.size, 5, none⟩ = some (.slice (some ⟨bb, o, none⟩) n c) ∧ w7.cell? ⟨bb, o + k, none⟩ = some (.slice A1 m1 c1)) :=
            ⟨hq7.qx.c5, (hk7.cell (a := ⟨w.heap.size, 5, none⟩) (cell_block SS.out.2.1) (by have := SZ.out; show ¬ _ ≤ _; simp only; omega)).trans SS.out.2.1, (hk7.cell (a := ⟨bb, o + k, none⟩) (cell_block SS.out.2.2) (by
              obtain ⟨b', o', e', h', _⟩ := S.out.2 (Nat.lt_of_le_of_lt (Nat.zero_le _) HLT.out)
              injection e' with e'; injection e' with e' _
              show ¬ _ ≤ _; simp only; omega)).trans SS.out.2.2⟩
          clear hrun ho h1 h2 hb6 hrun7 hq7 hx7 hk7
          refine AnyE.take (i := 0) (v := ?_) rfl (by kernel_rfl) (by kernel_rfl) (by kernel_rfl) (by kernel_rfl) (fun _ _ _ h => h) (Or.inl ⟨by rfl, ?_⟩) (by assumption) ?_
          rotate_left 1
          · intro w hSw; (try dsimp only at hSw); go_simp; (try with_reducible rfl)
          simp only [Act.put, List.getElem_toArray, List.getElem_cons_zero, List.getElem_cons_succ, List.setIfInBounds_toArray, List.set_cons_zero, List.set_cons_succ]
          refine AnyE.take (i := 1) (v := ?_) rfl (by kernel_rfl) (by kernel_rfl) (by kernel_rfl) (by kernel_rfl) (fun _ _ _ h => h) (Or.inl ⟨by rfl, ?_⟩) (by assumption) ?_
          rotate_left 1
          · intro w hSw; (try dsimp only at hSw); go_simp; (try with_reducible rfl)
          simp only [Act.put, List.getElem_toArray, List.getElem_cons_zero, List.getElem_cons_succ, List.setIfInBounds_toArray, List.set_cons_zero, List.set_cons_succ]
          refine AnyE.take (i := 3) (v := ?_) rfl (by kernel_rfl) (by kernel_rfl) (by kernel_rfl) (by kernel_rfl) (fun _ _ _ h => h) (Or.inl ⟨by rfl, ?_⟩) (by assumption) ?_
          rotate_left 1
          · intro w hSw; (try dsimp only at hSw); go_simp; (try with_reducible rfl)
          simp only [Act.put, List.getElem_toArray, List.getElem_cons_zero, List.getElem_cons_succ, List.setIfInBounds_toArray, List.set_cons_zero, List.set_cons_succ]
          refine AnyE.take (i := 4) (v := ?_) rfl (by kernel_rfl) (by kernel_rfl) (by kernel_rfl) (by kernel_rfl) (fun _ _ _ h => h) (Or.inl ⟨by rfl, ?_⟩) (by assumption) ?_
          rotate_left 1
          · intro w hSw; (try dsimp only at hSw); go_simp; (try with_reducible rfl)
          simp only [Act.put, List.getElem_toArray, List.getElem_cons_zero, List.getElem_cons_succ, List.setIfInBounds_toArray, List.set_cons_zero, List.set_cons_succ]
          refine AnyE.take (i := 5) (v := ?_) rfl (by kernel_rfl) (by kernel_rfl) (by kernel_rfl) (by kernel_rfl) (fun _ _ _ h => h) (Or.inl ⟨by rfl, ?_⟩) (by assumption) ?_
          rotate_left 1
          · intro w hSw; (try dsimp only at hSw); go_simp; (try with_reducible rfl)
          simp only [Act.put, List.getElem_toArray, List.getElem_cons_zero, List.getElem_cons_succ, List.setIfInBounds_toArray, List.set_cons_zero, List.set_cons_succ]
          refine AnyE.take (i := 6) (v := ?_) rfl (by kernel_rfl) (by kernel_rfl) (by kernel_rfl) (by kernel_rfl) (fun _ _ _ h => h) (Or.inl ⟨by rfl, ?_⟩) (by assumption) ?_
          rotate_left 1
          · intro w hSw; (try dsimp only at hSw); go_simp; (try with_reducible rfl)
          simp only [Act.put, List.getElem_toArray, List.getElem_cons_zero, List.getElem_cons_succ, List.setIfInBounds_toArray, List.set_cons_zero, List.set_cons_succ]
          refine AnyE.take (i := 7) (v := ?_) rfl (by kernel_rfl) (by kernel_rfl) (by kernel_rfl) (by kernel_rfl) (fun _ _ _ h => h) (Or.inl ⟨by rfl, ?_⟩) (by assumption) ?_
          rotate_left 1
          · intro w hSw; (try dsimp only at hSw); go_simp; (try with_reducible rfl)
          simp only [Act.put, List.getElem_toArray, List.getElem_cons_zero, List.getElem_cons_succ, List.setIfInBounds_toArray, List.set_cons_zero, List.set_cons_succ]
          refine AnyE.ready (rs := [2]) (by kernel_rfl) (by simp) ?_
          refine ReadyE.cons rfl (fun K hK => ?_) ReadyE.nil
          go_simp
          refine hK.out _ _ (SK.out _ ((Below.refl _ _).alloc (Nat.le_refl _) _)) (fun hHeld => ?_)
          clear hK K
          refine AnyE.ready (rs := [8]) (by kernel_rfl) (by simp) ?_
          refine ReadyE.cons rfl (fun K hK => ?_) ReadyE.nil
          refine step_append_run rfl (.tmp 42) (.tmp 47) rfl rfl rfl RUN.out ?_
          skip
          refine hK.out _ _ (SK.out _ B6.out) (fun hHeld => ?_)
          clear hK K
          simp only [Act.put, List.getElem_toArray, List.getElem_cons_zero, List.getElem_cons_succ, List.setIfInBounds_toArray, List.set_cons_zero, List.set_cons_succ]
          refine AnyE.ready (rs := [9]) (by kernel_rfl) (by simp) ?_
          refine ReadyE.cons rfl (fun K hK => ?_) ReadyE.nil
          go_simp
          refine hK.out _ _ (SK.out _ B6a.out) (fun hHeld => ?_)
          clear hK K
          refine AnyE.ready (rs := [10]) (by kernel_rfl) (by simp) ?_
          refine ReadyE.cons rfl (fun K hK => ?_) ReadyE.nil
          refine step_append_run rfl (.tmp 41) (.tmp 49) rfl rfl rfl RUN7.out ?_
          skip
          refine hK.out _ _ (S7.out) (fun hHeld => ?_)
          clear hK K
          simp only [Act.put, List.getElem_toArray, List.getElem_cons_zero, List.getElem_cons_succ, List.setIfInBounds_toArray, List.set_cons_zero, List.set_cons_succ]
          refine AnyE.take (i := 11) (v := ?_) rfl (by kernel_rfl) (by kernel_rfl) (by kernel_rfl) (by kernel_rfl) (fun _ _ _ h => h) (Or.inl ⟨by rfl, ?_⟩) (by assumption) ?_
          rotate_left 1
          · intro w hSw; (try dsimp only at hSw); go_simp; (try with_reducible rfl)
          simp only [Act.put, List.getElem_toArray, List.getElem_cons_zero, List.getElem_cons_succ, List.setIfInBounds_toArray, List.set_cons_zero, List.set_cons_succ]
          clear hHeld
          have c5' := G7.out.qx.c5
          have f5' := G7.out.fz 5
          refine AnyE.ready (rs := [12]) (by kernel_rfl) (by simp) ?_
          refine ReadyE.last rfl (by kernel_rfl) (fun K hK => ?_)
          go_simp
          refine hK.out _ _ trivial (fun _ => ?_)
          clear hK K
          refine AnyE.done (by kernel_rfl) ?_ _
          have HST := Lib.hid (store_rows G7.out X7.out (Nat.lt_succ_self _) K7.out)
          clear c5' f5'
          generalize w7.setCell ⟨w3.heap.size, 5, none⟩ (.slice A7 (k - F + 1) c7) = w8 at *
          go_wp2_with fail
          go_roundw
          case rel => exact ⟨k + 1, _, HLT.out, by go_num, HST.out.1, by
            rw [take_drop_step (by rw [S.out.1]; exact HLT.out) HKF.out, List.map_append, show k + 1 - F = k - F + 1 from by have := HKF.out; omega]; exact HST.out.2.1,
            HST.out.2.2.below B4.out B4.out.size (fun b h => by omega), Nat.le_trans H4.out HST.out.2.2.size⟩
          case measure => have := HLT.out; simp [intOf]; omega
        · have hkpI : (k : Int) > 0 := by omega
          clear hk0
          have HKF := Lib.hid hkF
          clear hkF hcell
          go_wp2_with fail
          obtain ⟨wd, hwd⟩ : ∃ wd, wr.drew = wd := ⟨_, rfl⟩
          have SS : Hid (wd.cell? ⟨w3.heap.size, 5, none⟩ = some v ∧ wd.cell? ⟨w.heap.size, 5, none⟩ = some (.slice (some ⟨bb, o, none⟩) n c) ∧ wd.cell? ⟨bb, o + k, none⟩ = some (.slice A1 m1 c1)) := by
            rw [← hwd]; exact ⟨G.out.qx.c5, x5, HCL.out⟩
          clear x0 x1 x2 x3 x4 x5 QR
          replace G : Hid (QB wd w3.heap.size ⟨a, b, d, e, s⟩ v) := by rw [← hwd]; exact G.out
          replace X : Hid (RowsX wd (w3.heap.size + 1) v (k - F) (((l.take k).drop F).map fullR)) := by rw [← hwd]; exact X.out
          replace B4 : Hid (Below w3.heap.size w3 wd) := by rw [← hwd]; exact B4.out.drew
          replace H4 : Hid (w3.heap.size + 1 ≤ wd.heap.size) := by rw [← hwd]; exact H4.out
          replace HR1 : Hid (Rd wd wd.heap.size A1 m1 (l.getD k [])) := by rw [← hwd]; exact HR1.out
          refine AnyE.start (m := 12) (S := (fun w' => w'.cell? ⟨w3.heap.size, 5, none⟩ = some v ∧ w'.cell? ⟨w.heap.size, 5, none⟩ = some (.slice (some ⟨bb, o, none⟩) n c) ∧ w'.cell? ⟨bb, o + k, none⟩ = some (.slice A1 m1 c1))) (by kernel_rfl) ((by rw [hwd]; exact SS.out)) (fun hHeld => ?_)
          rw [hwd] at hHeld ⊢
          clear hwd
          have SK : Hid (∀ W, Below wd.heap.size wd W → W.cell? ⟨w3.heap.size, 5, none⟩ = some v ∧ W.cell? ⟨w.heap.size, 5, none⟩ = some (.slice (some ⟨bb, o, none⟩) n c) ∧ W.cell? ⟨bb, o + k, none⟩ = some (.slice A1 m1 c1)) := fun W hW =>
            ⟨(hW.cell (p := ⟨_, _, none⟩) (cell_block SS.out.1)).trans SS.out.1, (hW.cell (p := ⟨_, _, none⟩) (cell_block SS.out.2.1)).trans SS.out.2.1, (hW.cell (p := ⟨_, _, none⟩) (cell_block SS.out.2.2)).trans SS.out.2.2⟩
          obtain ⟨A5, c5, w6, hrun, ho, h1, h2, hb6⟩ := append_nil_u8 27 (c := c1) HR1.out (by have := HM1.out; omega)
          obtain ⟨A7, c7, w7, hrun7, hq7, hx7, hk7⟩ := push_row 24 G.out X.out (Nat.lt_succ_self _) H4.out ho h1 h2 hb6 (by have := HLL.out; have := HLE.out.1; have := HLT.out; omega)
          have RUN := Lib.hid hrun
          have RUN7 := Lib.hid hrun7
          have G7 := Lib.hid hq7
          have X7 := Lib.hid hx7
          have K7 := Lib.hid hk7
          have B6 := Lib.hid hb6
          have B6a := Lib.hid (hb6.trans (((Below.refl w6.heap.size w6).alloc (Nat.le_refl _) (.cells #[.slice A5 m1 c5] 27)).mono hb6.size))
          have S7 : Hid (w7.cell? ⟨w3.heap.size, 5, none⟩ = some v ∧ w7.cell? ⟨w.heap.size, 5, none⟩ = some (.slice (some ⟨bb, o, none⟩) n c) ∧ w7.cell? ⟨bb, o + k, none⟩ = some (.slice A1 m1 c1)) :=
            ⟨hq7.qx.c5, (hk7.cell (a := ⟨w.heap.size, 5, none⟩) (cell_block SS.out.2.1) (by have := SZ.out; show ¬ _ ≤ _; simp only; omega)).trans SS.out.2.1, (hk7.cell (a := ⟨bb, o + k, none⟩) (cell_block SS.out.2.2) (by
              obtain ⟨b', o', e', h', _⟩ := S.out.2 (Nat.lt_of_le_of_lt (Nat.zero_le _) HLT.out)
              injection e' with e'; injection e' with e' _
              show ¬ _ ≤ _; simp only; omega)).trans SS.out.2.2⟩
          clear hrun ho h1 h2 hb6 hrun7 hq7 hx7 hk7
          refine AnyE.take (i := 0) (v := ?_) rfl (by kernel_rfl) (by kernel_rfl) (by kernel_rfl) (by kernel_rfl) (fun _ _ _ h => h) (Or.inl ⟨by rfl, ?_⟩) (by assumption) ?_
          rotate_left 1
          · intro w hSw; (try dsimp only at hSw); go_simp; (try with_reducible rfl)
          simp only [Act.put, List.getElem_toArray, List.getElem_cons_zero, List.getElem_cons_succ, List.setIfInBounds_toArray, List.set_cons_zero, List.set_cons_succ]
          refine AnyE.take (i := 1) (v := ?_) rfl (by kernel_rfl) (by kernel_rfl) (by kernel_rfl) (by kernel_rfl) (fun _ _ _ h => h) (Or.inl ⟨by rfl, ?_⟩) (by assumption) ?_
          rotate_left 1
          · intro w hSw; (try dsimp only at hSw); go_simp; (try with_reducible rfl)
          simp only [Act.put, List.getElem_toArray, List.getElem_cons_zero, List.getElem_cons_succ, List.setIfInBounds_toArray, List.set_cons_zero, List.set_cons_succ]
          refine AnyE.take (i := 3) (v := ?_) rfl (by kernel_rfl) (by kernel_rfl) (by kernel_rfl) (by kernel_rfl) (fun _ _ _ h => h) (Or.inl ⟨by rfl, ?_⟩) (by assumption) ?_
          rotate_left 1
          · intro w hSw; (try dsimp only at hSw); go_simp; (try with_reducible rfl)
          simp only [Act.put, List.getElem_toArray, List.getElem_cons_zero, List.getElem_cons_succ, List.setIfInBounds_toArray, List.set_cons_zero, List.set_cons_succ]
          refine AnyE.take (i := 4) (v := ?_) rfl (by kernel_rfl) (by kernel_rfl) (by kernel_rfl) (by kernel_rfl) (fun _ _ _ h => h) (Or.inl ⟨by rfl, ?_⟩) (by assumption) ?_
          rotate_left 1
          · intro w hSw; (try dsimp only at hSw); go_simp; (try with_reducible rfl)
          simp only [Act.put, List.getElem_toArray, List.getElem_cons_zero, List.getElem_cons_succ, List.setIfInBounds_toArray, List.set_cons_zero, List.set_cons_succ]
          refine AnyE.take (i := 5) (v := ?_) rfl (by kernel_rfl) (by kernel_rfl) (by kernel_rfl) (by kernel_rfl) (fun _ _ _ h => h) (Or.inl ⟨by rfl, ?_⟩) (by assumption) ?_
          rotate_left 1
          · intro w hSw; (try dsimp only at hSw); go_simp; (try with_reducible rfl)
          simp only [Act.put, List.getElem_toArray, List.getElem_cons_zero, List.getElem_cons_succ, List.setIfInBounds_toArray, List.set_cons_zero, List.set_cons_succ]
          refine AnyE.take (i := 6) (v := ?_) rfl (by kernel_rfl) (by kernel_rfl) (by kernel_rfl) (by kernel_rfl) (fun _ _ _ h => h) (Or.inl ⟨by rfl, ?_⟩) (by assumption) ?_
          rotate_left 1
          · intro w hSw; (try dsimp only at hSw); go_simp; (try with_reducible rfl)
          simp only [Act.put, List.getElem_toArray, List.getElem_cons_zero, List.getElem_cons_succ, List.setIfInBounds_toArray, List.set_cons_zero, List.set_cons_succ]
          refine AnyE.take (i := 7) (v := ?_) rfl (by kernel_rfl) (by kernel_rfl) (by kernel_rfl) (by kernel_rfl) (fun _ _ _ h => h) (Or.inl ⟨by rfl, ?_⟩) (by assumption) ?_
          rotate_left 1
          · intro w hSw; (try dsimp only at hSw); go_simp; (try with_reducible rfl)
          simp only [Act.put, List.getElem_toArray, List.getElem_cons_zero, List.getElem_cons_succ, List.setIfInBounds_toArray, List.set_cons_zero, List.set_cons_succ]
          refine AnyE.ready (rs := [2]) (by kernel_rfl) (by simp) ?_
          refine ReadyE.cons rfl (fun K hK => ?_) ReadyE.nil
          go_simp
          refine hK.out _ _ (SK.out _ ((Below.refl _ _).alloc (Nat.le_refl _) _)) (fun hHeld => ?_)
          clear hK K
          refine AnyE.ready (rs := [8]) (by kernel_rfl) (by simp) ?_
          refine ReadyE.cons rfl (fun K hK => ?_) ReadyE.nil
          refine step_append_run rfl (.tmp 42) (.tmp 47) rfl rfl rfl RUN.out ?_
          skip
          refine hK.out _ _ (SK.out _ B6.out) (fun hHeld => ?_)
          clear hK K
          simp only [Act.put, List.getElem_toArray, List.getElem_cons_zero, List.getElem_cons_succ, List.setIfInBounds_toArray, List.set_cons_zero, List.set_cons_succ]
          refine AnyE.ready (rs := [9]) (by kernel_rfl) (by simp) ?_
          refine ReadyE.cons rfl (fun K hK => ?_) ReadyE.nil
          go_simp
          refine hK.out _ _ (SK.out _ B6a.out) (fun hHeld => ?_)
          clear hK K
          refine AnyE.ready (rs := [10]) (by kernel_rfl) (by simp) ?_
          refine ReadyE.cons rfl (fun K hK => ?_) ReadyE.nil
          refine step_append_run rfl (.tmp 41) (.tmp 49) rfl rfl rfl RUN7.out ?_
          skip
          refine hK.out _ _ (S7.out) (fun hHeld => ?_)
          clear hK K
          simp only [Act.put, List.getElem_toArray, List.getElem_cons_zero, List.getElem_cons_succ, List.setIfInBounds_toArray, List.set_cons_zero, List.set_cons_succ]
          refine AnyE.take (i := 11) (v := ?_) rfl (by kernel_rfl) (by kernel_rfl) (by kernel_rfl) (by kernel_rfl) (fun _ _ _ h => h) (Or.inl ⟨by rfl, ?_⟩) (by assumption) ?_
          rotate_left 1
          · intro w hSw; (try dsimp only at hSw); go_simp; (try with_reducible rfl)
          simp only [Act.put, List.getElem_toArray, List.getElem_cons_zero, List.getElem_cons_succ, List.setIfInBounds_toArray, List.set_cons_zero, List.set_cons_succ]
          clear hHeld
          have c5' := G7.out.qx.c5
          have f5' := G7.out.fz 5
          refine AnyE.ready (rs := [12]) (by kernel_rfl) (by simp) ?_
          refine ReadyE.last rfl (by kernel_rfl) (fun K hK => ?_)
          go_simp
          refine hK.out _ _ trivial (fun _ => ?_)
          clear hK K
          refine AnyE.done (by kernel_rfl) ?_ _
          have HST := Lib.hid (store_rows G7.out X7.out (Nat.lt_succ_self _) K7.out)
          clear c5' f5'
          generalize w7.setCell ⟨w3.heap.size, 5, none⟩ (.slice A7 (k - F + 1) c7) = w8 at *
          go_wp2_with fail
          go_roundw
          case rel => exact ⟨k + 1, _, HLT.out, by go_num, HST.out.1, by
            rw [take_drop_step (by rw [S.out.1]; exact HLT.out) HKF.out, List.map_append, show k + 1 - F = k - F + 1 from by have := HKF.out; omega]; exact HST.out.2.1,
            HST.out.2.2.below B4.out B4.out.size (fun b h => by omega), Nat.le_trans H4.out HST.out.2.2.size⟩
          case measure => have := HLT.out; simp [intOf]; omega
      · have hk0 : Hid (k = 0) := by show _ = _; have := HFF.out; omega
        have hkp1 : decide (0 < (k : Int)) = false := decide_eq_false (by have := hk0.out; omega)
        have hkp2 : decide (0 < k) = false := decide_eq_false (by have := hk0.out; omega)
        have hne : ¬ (n : Int) < e := by have := HFF.out; omega
        have HF1 : Hid (F = 1) := by show _ = _; have := HFF.out; omega
        clear hkF hcell
        go_wp2_with fail
        go_roundw
        case rel => exact ⟨k + 1, v, HLT.out, by go_num, G.out, by rw [hk0.out, HF1.out, take_drop_none (Nat.le_refl 1)]; have := X.out; rw [hk0.out, HF1.out, take_drop_none (Nat.zero_le 1)] at this; exact this, B4.out, H4.out⟩
        case measure => have := HLT.out; simp [intOf]; omega
    · obtain rfl : k = n := by omega
      have hltI : ¬ (k : Int) < (k : Int) := by omega
      have HT : Hid (l.take k = l) := by show _ = _; rw [← S.out.1]; exact List.take_length
      clear hk hlt
      go_wp2_with fail
      obtain ⟨wd, hwd⟩ : ∃ wd, wr.drew = wd := ⟨_, rfl⟩
      have SS : Hid (wd.cell? ⟨w3.heap.size, 5, none⟩ = some v) := by
        rw [← hwd]; exact G.out.qx.c5
      clear x0 x1 x2 x3 x4 x5 QR
      have ZW := Lib.hid (Z.out.below (by have := SZ.out; omega) B4.out)
      have RW := Lib.hid ((R.out.below B4.out).more B4.out.size)
      replace G : Hid (QB wd w3.heap.size ⟨a, b, d, e, s⟩ v) := by rw [← hwd]; exact G.out
      replace X : Hid (RowsX wd (w3.heap.size + 1) v (k - F) ((l.drop F).map fullR)) := by rw [← hwd]; have := X.out; rw [HT.out] at this; exact this
      replace B4 : Hid (Below w3.heap.size w3 wd) := by rw [← hwd]; exact B4.out.drew
      replace H4 : Hid (w3.heap.size + 1 ≤ wd.heap.size) := by rw [← hwd]; exact H4.out
      replace RW : Hid (Rd wd wd.heap.size A2 m msg) := by rw [← hwd]; exact RW.out
      replace ZW : Hid (QB wd (w.heap.size + 1) Ch.zero (.slice none 0 0)) := by rw [← hwd]; exact ZW.out
      refine AnyE.start (m := 8) (S := (fun w' => w'.cell? ⟨w3.heap.size, 5, none⟩ = some v)) (by kernel_rfl) ((by rw [hwd]; exact SS.out)) (fun hHeld => ?_)
      rw [hwd] at hHeld ⊢
      clear hwd
      have SK : Hid (∀ W, Below wd.heap.size wd W → W.cell? ⟨w3.heap.size, 5, none⟩ = some v) := fun W hW => (hW.cell (p := ⟨_, _, none⟩) (cell_block SS.out)).trans SS.out
      obtain ⟨A5, c5, w6, hrun, ho, h1, h2, hb6⟩ := append_nil_u8 27 (c := c2) RW.out (by have := HMS.out; omega)
      obtain ⟨A7, c7, w7, hrun7, hq7, hx7, hk7⟩ := push_row 24 G.out X.out (Nat.lt_succ_self _) H4.out ho h1 h2 hb6 (by have := HLL.out; have := HLE.out.1; omega)
      have RUN := Lib.hid hrun
      have RUN7 := Lib.hid hrun7
      have G7 := Lib.hid hq7
      have X7 := Lib.hid hx7
      have K7 := Lib.hid hk7
      have B6 := Lib.hid hb6
      have B6a := Lib.hid (hb6.trans (((Below.refl w6.heap.size w6).alloc (Nat.le_refl _) (.cells #[.slice A5 m c5] 27)).mono hb6.size))
      have Z7 := Lib.hid (ZW.out.kept hk7 (fun h => by have := SZ.out; omega))
      clear hrun ho h1 h2 hb6 hrun7 hq7 hx7 hk7
      refine AnyE.take (i := 0) (v := ?_) rfl (by kernel_rfl) (by kernel_rfl) (by kernel_rfl) (by kernel_rfl) (fun _ _ _ h => h) (Or.inl ⟨by rfl, ?_⟩) (by assumption) ?_
      rotate_left 1
      · intro w hSw; (try dsimp only at hSw); go_simp; (try with_reducible rfl)
      simp only [Act.put, List.getElem_toArray, List.getElem_cons_zero, List.getElem_cons_succ, List.setIfInBounds_toArray, List.set_cons_zero, List.set_cons_succ]
      refine AnyE.take (i := 1) (v := ?_) rfl (by kernel_rfl) (by kernel_rfl) (by kernel_rfl) (by kernel_rfl) (fun _ _ _ h => h) (Or.inl ⟨by rfl, ?_⟩) (by assumption) ?_
      rotate_left 1
      · intro w hSw; (try dsimp only at hSw); go_simp; (try with_reducible rfl)
      simp only [Act.put, List.getElem_toArray, List.getElem_cons_zero, List.getElem_cons_succ, List.setIfInBounds_toArray, List.set_cons_zero, List.set_cons_succ]
      refine AnyE.take (i := 3) (v := ?_) rfl (by kernel_rfl) (by kernel_rfl) (by kernel_rfl) (by kernel_rfl) (fun _ _ _ h => h) (Or.inl ⟨by rfl, ?_⟩) (by assumption) ?_
      rotate_left 1
      · intro w hSw; (try dsimp only at hSw); go_simp; (try with_reducible rfl)
      simp only [Act.put, List.getElem_toArray, List.getElem_cons_zero, List.getElem_cons_succ, List.setIfInBounds_toArray, List.set_cons_zero, List.set_cons_succ]
      refine AnyE.ready (rs := [2]) (by kernel_rfl) (by simp) ?_
      refine ReadyE.cons rfl (fun K hK => ?_) ReadyE.nil
      go_simp
      refine hK.out _ _ (SK.out _ ((Below.refl _ _).alloc (Nat.le_refl _) _)) (fun hHeld => ?_)
      clear hK K
      refine AnyE.ready (rs := [4]) (by kernel_rfl) (by simp) ?_
      refine ReadyE.cons rfl (fun K hK => ?_) ReadyE.nil
      refine step_append_run rfl (.tmp 54) (.tmp 55) rfl rfl rfl RUN.out ?_
      skip
      refine hK.out _ _ (SK.out _ B6.out) (fun hHeld => ?_)
      clear hK K
      simp only [Act.put, List.getElem_toArray, List.getElem_cons_zero, List.getElem_cons_succ, List.setIfInBounds_toArray, List.set_cons_zero, List.set_cons_succ]
      refine AnyE.ready (rs := [5]) (by kernel_rfl) (by simp) ?_
      refine ReadyE.cons rfl (fun K hK => ?_) ReadyE.nil
      go_simp
      refine hK.out _ _ (SK.out _ B6a.out) (fun hHeld => ?_)
      clear hK K
      refine AnyE.ready (rs := [6]) (by kernel_rfl) (by simp) ?_
      refine ReadyE.cons rfl (fun K hK => ?_) ReadyE.nil
      refine step_append_run rfl (.tmp 53) (.tmp 57) rfl rfl rfl RUN7.out ?_
      skip
      refine hK.out _ _ (G7.out.qx.c5) (fun hHeld => ?_)
      clear hK K
      simp only [Act.put, List.getElem_toArray, List.getElem_cons_zero, List.getElem_cons_succ, List.setIfInBounds_toArray, List.set_cons_zero, List.set_cons_succ]
      refine AnyE.take (i := 7) (v := ?_) rfl (by kernel_rfl) (by kernel_rfl) (by kernel_rfl) (by kernel_rfl) (fun _ _ _ h => h) (Or.inl ⟨by rfl, ?_⟩) (by assumption) ?_
      rotate_left 1
      · intro w hSw; (try dsimp only at hSw); go_simp; (try with_reducible rfl)
      simp only [Act.put, List.getElem_toArray, List.getElem_cons_zero, List.getElem_cons_succ, List.setIfInBounds_toArray, List.set_cons_zero, List.set_cons_succ]
      clear hHeld
      have c5' := G7.out.qx.c5
      have f5' := G7.out.fz 5
      refine AnyE.ready (rs := [8]) (by kernel_rfl) (by simp) ?_
      refine ReadyE.last rfl (by kernel_rfl) (fun K hK => ?_)
      go_simp
      refine hK.out _ _ trivial (fun _ => ?_)
      clear hK K
      refine AnyE.done (by kernel_rfl) ?_ _
      have HST := Lib.hid (store_rows G7.out X7.out (Nat.lt_succ_self _) K7.out)
      have Z8 := Lib.hid (Z7.out.other ⟨w3.heap.size, 5, none⟩ (.slice A7 (k - F + 1) c7) (by have := SZ.out; show _ ≠ w3.heap.size; omega))
      clear c5' f5'
      generalize w7.setCell ⟨w3.heap.size, 5, none⟩ (.slice A7 (k - F + 1) c7) = w8 at *
      have B8 := Lib.hid (HST.out.2.2.below B4.out B4.out.size (fun b h => by omega))
      obtain ⟨y0, y1, y2, y3, y4, y5⟩ := HST.out.1.qx.six
      obtain ⟨r0, r1, r2, r3, r4, r5⟩ := Z8.out.qx.six
      obtain ⟨f0, f1, f2, f3, f4, f5⟩ := Z8.out.zeros
      obtain ⟨hc7, hc7'⟩ : k - F + 1 ≤ c7 ∧ c7 ≤ 9223372036854775807 := by
        obtain ⟨A9, c9, e9, h9, h9'⟩ := X7.out.slice
        injection e9 with _ _ e9
        subst e9; exact ⟨h9, h9'⟩
      have HC7 := Lib.hid hc7
      have HC7' := Lib.hid hc7'
      clear hc7 hc7'
      go_wp2_with fail
      change bodyPost _ _ _ _ _ (setQ w8 (w.heap.size + 1) ⟨a, b, d, e, s⟩ (.slice A7 (k - F + 1) c7))
      have P9 := Z8.out.put ⟨a, b, d, e, s⟩ (.slice A7 (k - F + 1) c7)
      have S9 := below_setQ (B.out.trans (B8.out.mono B.out.size)) (Nat.le_succ w.heap.size) ⟨a, b, d, e, s⟩ (.slice A7 (k - F + 1) c7)
      have O9 := ((OwS.of HST.out.2.1).kept ((Keep.refl (fun b => b = w.heap.size + 1) w8).setQ _ ⟨a, b, d, e, s⟩ (.slice A7 (k - F + 1) c7) rfl) (fun b h => by have := SZ.out; omega)).mono (show w.heap.size ≤ w3.heap.size + 1 by have := SZ.out; omega)
      generalize setQ w8 (w.heap.size + 1) ⟨a, b, d, e, s⟩ (.slice A7 (k - F + 1) c7) = w10 at *
      exact bodyPost_ret (res_queue rfl _ _ (w.heap.size + 1) ⟨a, b, d, e, s⟩ (.slice A7 (k - F + 1) c7) (.int .i64 0) rfl rfl P9) rfl (PutR.good HE.out HPM.out (by rw [List.map_append]; exact O9) HC7.out HC7'.out S9)
end Go.Proofs.Ytkaobafgecoomaa
