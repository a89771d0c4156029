/- Contracts of the program's channel package, part five: Take. -/
import Derived.Test.YtkaobafgecoomaaChU
namespace Go.Proofs.Ytkaobafgecoomaa
open Go.RowKit
set_option linter.unusedVariables false
set_option linter.unusedSimpArgs false

/-- What Take hands back. -/
def takeC (c : Ch) (l : List (List UInt8)) : Ch := if errT c l = 0 then c else Ch.zero
def takeL (c : Ch) (l : List (List UInt8)) : List (List UInt8) := if errT c l = 0 then l.drop 1 else []
def takeM (c : Ch) (l : List (List UInt8)) : List UInt8 := if errT c l = 0 then l.headD [] else []
def TakeR (w : World) (c : Ch) (l : List (List UInt8)) (x : Ending) (w' : World) : Prop :=
  ∃ A n k v, x = .returned (.tuple #[.slice A n k, v, .int .i64 (errT c l)]) ∧ OwR w' w.heap.size A n (takeM c l) ∧ RetQu w (takeC c l) (takeL c l) v w'
theorem TakeR.bad {w w' : World} {c : Ch} {l : List (List UInt8)} {k : Int} (he : errT c l = k) (hk : k ≠ 0) (hb : Below w.heap.size w w') : TakeR w c l (.returned (.tuple #[.slice none 0 0, .agg (quA Ch.zero (.slice none 0 0)), .int .i64 k])) w' := by
  subst he
  refine ⟨none, 0, 0, _, rfl, ?_, none, 0, 0, ?_, ?_, by omega, by omega, hb⟩
  · unfold takeM; rw [if_neg hk]; exact ⟨Rd.nil _ _ _, fun h => absurd h (Nat.lt_irrefl 0)⟩
  · unfold takeC; rw [if_neg hk]
  · unfold takeL; rw [if_neg hk]; exact OwS.nil _ _ _
theorem TakeR.good {w w' : World} {c : Ch} {l : List (List UInt8)} {A A' : Option Addr} {n k j z : Nat} {m : List UInt8} (he : errT c l = 0) (hm : l.headD [] = m) (ha : OwR w' w.heap.size A' j m) (ho : OwS w' w.heap.size A n ((l.drop 1).map fullR)) (h1 : n ≤ k) (h2 : k ≤ 9223372036854775807) (hb : Below w.heap.size w w') :
    TakeR w c l (.returned (.tuple #[.slice A' j z, .agg (quA c (.slice A n k)), .int .i64 0])) w' := by
  refine ⟨A', j, z, _, by rw [he], ?_, A, n, k, ?_, ?_, h1, h2, hb⟩
  · unfold takeM; rw [if_pos he, hm]; exact ha
  · unfold takeC; rw [if_pos he]
  · unfold takeL; rw [if_pos he]; exact ho
set_option maxRecDepth 1000000 in
set_option maxHeartbeats 1000000 in
theorem wTake (a b d e s : Int) (A : Option Addr) (n c : Nat) (l : List (List UInt8)) (w : World) (hS : RdS w w.heap.size A n l) (hnc : n ≤ c) (hn : n ≤ 140737488355328) :
    Calls Try.prog 17 #[.agg #[.int .i64 a, .int .i64 b, .int .i64 d, .int .i64 e, .int .i64 s, .slice A n c]] w fun x w' => TakeR w ⟨a, b, d, e, s⟩ l x w' := by
  obtain ⟨w2, hw2, hq, hz, hb, hsz⟩ := two_queues w a b d e s (.slice A n c)
  have HW2 := Lib.hid hw2
  have Q := Lib.hid hq
  have Z := Lib.hid hz
  have B := Lib.hid hb
  have S := Lib.hid (hS.toX hb)
  have HN := Lib.hid hn
  have HC := Lib.hid hnc
  have HLL := Lib.hid hS.1
  have SZ := Lib.hid hsz
  clear hw2 hq hz hb hS hn hnc hsz
  obtain ⟨x0, x1, x2, x3, x4, x5⟩ := Q.out.six
  go_enter Try.func17, Try.ntmps17
  go_wp2_with fail
  rw [HW2.out]
  clear HW2
  refine (wMayQ a b d e s A n c l w2 S.out HN.out).mono ?_
  rintro x w3 ⟨rfl, hb⟩
  replace Q := Lib.hid (Q.out.to hb)
  replace Z := Lib.hid (Z.out.to hb)
  replace S := Lib.hid (S.out.toX hb)
  replace B := Lib.hid (B.out.trans (hb.mono B.out.size))
  replace SZ := Lib.hid (show w.heap.size + 2 ≤ w3.heap.size by have := hb.size; have := SZ.out; omega)
  clear hb x0 x1 x2 x3 x4 x5
  obtain ⟨x0, x1, x2, x3, x4, x5⟩ := Q.out.six
  obtain ⟨r0, r1, r2, r3, r4, r5⟩ := Z.out.qx.six
  obtain ⟨f0, f1, f2, f3, f4, f5⟩ := Z.out.zeros
  cases hm : mayQ ⟨a, b, d, e, s⟩ l
  · have HE : Hid (errT ⟨a, b, d, e, s⟩ l = 2) := by show _ = _; unfold errT; rw [hm]; rfl
    clear hm
    go_wp2_with fail
    change bodyPost _ _ _ _ _ (setQ w3 (w.heap.size + 1) Ch.zero (.slice none 0 0))
    have P9 := Z.out.put Ch.zero (.slice none 0 0)
    have B9 := below_setQ B.out (Nat.le_succ w.heap.size) Ch.zero (.slice none 0 0)
    generalize setQ w3 (w.heap.size + 1) Ch.zero (.slice none 0 0) = w9 at *
    refine bodyPost_ret (res_take rfl _ _ (w.heap.size + 1) Ch.zero (.slice none 0 0) (.int .i64 _) (.slice none 0 0) rfl rfl rfl P9) rfl (TakeR.bad HE.out (by decide) B9)
  have HM := Lib.hid hm
  clear hm
  by_cases h0 : n = 0
  · have HE : Hid (errT ⟨a, b, d, e, s⟩ l = 100) := by
      show _ = _
      unfold errT; rw [HM.out, if_pos rfl, if_pos (List.eq_nil_of_length_eq_zero (HLL.out.trans h0))]
    subst h0
    go_wp2_with fail
    change bodyPost _ _ _ _ _ (setQ w3 (w.heap.size + 1) Ch.zero (.slice none 0 0))
    have P9 := Z.out.put Ch.zero (.slice none 0 0)
    have B9 := below_setQ B.out (Nat.le_succ w.heap.size) Ch.zero (.slice none 0 0)
    generalize setQ w3 (w.heap.size + 1) Ch.zero (.slice none 0 0) = w9 at *
    refine bodyPost_ret (res_take rfl _ _ (w.heap.size + 1) Ch.zero (.slice none 0 0) (.int .i64 _) (.slice none 0 0) rfl rfl rfl P9) rfl (TakeR.bad HE.out (by decide) B9)
  have HE : Hid (errT ⟨a, b, d, e, s⟩ l = 0) := by
    show _ = _
    unfold errT; rw [HM.out, if_pos rfl, if_neg (fun h => h0 (by rw [← HLL.out, h]; rfl))]
  have HP : Hid (0 < n) := Nat.pos_of_ne_zero h0
  have HLE := Lib.hid (mayQ_lens HM.out)
  have h0I : ¬ (n : Int) = 0 := by omega
  go_wp2_with fail
  refine (wFilled a b d e s A n c l w3 S.out (by have := HLE.out.1; have := HLL.out; omega) (fun x hx => by have := HLE.out.2 x hx; omega)).mono ?_
  rintro x w4 ⟨v4, rfl, A4, n4, k4, rfl, hO, h4, h4', hb⟩
  obtain rfl : n4 = n := by rw [← hO.1, List.length_map]; exact HLL.out
  simp only [quA]
  have O := Lib.hid hO
  replace Q := Lib.hid (Q.out.to hb)
  replace Z := Lib.hid (Z.out.to hb)
  replace B := Lib.hid (B.out.trans (hb.mono B.out.size))
  have SZ4 := Lib.hid (show w.heap.size + 2 ≤ w4.heap.size by have := hb.size; have := SZ.out; omega)
  have K4 := Lib.hid h4
  have K4' := Lib.hid h4'
  have hB4 := (Below.refl w4.heap.size w4).alloc (Nat.le_refl _) (.cells #[.int .i64 a, .int .i64 b, .int .i64 d, .int .i64 e, .int .i64 s, .slice A4 n4 k4] 26)
  have G := Lib.hid (Qx.new w4 a b d e s (.slice A4 n4 k4) 26)
  clear hO h4 h4' hb x0 x1 x2 x3 x4 x5 r0 r1 r2 r3 r4 r5 f0 f1 f2 f3 f4 f5 S h0I h0
  go_wp2_with fail
  obtain ⟨b1, o1, A1, c1, rfl, hc1, hr1, ha1⟩ := O.out.at_ HP.out
  rw [Nat.add_zero] at hc1
  have HR1 := Lib.hid hr1
  have hL0 : rowAt (l.map fullR) 0 = fullR (l.headD []) := by
    rcases l with _ | ⟨x, l⟩
    · have := HLL.out; have := HP.out; simp at *; omega
    · rfl
  rw [hL0] at hc1 HR1
  have hc1' : w4.cell? ⟨b1, o1, none⟩ = some (.slice A1 (l.headD []).length c1) := hc1
  obtain ⟨m1, hm1⟩ : ∃ m1, (l.headD []).length = m1 := ⟨_, rfl⟩
  rw [hm1] at hc1'
  have HM1 := Lib.hid hm1
  have SS : Hid (∀ W, Below w4.heap.size w4 W → (W.cell? ⟨w.heap.size, 0, none⟩ = some (.int .i64 a) ∧ W.cell? ⟨w.heap.size, 1, none⟩ = some (.int .i64 b) ∧ W.cell? ⟨w.heap.size, 2, none⟩ = some (.int .i64 d) ∧ W.cell? ⟨w.heap.size, 3, none⟩ = some (.int .i64 e) ∧ W.cell? ⟨w.heap.size, 4, none⟩ = some (.int .i64 s)) ∧ W.cell? ⟨b1, o1, none⟩ = some (.slice A1 m1 c1)) := by
    intro W hW
    have q := Q.out.to hW
    exact ⟨⟨q.c0, q.c1, q.c2, q.c3, q.c4⟩, (hW.cell (p := ⟨b1, o1, none⟩) (cell_block hc1')).trans hc1'⟩
  have ZZ := Lib.hid (Z.out.to hB4)
  have BB := Lib.hid (B.out.trans (hB4.mono B.out.size))
  have OO := Lib.hid (O.out.to hB4)
  have RR := Lib.hid (HR1.out.to hB4)
  have HB4 := Lib.hid hB4
  have H5 : Hid ((w4.alloc (.cells #[.int .i64 a, .int .i64 b, .int .i64 d, .int .i64 e, .int .i64 s, .slice (some ⟨b1, o1, none⟩) n4 k4] 26)).heap.size = w4.heap.size + 1) := by show _ = _; simp
  clear ha1 hc1 hr1 hL0 hm1 hB4 Z B O HR1 Q
  have hpI : 0 < n4 := HP.out
  generalize w4.alloc (.cells #[.int .i64 a, .int .i64 b, .int .i64 d, .int .i64 e, .int .i64 s, .slice (some ⟨b1, o1, none⟩) n4 k4] 26) = w5 at *
  refine wp_region_held_drew (S := (fun w' => w'.cell? ⟨w4.heap.size, 5, none⟩ = some (.slice (some ⟨b1, o1, none⟩) n4 k4) ∧ (w'.cell? ⟨w.heap.size, 0, none⟩ = some (.int .i64 a) ∧ w'.cell? ⟨w.heap.size, 1, none⟩ = some (.int .i64 b) ∧ w'.cell? ⟨w.heap.size, 2, none⟩ = some (.int .i64 d) ∧ w'.cell? ⟨w.heap.size, 3, none⟩ = some (.int .i64 e) ∧ w'.cell? ⟨w.heap.size, 4, none⟩ = some (.int .i64 s)) ∧ w'.cell? ⟨b1, o1, none⟩ = some (.slice A1 m1 c1))) (by kernel_rfl) (⟨G.out.c5, SS.out w5 HB4.out⟩) (fun hHeld => ?_)
  obtain ⟨wd, hwd⟩ : ∃ wd, w5.drew = wd := ⟨_, rfl⟩
  replace ZZ : Hid (QB wd (w.heap.size + 1) Ch.zero (.slice none 0 0)) := by rw [← hwd]; exact ZZ.out
  replace BB : Hid (Below w.heap.size w wd) := by rw [← hwd]; exact BB.out.drew
  replace OO : Hid (OwS wd w3.heap.size (some ⟨b1, o1, none⟩) n4 (l.map fullR)) := by rw [← hwd]; exact OO.out.to ((Below.refl _ _).drew)
  replace RR : Hid (ROk wd w3.heap.size (fullR (l.headD [])) A1 c1) := by rw [← hwd]; exact RR.out.to ((Below.refl _ _).drew)
  replace HB4 : Hid (Below w4.heap.size w4 wd) := by rw [← hwd]; exact HB4.out.drew
  replace G : Hid (Qx wd w4.heap.size ⟨a, b, d, e, s⟩ (.slice (some ⟨b1, o1, none⟩) n4 k4)) := by rw [← hwd]; exact G.out.to ((Below.refl _ _).drew)
  rw [hwd] at hHeld ⊢
  clear hwd
  refine wpAnyH_take (i := 0) (v := ?_) rfl (by kernel_rfl) (by kernel_rfl) (by kernel_rfl) (fun _ _ _ h => h) (Or.inl ⟨by rfl, ?_⟩) (by assumption) ?_
  rotate_left 1
  · intro w hSw; (try dsimp only at hSw); go_simp; (try with_reducible rfl)
  simp only [Act.put, List.getElem_toArray, List.getElem_cons_zero, List.getElem_cons_succ, List.setIfInBounds_toArray, List.set_cons_zero, List.set_cons_succ]
  refine wpAnyH_take (i := 1) (v := ?_) rfl (by kernel_rfl) (by kernel_rfl) (by kernel_rfl) (fun _ _ _ h => h) (Or.inl ⟨by rfl, ?_⟩) (by assumption) ?_
  rotate_left 1
  · intro w hSw; (try dsimp only at hSw); go_simp; (try with_reducible rfl)
  simp only [Act.put, List.getElem_toArray, List.getElem_cons_zero, List.getElem_cons_succ, List.setIfInBounds_toArray, List.set_cons_zero, List.set_cons_succ]
  refine wpAnyH_take (i := 2) (v := ?_) rfl (by kernel_rfl) (by kernel_rfl) (by kernel_rfl) (fun _ _ _ h => h) (Or.inl ⟨by rfl, ?_⟩) (by assumption) ?_
  rotate_left 1
  · intro w hSw; (try dsimp only at hSw); go_simp; (try with_reducible rfl)
  simp only [Act.put, List.getElem_toArray, List.getElem_cons_zero, List.getElem_cons_succ, List.setIfInBounds_toArray, List.set_cons_zero, List.set_cons_succ]
  refine wpAnyH_take (i := 3) (v := ?_) rfl (by kernel_rfl) (by kernel_rfl) (by kernel_rfl) (fun _ _ _ h => h) (Or.inl ⟨by rfl, ?_⟩) (by assumption) ?_
  rotate_left 1
  · intro w hSw; (try dsimp only at hSw); go_simp; (try with_reducible rfl)
  simp only [Act.put, List.getElem_toArray, List.getElem_cons_zero, List.getElem_cons_succ, List.setIfInBounds_toArray, List.set_cons_zero, List.set_cons_succ]
  refine wpAnyH_take (i := 4) (v := ?_) rfl (by kernel_rfl) (by kernel_rfl) (by kernel_rfl) (fun _ _ _ h => h) (Or.inl ⟨by rfl, ?_⟩) (by assumption) ?_
  rotate_left 1
  · intro w hSw; (try dsimp only at hSw); go_simp; (try with_reducible rfl)
  simp only [Act.put, List.getElem_toArray, List.getElem_cons_zero, List.getElem_cons_succ, List.setIfInBounds_toArray, List.set_cons_zero, List.set_cons_succ]
  refine wpAnyH_take (i := 5) (v := ?_) rfl (by kernel_rfl) (by kernel_rfl) (by kernel_rfl) (fun _ _ _ h => h) (Or.inl ⟨by rfl, ?_⟩) (by assumption) ?_
  rotate_left 1
  · intro w hSw; (try dsimp only at hSw); go_simp; (try with_reducible rfl)
  simp only [Act.put, List.getElem_toArray, List.getElem_cons_zero, List.getElem_cons_succ, List.setIfInBounds_toArray, List.set_cons_zero, List.set_cons_succ]
  refine wpAnyH_take (i := 6) (v := ?_) rfl (by kernel_rfl) (by kernel_rfl) (by kernel_rfl) (fun _ _ _ h => h) (Or.inl ⟨by rfl, ?_⟩) (by assumption) ?_
  rotate_left 1
  · intro w hSw; (try dsimp only at hSw); go_simp; (try with_reducible rfl)
  simp only [Act.put, List.getElem_toArray, List.getElem_cons_zero, List.getElem_cons_succ, List.setIfInBounds_toArray, List.set_cons_zero, List.set_cons_succ]
  refine wpAnyH_take (i := 7) (v := ?_) rfl (by kernel_rfl) (by kernel_rfl) (by kernel_rfl) (fun _ _ _ h => h) (Or.inl ⟨by rfl, ?_⟩) (by assumption) ?_
  rotate_left 1
  · intro w hSw; (try dsimp only at hSw); go_simp; (try with_reducible rfl)
  simp only [Act.put, List.getElem_toArray, List.getElem_cons_zero, List.getElem_cons_succ, List.setIfInBounds_toArray, List.set_cons_zero, List.set_cons_succ]
  refine wpAnyH_ready (rs := [8]) (by kernel_rfl) (by simp) ?_
  refine AllReadyH.cons rfl (fun K hK => ?_) AllReadyH.nil
  go_simp
  refine (wFrom _ n4 k4 1 _ HP.out K4.out).mono ?_
  rintro e9 w9 ⟨rfl, rfl⟩
  go_wp2_with fail
  refine hK.out _ _ (⟨G.out.c5, SS.out wd HB4.out⟩) (fun hHeld => ?_)
  clear hK K
  obtain ⟨r0, r1, r2, r3, r4, r5⟩ := ZZ.out.qx.six
  obtain ⟨f0, f1, f2, f3, f4, f5⟩ := ZZ.out.zeros
  refine wpAnyH_take (i := 9) (v := ?_) rfl (by kernel_rfl) (by kernel_rfl) (by kernel_rfl) (fun _ _ _ h => h) (Or.inl ⟨by rfl, ?_⟩) (by assumption) ?_
  rotate_left 1
  · intro w hSw; (try dsimp only at hSw); go_simp; (try with_reducible rfl)
  simp only [Act.put, List.getElem_toArray, List.getElem_cons_zero, List.getElem_cons_succ, List.setIfInBounds_toArray, List.set_cons_zero, List.set_cons_succ]
  refine wpAnyH_take (i := 10) (v := ?_) rfl (by kernel_rfl) (by kernel_rfl) (by kernel_rfl) (fun _ _ _ h => h) (Or.inl ⟨by rfl, ?_⟩) (by assumption) ?_
  rotate_left 1
  · intro w hSw; (try dsimp only at hSw); go_simp; (try with_reducible rfl)
  simp only [Act.put, List.getElem_toArray, List.getElem_cons_zero, List.getElem_cons_succ, List.setIfInBounds_toArray, List.set_cons_zero, List.set_cons_succ]
  have P9 := ZZ.out.put ⟨a, b, d, e, s⟩ (.slice (cutA (some ⟨b1, o1, none⟩) n4 1) (n4 - 1) (n4 - 1))
  have S9 := below_setQ BB.out (Nat.le_succ w.heap.size) ⟨a, b, d, e, s⟩ (.slice (cutA (some ⟨b1, o1, none⟩) n4 1) (n4 - 1) (n4 - 1))
  have K9 := (Keep.refl (fun b => b = w.heap.size + 1) wd).setQ _ ⟨a, b, d, e, s⟩ (.slice (cutA (some ⟨b1, o1, none⟩) n4 1) (n4 - 1) (n4 - 1)) rfl
  have O9 := ((OO.out.drop HP.out).kept K9 (fun b h => by have := SZ.out; omega)).mono (Nat.le_trans (Nat.le_add_right _ 2) SZ.out)
  have R9 := (RR.out.1.kept K9 ((RR.out.1).off (fun b h => by have := SZ.out; omega))).mono (Nat.le_trans (Nat.le_add_right _ 2) SZ.out)
  have SS9 : Hid ((setQ wd (w.heap.size + 1) ⟨a, b, d, e, s⟩ (.slice (cutA (some ⟨b1, o1, none⟩) n4 1) (n4 - 1) (n4 - 1))).cell? ⟨w4.heap.size, 5, none⟩ = some (.slice (some ⟨b1, o1, none⟩) n4 k4) ∧ ((setQ wd (w.heap.size + 1) ⟨a, b, d, e, s⟩ (.slice (cutA (some ⟨b1, o1, none⟩) n4 1) (n4 - 1) (n4 - 1))).cell? ⟨w.heap.size, 0, none⟩ = some (.int .i64 a) ∧ (setQ wd (w.heap.size + 1) ⟨a, b, d, e, s⟩ (.slice (cutA (some ⟨b1, o1, none⟩) n4 1) (n4 - 1) (n4 - 1))).cell? ⟨w.heap.size, 1, none⟩ = some (.int .i64 b) ∧ (setQ wd (w.heap.size + 1) ⟨a, b, d, e, s⟩ (.slice (cutA (some ⟨b1, o1, none⟩) n4 1) (n4 - 1) (n4 - 1))).cell? ⟨w.heap.size, 2, none⟩ = some (.int .i64 d) ∧ (setQ wd (w.heap.size + 1) ⟨a, b, d, e, s⟩ (.slice (cutA (some ⟨b1, o1, none⟩) n4 1) (n4 - 1) (n4 - 1))).cell? ⟨w.heap.size, 3, none⟩ = some (.int .i64 e) ∧ (setQ wd (w.heap.size + 1) ⟨a, b, d, e, s⟩ (.slice (cutA (some ⟨b1, o1, none⟩) n4 1) (n4 - 1) (n4 - 1))).cell? ⟨w.heap.size, 4, none⟩ = some (.int .i64 s)) ∧ (setQ wd (w.heap.size + 1) ⟨a, b, d, e, s⟩ (.slice (cutA (some ⟨b1, o1, none⟩) n4 1) (n4 - 1) (n4 - 1))).cell? ⟨b1, o1, none⟩ = some (.slice A1 m1 c1)) := by
    have ss := SS.out wd HB4.out
    have hb1 : w3.heap.size ≤ b1 := by
      obtain ⟨b', o', e', h', _⟩ := OO.out.2 HP.out
      injection e' with e'; injection e' with e' _; omega
    have sz := SZ.out
    have l1 : b1 < wd.heap.size := cell_block (a := ⟨b1, o1, none⟩) ss.2
    have l2 : w.heap.size < wd.heap.size := cell_block (a := ⟨w.heap.size, 0, none⟩) ss.1.1
    have l3 := G.out.lt
    have sz4 := SZ4.out
    exact ⟨(K9.cell (a := ⟨w4.heap.size, 5, none⟩) l3 (by show ¬ _ = _; simp only; omega)).trans G.out.c5,
      ⟨(K9.cell (a := ⟨w.heap.size, 0, none⟩) l2 (by show ¬ _ = _; simp only; omega)).trans ss.1.1, (K9.cell (a := ⟨w.heap.size, 1, none⟩) l2 (by show ¬ _ = _; simp only; omega)).trans ss.1.2.1, (K9.cell (a := ⟨w.heap.size, 2, none⟩) l2 (by show ¬ _ = _; simp only; omega)).trans ss.1.2.2.1, (K9.cell (a := ⟨w.heap.size, 3, none⟩) l2 (by show ¬ _ = _; simp only; omega)).trans ss.1.2.2.2.1, (K9.cell (a := ⟨w.heap.size, 4, none⟩) l2 (by show ¬ _ = _; simp only; omega)).trans ss.1.2.2.2.2⟩,
      (K9.cell (a := ⟨b1, o1, none⟩) l1 (by show ¬ _ = _; simp only; omega)).trans ss.2⟩
  refine wpAnyH_ready (rs := [11]) (by kernel_rfl) (by simp) ?_
  refine AllReadyH.cons rfl (fun K hK => ?_) AllReadyH.nil
  go_simp
  refine hK.out _ _ (SS9.out) (fun hHeld => ?_)
  clear hK K
  have hEE := hHeld
  refine wpAnyH_ready (rs := [12]) (by kernel_rfl) (by simp) ?_
  refine AllReadyH.cons rfl (fun K hK => ?_) AllReadyH.nil
  go_simp
  refine hK.out _ _ (SS9.out) (fun hHeld => ?_)
  clear hK K
  refine wpAnyH_done (by kernel_rfl) ?_ _
  go_wp2_with fail
  change bodyPost _ _ _ _ _ (setQ wd (w.heap.size + 1) ⟨a, b, d, e, s⟩ (.slice (cutA (some ⟨b1, o1, none⟩) n4 1) (n4 - 1) (n4 - 1)))
  clear hEE
  generalize setQ wd (w.heap.size + 1) ⟨a, b, d, e, s⟩ (.slice (cutA (some ⟨b1, o1, none⟩) n4 1) (n4 - 1) (n4 - 1)) = w10 at *
  have O10 : OwS w10 w.heap.size (cutA (some ⟨b1, o1, none⟩) n4 1) (n4 - 1) ((l.drop 1).map fullR) := by
    rw [List.map_drop]; exact O9
  have R10 : OwR w10 w.heap.size A1 m1 (l.headD []) := by rw [← HM1.out]; exact R9
  exact bodyPost_ret (res_take rfl _ _ (w.heap.size + 1) ⟨a, b, d, e, s⟩ (.slice (cutA (some ⟨b1, o1, none⟩) n4 1) (n4 - 1) (n4 - 1)) (.int .i64 0) (.slice A1 m1 c1) rfl rfl rfl P9) rfl (TakeR.good HE.out rfl R10 O10 (Nat.le_refl _) (by have := HLE.out.1; have := HLL.out; omega) S9)
end Go.Proofs.Ytkaobafgecoomaa
