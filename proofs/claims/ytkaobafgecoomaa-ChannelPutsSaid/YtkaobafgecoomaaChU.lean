/- Contracts of the program's channel package, part four: Put, Take. -/
import Derived.Test.YtkaobafgecoomaaChT
namespace Go.Proofs.Ytkaobafgecoomaa
open Go.RowKit
set_option linter.unusedVariables false
set_option linter.unusedSimpArgs false

theorem Qx.six {w : World} {g : Nat} {c : Ch} {v : Value} (h : Qx w g c v) : w.cell? ⟨g, 0, none⟩ = some (.int .i64 c.id) ∧ w.cell? ⟨g, 1, none⟩ = some (.int .i64 c.fr) ∧ w.cell? ⟨g, 2, none⟩ = some (.int .i64 c.dst) ∧ w.cell? ⟨g, 3, none⟩ = some (.int .i64 c.cap) ∧ w.cell? ⟨g, 4, none⟩ = some (.int .i64 c.size) ∧ w.cell? ⟨g, 5, none⟩ = some v :=
  ⟨h.c0, h.c1, h.c2, h.c3, h.c4, h.c5⟩
theorem QB.zeros {w : World} {g : Nat} {c : Ch} {v : Value} (h : QB w g c v) : w.frozen? ⟨g, 0, none⟩ = false ∧ w.frozen? ⟨g, 1, none⟩ = false ∧ w.frozen? ⟨g, 2, none⟩ = false ∧ w.frozen? ⟨g, 3, none⟩ = false ∧ w.frozen? ⟨g, 4, none⟩ = false ∧ w.frozen? ⟨g, 5, none⟩ = false :=
  ⟨h.fz 0, h.fz 1, h.fz 2, h.fz 3, h.fz 4, h.fz 5⟩
theorem wFromZ (A : Option Addr) (n c l : Nat) (z : Int) (w : World) (hz : z = (l : Int)) (h1 : l ≤ n) (h2 : n ≤ c) :
    Calls Try.prog 28 #[.slice A n c, .int .i64 z] w fun e w' => e = .returned (.slice (cutA A n l) (n - l) (n - l)) ∧ w = w' := by
  subst hz; exact wFrom A n c l w h1 h2
def putC (c : Ch) (l : List (List UInt8)) (m : List UInt8) : Ch := if errP c l m = 0 then c else Ch.zero
def putL (c : Ch) (l : List (List UInt8)) (m : List UInt8) : List (List UInt8) := if errP c l m = 0 then putM c l m else []
def PutR (w : World) (c : Ch) (l : List (List UInt8)) (m : List UInt8) (x : Ending) (w' : World) : Prop :=
  ∃ v, x = .returned (.tuple #[v, .int .i64 (errP c l m)]) ∧ RetQu w (putC c l m) (putL c l m) v w'
theorem PutR.bad {w w' : World} {c : Ch} {l : List (List UInt8)} {m : List UInt8} {k : Int} (he : errP c l m = k) (hk : k ≠ 0) (hb : Below w.heap.size w w') : PutR w c l m (.returned (.tuple #[.agg (quA Ch.zero (.slice none 0 0)), .int .i64 k])) w' := by
  subst he
  refine ⟨_, rfl, none, 0, 0, ?_, ?_, by omega, by omega, hb⟩
  · unfold putC; rw [if_neg hk]
  · unfold putL; rw [if_neg hk]; exact OwS.nil _ _ _
theorem PutR.good {w w' : World} {c : Ch} {l L : List (List UInt8)} {m : List UInt8} {A : Option Addr} {n k : Nat} (he : errP c l m = 0) (hp : putM c l m = L) (ho : OwS w' w.heap.size A n (L.map fullR)) (h1 : n ≤ k) (h2 : k ≤ 9223372036854775807) (hb : Below w.heap.size w w') :
    PutR w c l m (.returned (.tuple #[.agg (quA c (.slice A n k)), .int .i64 0])) w' := by
  refine ⟨_, by rw [he], A, n, k, ?_, ?_, h1, h2, hb⟩
  · unfold putC; rw [if_pos he]
  · unfold putL; rw [if_pos he, hp]; exact ho
theorem mayQ_lens {c : Ch} {l : List (List UInt8)} (h : mayQ c l = true) : l.length ≤ 4 ∧ ∀ m ∈ l, m.length ≤ 16 := by
  obtain ⟨h1, h2, h3⟩ := mayQ_iff.1 h
  have h4 := mayC_iff.1 h1
  exact ⟨by omega, fun m hm => by have := h3 m hm; omega⟩
theorem two_queues (w : World) (a b d e s : Int) (v : Value) : ∃ w2, ((w.alloc (.cells #[.int .i64 a, .int .i64 b, .int .i64 d, .int .i64 e, .int .i64 s, v] 26)).alloc (.cells #[.int .i64 0, .int .i64 0, .int .i64 0, .int .i64 0, .int .i64 0, .slice none 0 0] 26)) = w2 ∧
    Qx w2 w.heap.size ⟨a, b, d, e, s⟩ v ∧ QB w2 (w.heap.size + 1) Ch.zero (.slice none 0 0) ∧ Below w.heap.size w w2 ∧ w2.heap.size = w.heap.size + 2 := by
  refine ⟨_, rfl, (Qx.new w a b d e s v 26).to ((Below.refl _ _).alloc (Nat.le_refl _) _), ?_, ((Below.refl w.heap.size w).alloc (Nat.le_refl _) _).alloc (by simp) _, by simp⟩
  have h := QB.new (w.alloc (.cells #[.int .i64 a, .int .i64 b, .int .i64 d, .int .i64 e, .int .i64 s, v] 26)) 0 0 0 0 0 (.slice none 0 0)
  rw [show (w.alloc (.cells #[.int .i64 a, .int .i64 b, .int .i64 d, .int .i64 e, .int .i64 s, v] 26)).heap.size = w.heap.size + 1 from by simp] at h
  exact h
set_option maxRecDepth 1000000 in
set_option maxHeartbeats 1000000 in
theorem wPut (a b d e s : Int) (A A2 : Option Addr) (n c m c2 : Nat) (l : List (List UInt8)) (msg : List UInt8) (w : World) (hS : RdS w w.heap.size A n l) (hnc : n ≤ c) (hn : n ≤ 140737488355328) (hr : Rd w w.heap.size A2 m msg) :
    Calls Try.prog 11 #[.agg #[.int .i64 a, .int .i64 b, .int .i64 d, .int .i64 e, .int .i64 s, .slice A n c], .slice A2 m c2] w fun x w' => PutR w ⟨a, b, d, e, s⟩ l msg x w' := by
  obtain ⟨w2, hw2, hq, hz, hb, hsz⟩ := two_queues w a b d e s (.slice A n c)
  have HW2 := Lib.hid hw2
  have Q := Lib.hid hq
  have Z := Lib.hid hz
  have B := Lib.hid hb
  have S := Lib.hid (hS.toX hb)
  have R := Lib.hid (hr.to hb)
  have HN := Lib.hid hn
  have HC := Lib.hid hnc
  have HML := Lib.hid hr.1
  have HLL := Lib.hid hS.1
  have SZ := Lib.hid hsz
  clear hw2 hq hz hb hS hr hn hnc hsz
  obtain ⟨x0, x1, x2, x3, x4, x5⟩ := Q.out.six
  go_enter Try.func11, Try.ntmps11
  go_wp2_with fail
  rw [HW2.out]
  clear HW2
  refine (wMayQ a b d e s A n c l w2 S.out HN.out).mono ?_
  rintro x w3 ⟨rfl, hb⟩
  replace Q := Lib.hid (Q.out.to hb)
  replace Z := Lib.hid (Z.out.to hb)
  replace S := Lib.hid (S.out.toX hb)
  replace R := Lib.hid (R.out.to hb)
  replace B := Lib.hid (B.out.trans (hb.mono B.out.size))
  replace SZ := Lib.hid (show w.heap.size + 2 ≤ w3.heap.size by have := hb.size; have := SZ.out; omega)
  clear hb x0 x1 x2 x3 x4 x5
  obtain ⟨x0, x1, x2, x3, x4, x5⟩ := Q.out.six
  obtain ⟨r0, r1, r2, r3, r4, r5⟩ := Z.out.qx.six
  obtain ⟨f0, f1, f2, f3, f4, f5⟩ := Z.out.zeros
  cases hm : mayQ ⟨a, b, d, e, s⟩ l
  · have HE : Hid (errP ⟨a, b, d, e, s⟩ l msg = 2) := by show _ = _; unfold errP; rw [hm]; rfl
    clear hm
    go_wp2_with fail
    change bodyPost _ _ _ _ _ (setQ w3 (w.heap.size + 1) Ch.zero (.slice none 0 0))
    have P9 := Z.out.put Ch.zero (.slice none 0 0)
    have B9 := below_setQ B.out (Nat.le_succ w.heap.size) Ch.zero (.slice none 0 0)
    generalize setQ w3 (w.heap.size + 1) Ch.zero (.slice none 0 0) = w9 at *
    refine bodyPost_ret (res_queue rfl _ _ (w.heap.size + 1) Ch.zero (.slice none 0 0) (.int .i64 _) rfl rfl P9) rfl (PutR.bad HE.out (by decide) B9)
  have HM := Lib.hid hm
  clear hm
  by_cases hlong : (m : Int) > s
  · have HE : Hid (errP ⟨a, b, d, e, s⟩ l msg = 3) := by
      show _ = _; unfold errP longM; rw [HM.out, HML.out, decide_eq_true (by exact hlong)]; rfl
    go_wp2_with fail
    change bodyPost _ _ _ _ _ (setQ w3 (w.heap.size + 1) Ch.zero (.slice none 0 0))
    have P9 := Z.out.put Ch.zero (.slice none 0 0)
    have B9 := below_setQ B.out (Nat.le_succ w.heap.size) Ch.zero (.slice none 0 0)
    generalize setQ w3 (w.heap.size + 1) Ch.zero (.slice none 0 0) = w9 at *
    refine bodyPost_ret (res_queue rfl _ _ (w.heap.size + 1) Ch.zero (.slice none 0 0) (.int .i64 _) rfl rfl P9) rfl (PutR.bad HE.out (by decide) B9)
  have HE : Hid (errP ⟨a, b, d, e, s⟩ l msg = 0) := by
    show _ = _; unfold errP longM; rw [HM.out, HML.out, decide_eq_false (by exact hlong)]; rfl
  have HLE := Lib.hid (mayQ_lens HM.out)
  have HMS : Hid (m ≤ 16) := by (show _ ≤ _); have := (mayC_iff.1 (mayQ_iff.1 HM.out).1); simp only at this; omega
  obtain ⟨F, hF⟩ : ∃ F, fstM ⟨a, b, d, e, s⟩ l = F := ⟨_, rfl⟩
  have HF := Lib.hid hF
  have HPM : Hid (putM ⟨a, b, d, e, s⟩ l msg = l.drop F ++ [msg]) := by show _ = _; rw [putM_fst, HF.out]
  have HFN : Hid (F ≤ n) := by
    show _ ≤ _
    have h1 := (mayC_iff.1 (mayQ_iff.1 HM.out).1)
    have h2 := HF.out
    unfold fstM at h2
    rw [HLL.out] at h2
    simp only at h1 h2
    split at h2 <;> omega
  clear hF
  have QT := Lib.hid (Q.out)
  by_cases hfull : (n : Int) = e
  · have HZF : Hid ((1 : Int) = (F : Int)) := by show _ = _; have h2 := HF.out; unfold fstM at h2; rw [HLL.out, if_pos (by exact hfull)] at h2; omega
    subst hfull
    go_wp2_with fail
    refine wp_region_held_drew (S := (fun w' => w'.cell? ⟨w.heap.size, 0, none⟩ = some (.int .i64 a) ∧ w'.cell? ⟨w.heap.size, 1, none⟩ = some (.int .i64 b) ∧ w'.cell? ⟨w.heap.size, 2, none⟩ = some (.int .i64 d) ∧ w'.cell? ⟨w.heap.size, 3, none⟩ = some (.int .i64 (n : Int)) ∧ w'.cell? ⟨w.heap.size, 4, none⟩ = some (.int .i64 s) ∧ w'.cell? ⟨w.heap.size, 5, none⟩ = some (.slice A n c))) (by kernel_rfl) (Q.out.six) (fun hHeld => ?_)
    obtain ⟨wd, hwd⟩ : ∃ wd, w3.drew = wd := ⟨_, rfl⟩
    clear x0 x1 x2 x3 x4 x5 r0 r1 r2 r3 r4 r5 f0 f1 f2 f3 f4 f5 QT
    replace Q : Hid (Qx wd w.heap.size ⟨a, b, d, (n : Int), s⟩ (.slice A n c)) := by rw [← hwd]; exact Q.out.to ((Below.refl _ _).drew)
    replace Z : Hid (QB wd (w.heap.size + 1) Ch.zero (.slice none 0 0)) := by rw [← hwd]; exact Z.out
    replace S : Hid (RdS wd wd.heap.size A n l) := by rw [← hwd]; exact S.out
    replace R : Hid (Rd wd wd.heap.size A2 m msg) := by rw [← hwd]; exact R.out
    replace B : Hid (Below w.heap.size w wd) := by rw [← hwd]; exact B.out.drew
    replace SZ : Hid (w.heap.size + 2 ≤ wd.heap.size) := by rw [← hwd]; exact SZ.out
    rw [hwd] at hHeld ⊢
    clear hwd
    refine wpAnyH_take (i := 0) (v := ?_) rfl (by kernel_rfl) (by kernel_rfl) (by kernel_rfl) (fun _ _ _ h => h) (Or.inl ⟨by rfl, ?_⟩) (by assumption) ?_
    rotate_left 1
    · intro w hSw; (try dsimp only at hSw); go_simp; (try with_reducible rfl)
    simp only [Act.put, List.getElem_toArray, List.getElem_cons_zero, List.getElem_cons_succ, List.setIfInBounds_toArray, List.set_cons_zero, List.set_cons_succ]
    refine wpAnyH_take (i := 1) (v := ?_) rfl (by kernel_rfl) (by kernel_rfl) (by kernel_rfl) (fun _ _ _ h => h) (Or.inl ⟨by rfl, ?_⟩) (by assumption) ?_
    rotate_left 1
    · intro w hSw; (try dsimp only at hSw); go_simp; (try with_reducible rfl)
    simp only [Act.put, List.getElem_toArray, List.getElem_cons_zero, List.getElem_cons_succ, List.setIfInBounds_toArray, List.set_cons_zero, List.set_cons_succ]
    refine wpAnyH_take (i := 2) (v := ?_) rfl (by kernel_rfl) (by kernel_rfl) (by kernel_rfl) (fun _ _ _ h => h) (Or.inl ⟨by rfl, ?_⟩) (by assumption) ?_
    rotate_left 1
    · intro w hSw; (try dsimp only at hSw); go_simp; (try with_reducible rfl)
    simp only [Act.put, List.getElem_toArray, List.getElem_cons_zero, List.getElem_cons_succ, List.setIfInBounds_toArray, List.set_cons_zero, List.set_cons_succ]
    refine wpAnyH_take (i := 3) (v := ?_) rfl (by kernel_rfl) (by kernel_rfl) (by kernel_rfl) (fun _ _ _ h => h) (Or.inl ⟨by rfl, ?_⟩) (by assumption) ?_
    rotate_left 1
    · intro w hSw; (try dsimp only at hSw); go_simp; (try with_reducible rfl)
    simp only [Act.put, List.getElem_toArray, List.getElem_cons_zero, List.getElem_cons_succ, List.setIfInBounds_toArray, List.set_cons_zero, List.set_cons_succ]
    refine wpAnyH_take (i := 4) (v := ?_) rfl (by kernel_rfl) (by kernel_rfl) (by kernel_rfl) (fun _ _ _ h => h) (Or.inl ⟨by rfl, ?_⟩) (by assumption) ?_
    rotate_left 1
    · intro w hSw; (try dsimp only at hSw); go_simp; (try with_reducible rfl)
    simp only [Act.put, List.getElem_toArray, List.getElem_cons_zero, List.getElem_cons_succ, List.setIfInBounds_toArray, List.set_cons_zero, List.set_cons_succ]
    refine wpAnyH_take (i := 6) (v := ?_) rfl (by kernel_rfl) (by kernel_rfl) (by kernel_rfl) (fun _ _ _ h => h) (Or.inl ⟨by rfl, ?_⟩) (by assumption) ?_
    rotate_left 1
    · intro w hSw; (try dsimp only at hSw); go_simp; (try with_reducible rfl)
    simp only [Act.put, List.getElem_toArray, List.getElem_cons_zero, List.getElem_cons_succ, List.setIfInBounds_toArray, List.set_cons_zero, List.set_cons_succ]
    have BA := Lib.hid ((Below.refl wd.heap.size wd).alloc (Nat.le_refl _) (.cells #[.slice A2 m c2] 27))
    obtain ⟨A5, c5, w5, hrun, hS5, hB5, h5, h5'⟩ := run_appendS 24 (S.out.drop HFN.out |>.toX BA.out) (R.out.to BA.out) (heap_alloc_last wd (.cells #[.slice A2 m c2] 27)) (by have := HLE.out.1; have := HLL.out; omega)
    have HRUN := Lib.hid hrun
    have QA := Lib.hid (Q.out.to BA.out)
    have QP := Lib.hid (QA.out.to hB5)
    have ZP := Lib.hid ((Z.out.to BA.out).to hB5)
    have SP := Lib.hid hS5
    have BP := Lib.hid ((B.out.trans (BA.out.mono B.out.size)).trans (hB5.mono (Nat.le_trans B.out.size BA.out.size)))
    have SZP := Lib.hid (Nat.le_trans SZ.out (Nat.le_trans BA.out.size hB5.size))
    clear hrun hS5 hB5 h5 h5'
    refine wpAnyH_ready (rs := [5, 7]) (by kernel_rfl) (by simp) ?_
    refine AllReadyH.cons rfl (fun K hK => ?_) (AllReadyH.cons rfl (fun K hK => ?_) AllReadyH.nil)
    · go_simp
      refine (wFromZ A n c F _ wd HZF.out HFN.out HC.out).mono ?_
      rintro e1 w1 ⟨rfl, rfl⟩
      go_wp2_with fail
      refine hK.out _ _ Q.out.six (fun hHeld => ?_)
      clear hK K
      refine wpAnyH_ready (rs := [7]) (by kernel_rfl) (by simp) ?_
      refine AllReadyH.cons rfl (fun K hK => ?_) AllReadyH.nil
      go_simp
      refine hK.out _ _ (QA.out.six) (fun hHeld => ?_)
      clear hK K
      refine wpAnyH_ready (rs := [8]) (by kernel_rfl) (by simp) ?_
      refine AllReadyH.cons rfl (fun K hK => ?_) AllReadyH.nil
      refine step_append_run rfl (.tmp 30) (.tmp 32) rfl rfl rfl HRUN.out ?_
      skip
      refine hK.out _ _ (QP.out.six) (fun hHeld => ?_)
      clear hK K
      simp only [Act.put, List.getElem_toArray, List.getElem_cons_zero, List.getElem_cons_succ, List.setIfInBounds_toArray, List.set_cons_zero, List.set_cons_succ]
      clear hHeld QA Q Z S R B SZ BA HRUN
      have HLS : Hid (∀ x ∈ l.drop F ++ [msg], x.length ≤ 140737488355328) := by
        show ∀ x ∈ _, _
        intro x hx
        rw [List.mem_append] at hx
        rcases hx with hx | hx
        · have := HLE.out.2 x (List.mem_of_mem_drop hx); omega
        · simp only [List.mem_singleton] at hx; rw [hx, HML.out]; have := HMS.out; omega
      refine wpAnyH_ready (rs := [9]) (by kernel_rfl) (by simp) ?_
      refine AllReadyH.cons rfl (fun K hK => ?_) AllReadyH.nil
      go_simp
      refine (wFilled a b d (n : Int) s A5 (n - F + 1) c5 (l.drop F ++ [msg]) w5 SP.out (by have := HLE.out.1; have := HLL.out; omega) HLS.out).mono ?_
      rintro e9 w9 ⟨v9, rfl, A9, n9, k9, rfl, hO, h9, h9', hb⟩
      simp only [quA]
      have Q9 := Lib.hid (QP.out.to hb)
      have Z9 := Lib.hid (ZP.out.to hb)
      have B9 := Lib.hid (BP.out.trans (hb.mono BP.out.size))
      have O9 := Lib.hid (hO.mono (Nat.le_trans (Nat.le_add_right _ 2) SZP.out))
      have K9 := Lib.hid h9
      have K9' := Lib.hid h9'
      have OB := Lib.hid hO
      clear hO h9 h9' hb
      go_wp2_with fail
      refine hK.out _ _ (Q9.out.six) (fun hHeld => ?_)
      clear hK K
      clear hHeld QP ZP SP BP
      obtain ⟨r0, r1, r2, r3, r4, r5⟩ := Z9.out.qx.six
      obtain ⟨f0, f1, f2, f3, f4, f5⟩ := Z9.out.zeros
      refine wpAnyH_ready (rs := [10]) (by kernel_rfl) (by simp) ?_
      refine AllReadyH.cons rfl (fun K hK => ?_) AllReadyH.nil
      go_simp
      refine hK.out _ _ ((Q9.out.kept ((Keep.refl (fun b => b = w.heap.size + 1) w9).setQ _ ⟨a, b, d, (n : Int), s⟩ (.slice A9 n9 k9) rfl) (fun h => by omega)).six) (fun hHeld => ?_)
      clear hK K
      refine wpAnyH_ready (rs := [11]) (by kernel_rfl) (by simp) ?_
      refine AllReadyH.cons rfl (fun K hK => ?_) AllReadyH.nil
      go_simp
      refine hK.out _ _ ((Q9.out.kept ((Keep.refl (fun b => b = w.heap.size + 1) w9).setQ _ ⟨a, b, d, (n : Int), s⟩ (.slice A9 n9 k9) rfl) (fun h => by omega)).six) (fun hHeld => ?_)
      clear hK K
      refine wpAnyH_done (by kernel_rfl) ?_ _
      go_wp2_with fail
      change bodyPost _ _ _ _ _ (setQ w9 (w.heap.size + 1) ⟨a, b, d, (n : Int), s⟩ (.slice A9 n9 k9))
      have P9 := Z9.out.put ⟨a, b, d, (n : Int), s⟩ (.slice A9 n9 k9)
      have S9 := below_setQ B9.out (Nat.le_succ w.heap.size) ⟨a, b, d, (n : Int), s⟩ (.slice A9 n9 k9)
      have O10 := (OB.out.kept ((Keep.refl (fun b => b = w.heap.size + 1) w9).setQ _ ⟨a, b, d, (n : Int), s⟩ (.slice A9 n9 k9) rfl) (fun b h => by have := SZP.out; omega)).mono (Nat.le_trans (Nat.le_add_right _ 2) SZP.out)
      generalize setQ w9 (w.heap.size + 1) ⟨a, b, d, (n : Int), s⟩ (.slice A9 n9 k9) = w10 at *
      exact bodyPost_ret (res_queue rfl _ _ (w.heap.size + 1) ⟨a, b, d, (n : Int), s⟩ (.slice A9 n9 k9) (.int .i64 0) rfl rfl P9) rfl (PutR.good HE.out HPM.out O10 K9.out K9'.out S9)
    · go_simp
      refine hK.out _ _ QA.out.six (fun hHeld => ?_)
      clear hK K
      refine wpAnyH_ready (rs := [5]) (by kernel_rfl) (by simp) ?_
      refine AllReadyH.cons rfl (fun K hK => ?_) AllReadyH.nil
      go_simp
      refine (wFromZ A n c F _ _ HZF.out HFN.out HC.out).mono ?_
      rintro e1 w1 ⟨rfl, rfl⟩
      go_wp2_with fail
      refine hK.out _ _ (QA.out.six) (fun hHeld => ?_)
      clear hK K
      refine wpAnyH_ready (rs := [8]) (by kernel_rfl) (by simp) ?_
      refine AllReadyH.cons rfl (fun K hK => ?_) AllReadyH.nil
      refine step_append_run rfl (.tmp 30) (.tmp 32) rfl rfl rfl HRUN.out ?_
      skip
      refine hK.out _ _ (QP.out.six) (fun hHeld => ?_)
      clear hK K
      simp only [Act.put, List.getElem_toArray, List.getElem_cons_zero, List.getElem_cons_succ, List.setIfInBounds_toArray, List.set_cons_zero, List.set_cons_succ]
      clear hHeld QA Q Z S R B SZ BA HRUN
      have HLS : Hid (∀ x ∈ l.drop F ++ [msg], x.length ≤ 140737488355328) := by
        show ∀ x ∈ _, _
        intro x hx
        rw [List.mem_append] at hx
        rcases hx with hx | hx
        · have := HLE.out.2 x (List.mem_of_mem_drop hx); omega
        · simp only [List.mem_singleton] at hx; rw [hx, HML.out]; have := HMS.out; omega
      refine wpAnyH_ready (rs := [9]) (by kernel_rfl) (by simp) ?_
      refine AllReadyH.cons rfl (fun K hK => ?_) AllReadyH.nil
      go_simp
      refine (wFilled a b d (n : Int) s A5 (n - F + 1) c5 (l.drop F ++ [msg]) w5 SP.out (by have := HLE.out.1; have := HLL.out; omega) HLS.out).mono ?_
      rintro e9 w9 ⟨v9, rfl, A9, n9, k9, rfl, hO, h9, h9', hb⟩
      simp only [quA]
      have Q9 := Lib.hid (QP.out.to hb)
      have Z9 := Lib.hid (ZP.out.to hb)
      have B9 := Lib.hid (BP.out.trans (hb.mono BP.out.size))
      have O9 := Lib.hid (hO.mono (Nat.le_trans (Nat.le_add_right _ 2) SZP.out))
      have K9 := Lib.hid h9
      have K9' := Lib.hid h9'
      have OB := Lib.hid hO
      clear hO h9 h9' hb
      go_wp2_with fail
      refine hK.out _ _ (Q9.out.six) (fun hHeld => ?_)
      clear hK K
      clear hHeld QP ZP SP BP
      obtain ⟨r0, r1, r2, r3, r4, r5⟩ := Z9.out.qx.six
      obtain ⟨f0, f1, f2, f3, f4, f5⟩ := Z9.out.zeros
      refine wpAnyH_ready (rs := [10]) (by kernel_rfl) (by simp) ?_
      refine AllReadyH.cons rfl (fun K hK => ?_) AllReadyH.nil
      go_simp
      refine hK.out _ _ ((Q9.out.kept ((Keep.refl (fun b => b = w.heap.size + 1) w9).setQ _ ⟨a, b, d, (n : Int), s⟩ (.slice A9 n9 k9) rfl) (fun h => by omega)).six) (fun hHeld => ?_)
      clear hK K
      refine wpAnyH_ready (rs := [11]) (by kernel_rfl) (by simp) ?_
      refine AllReadyH.cons rfl (fun K hK => ?_) AllReadyH.nil
      go_simp
      refine hK.out _ _ ((Q9.out.kept ((Keep.refl (fun b => b = w.heap.size + 1) w9).setQ _ ⟨a, b, d, (n : Int), s⟩ (.slice A9 n9 k9) rfl) (fun h => by omega)).six) (fun hHeld => ?_)
      clear hK K
      refine wpAnyH_done (by kernel_rfl) ?_ _
      go_wp2_with fail
      change bodyPost _ _ _ _ _ (setQ w9 (w.heap.size + 1) ⟨a, b, d, (n : Int), s⟩ (.slice A9 n9 k9))
      have P9 := Z9.out.put ⟨a, b, d, (n : Int), s⟩ (.slice A9 n9 k9)
      have S9 := below_setQ B9.out (Nat.le_succ w.heap.size) ⟨a, b, d, (n : Int), s⟩ (.slice A9 n9 k9)
      have O10 := (OB.out.kept ((Keep.refl (fun b => b = w.heap.size + 1) w9).setQ _ ⟨a, b, d, (n : Int), s⟩ (.slice A9 n9 k9) rfl) (fun b h => by have := SZP.out; omega)).mono (Nat.le_trans (Nat.le_add_right _ 2) SZP.out)
      generalize setQ w9 (w.heap.size + 1) ⟨a, b, d, (n : Int), s⟩ (.slice A9 n9 k9) = w10 at *
      exact bodyPost_ret (res_queue rfl _ _ (w.heap.size + 1) ⟨a, b, d, (n : Int), s⟩ (.slice A9 n9 k9) (.int .i64 0) rfl rfl P9) rfl (PutR.good HE.out HPM.out O10 K9.out K9'.out S9)
  · have HZF : Hid ((0 : Int) = (F : Int)) := by show _ = _; have h2 := HF.out; unfold fstM at h2; rw [HLL.out, if_neg (by exact hfull)] at h2; omega
    go_wp2_with fail
    refine wp_region_held_drew (S := (fun w' => w'.cell? ⟨w.heap.size, 0, none⟩ = some (.int .i64 a) ∧ w'.cell? ⟨w.heap.size, 1, none⟩ = some (.int .i64 b) ∧ w'.cell? ⟨w.heap.size, 2, none⟩ = some (.int .i64 d) ∧ w'.cell? ⟨w.heap.size, 3, none⟩ = some (.int .i64 e) ∧ w'.cell? ⟨w.heap.size, 4, none⟩ = some (.int .i64 s) ∧ w'.cell? ⟨w.heap.size, 5, none⟩ = some (.slice A n c))) (by kernel_rfl) (Q.out.six) (fun hHeld => ?_)
    obtain ⟨wd, hwd⟩ : ∃ wd, w3.drew = wd := ⟨_, rfl⟩
    clear x0 x1 x2 x3 x4 x5 r0 r1 r2 r3 r4 r5 f0 f1 f2 f3 f4 f5 QT
    replace Q : Hid (Qx wd w.heap.size ⟨a, b, d, e, s⟩ (.slice A n c)) := by rw [← hwd]; exact Q.out.to ((Below.refl _ _).drew)
    replace Z : Hid (QB wd (w.heap.size + 1) Ch.zero (.slice none 0 0)) := by rw [← hwd]; exact Z.out
    replace S : Hid (RdS wd wd.heap.size A n l) := by rw [← hwd]; exact S.out
    replace R : Hid (Rd wd wd.heap.size A2 m msg) := by rw [← hwd]; exact R.out
    replace B : Hid (Below w.heap.size w wd) := by rw [← hwd]; exact B.out.drew
    replace SZ : Hid (w.heap.size + 2 ≤ wd.heap.size) := by rw [← hwd]; exact SZ.out
    rw [hwd] at hHeld ⊢
    clear hwd
    refine wpAnyH_take (i := 0) (v := ?_) rfl (by kernel_rfl) (by kernel_rfl) (by kernel_rfl) (fun _ _ _ h => h) (Or.inl ⟨by rfl, ?_⟩) (by assumption) ?_
    rotate_left 1
    · intro w hSw; (try dsimp only at hSw); go_simp; (try with_reducible rfl)
    simp only [Act.put, List.getElem_toArray, List.getElem_cons_zero, List.getElem_cons_succ, List.setIfInBounds_toArray, List.set_cons_zero, List.set_cons_succ]
    refine wpAnyH_take (i := 1) (v := ?_) rfl (by kernel_rfl) (by kernel_rfl) (by kernel_rfl) (fun _ _ _ h => h) (Or.inl ⟨by rfl, ?_⟩) (by assumption) ?_
    rotate_left 1
    · intro w hSw; (try dsimp only at hSw); go_simp; (try with_reducible rfl)
    simp only [Act.put, List.getElem_toArray, List.getElem_cons_zero, List.getElem_cons_succ, List.setIfInBounds_toArray, List.set_cons_zero, List.set_cons_succ]
    refine wpAnyH_take (i := 2) (v := ?_) rfl (by kernel_rfl) (by kernel_rfl) (by kernel_rfl) (fun _ _ _ h => h) (Or.inl ⟨by rfl, ?_⟩) (by assumption) ?_
    rotate_left 1
    · intro w hSw; (try dsimp only at hSw); go_simp; (try with_reducible rfl)
    simp only [Act.put, List.getElem_toArray, List.getElem_cons_zero, List.getElem_cons_succ, List.setIfInBounds_toArray, List.set_cons_zero, List.set_cons_succ]
    refine wpAnyH_take (i := 3) (v := ?_) rfl (by kernel_rfl) (by kernel_rfl) (by kernel_rfl) (fun _ _ _ h => h) (Or.inl ⟨by rfl, ?_⟩) (by assumption) ?_
    rotate_left 1
    · intro w hSw; (try dsimp only at hSw); go_simp; (try with_reducible rfl)
    simp only [Act.put, List.getElem_toArray, List.getElem_cons_zero, List.getElem_cons_succ, List.setIfInBounds_toArray, List.set_cons_zero, List.set_cons_succ]
    refine wpAnyH_take (i := 4) (v := ?_) rfl (by kernel_rfl) (by kernel_rfl) (by kernel_rfl) (fun _ _ _ h => h) (Or.inl ⟨by rfl, ?_⟩) (by assumption) ?_
    rotate_left 1
    · intro w hSw; (try dsimp only at hSw); go_simp; (try with_reducible rfl)
    simp only [Act.put, List.getElem_toArray, List.getElem_cons_zero, List.getElem_cons_succ, List.setIfInBounds_toArray, List.set_cons_zero, List.set_cons_succ]
    refine wpAnyH_take (i := 6) (v := ?_) rfl (by kernel_rfl) (by kernel_rfl) (by kernel_rfl) (fun _ _ _ h => h) (Or.inl ⟨by rfl, ?_⟩) (by assumption) ?_
    rotate_left 1
    · intro w hSw; (try dsimp only at hSw); go_simp; (try with_reducible rfl)
    simp only [Act.put, List.getElem_toArray, List.getElem_cons_zero, List.getElem_cons_succ, List.setIfInBounds_toArray, List.set_cons_zero, List.set_cons_succ]
    have BA := Lib.hid ((Below.refl wd.heap.size wd).alloc (Nat.le_refl _) (.cells #[.slice A2 m c2] 27))
    obtain ⟨A5, c5, w5, hrun, hS5, hB5, h5, h5'⟩ := run_appendS 24 (S.out.drop HFN.out |>.toX BA.out) (R.out.to BA.out) (heap_alloc_last wd (.cells #[.slice A2 m c2] 27)) (by have := HLE.out.1; have := HLL.out; omega)
    have HRUN := Lib.hid hrun
    have QA := Lib.hid (Q.out.to BA.out)
    have QP := Lib.hid (QA.out.to hB5)
    have ZP := Lib.hid ((Z.out.to BA.out).to hB5)
    have SP := Lib.hid hS5
    have BP := Lib.hid ((B.out.trans (BA.out.mono B.out.size)).trans (hB5.mono (Nat.le_trans B.out.size BA.out.size)))
    have SZP := Lib.hid (Nat.le_trans SZ.out (Nat.le_trans BA.out.size hB5.size))
    clear hrun hS5 hB5 h5 h5'
    refine wpAnyH_ready (rs := [5, 7]) (by kernel_rfl) (by simp) ?_
    refine AllReadyH.cons rfl (fun K hK => ?_) (AllReadyH.cons rfl (fun K hK => ?_) AllReadyH.nil)
    · go_simp
      refine (wFromZ A n c F _ wd HZF.out HFN.out HC.out).mono ?_
      rintro e1 w1 ⟨rfl, rfl⟩
      go_wp2_with fail
      refine hK.out _ _ Q.out.six (fun hHeld => ?_)
      clear hK K
      refine wpAnyH_ready (rs := [7]) (by kernel_rfl) (by simp) ?_
      refine AllReadyH.cons rfl (fun K hK => ?_) AllReadyH.nil
      go_simp
      refine hK.out _ _ (QA.out.six) (fun hHeld => ?_)
      clear hK K
      refine wpAnyH_ready (rs := [8]) (by kernel_rfl) (by simp) ?_
      refine AllReadyH.cons rfl (fun K hK => ?_) AllReadyH.nil
      refine step_append_run rfl (.tmp 30) (.tmp 32) rfl rfl rfl HRUN.out ?_
      skip
      refine hK.out _ _ (QP.out.six) (fun hHeld => ?_)
      clear hK K
      simp only [Act.put, List.getElem_toArray, List.getElem_cons_zero, List.getElem_cons_succ, List.setIfInBounds_toArray, List.set_cons_zero, List.set_cons_succ]
      clear hHeld QA Q Z S R B SZ BA HRUN
      have HLS : Hid (∀ x ∈ l.drop F ++ [msg], x.length ≤ 140737488355328) := by
        show ∀ x ∈ _, _
        intro x hx
        rw [List.mem_append] at hx
        rcases hx with hx | hx
        · have := HLE.out.2 x (List.mem_of_mem_drop hx); omega
        · simp only [List.mem_singleton] at hx; rw [hx, HML.out]; have := HMS.out; omega
      refine wpAnyH_ready (rs := [9]) (by kernel_rfl) (by simp) ?_
      refine AllReadyH.cons rfl (fun K hK => ?_) AllReadyH.nil
      go_simp
      refine (wFilled a b d e s A5 (n - F + 1) c5 (l.drop F ++ [msg]) w5 SP.out (by have := HLE.out.1; have := HLL.out; omega) HLS.out).mono ?_
      rintro e9 w9 ⟨v9, rfl, A9, n9, k9, rfl, hO, h9, h9', hb⟩
      simp only [quA]
      have Q9 := Lib.hid (QP.out.to hb)
      have Z9 := Lib.hid (ZP.out.to hb)
      have B9 := Lib.hid (BP.out.trans (hb.mono BP.out.size))
      have O9 := Lib.hid (hO.mono (Nat.le_trans (Nat.le_add_right _ 2) SZP.out))
      have K9 := Lib.hid h9
      have K9' := Lib.hid h9'
      have OB := Lib.hid hO
      clear hO h9 h9' hb
      go_wp2_with fail
      refine hK.out _ _ (Q9.out.six) (fun hHeld => ?_)
      clear hK K
      clear hHeld QP ZP SP BP
      obtain ⟨r0, r1, r2, r3, r4, r5⟩ := Z9.out.qx.six
      obtain ⟨f0, f1, f2, f3, f4, f5⟩ := Z9.out.zeros
      refine wpAnyH_ready (rs := [10]) (by kernel_rfl) (by simp) ?_
      refine AllReadyH.cons rfl (fun K hK => ?_) AllReadyH.nil
      go_simp
      refine hK.out _ _ ((Q9.out.kept ((Keep.refl (fun b => b = w.heap.size + 1) w9).setQ _ ⟨a, b, d, e, s⟩ (.slice A9 n9 k9) rfl) (fun h => by omega)).six) (fun hHeld => ?_)
      clear hK K
      refine wpAnyH_ready (rs := [11]) (by kernel_rfl) (by simp) ?_
      refine AllReadyH.cons rfl (fun K hK => ?_) AllReadyH.nil
      go_simp
      refine hK.out _ _ ((Q9.out.kept ((Keep.refl (fun b => b = w.heap.size + 1) w9).setQ _ ⟨a, b, d, e, s⟩ (.slice A9 n9 k9) rfl) (fun h => by omega)).six) (fun hHeld => ?_)
      clear hK K
      refine wpAnyH_done (by kernel_rfl) ?_ _
      go_wp2_with fail
      change bodyPost _ _ _ _ _ (setQ w9 (w.heap.size + 1) ⟨a, b, d, e, s⟩ (.slice A9 n9 k9))
      have P9 := Z9.out.put ⟨a, b, d, e, s⟩ (.slice A9 n9 k9)
      have S9 := below_setQ B9.out (Nat.le_succ w.heap.size) ⟨a, b, d, e, s⟩ (.slice A9 n9 k9)
      have O10 := (OB.out.kept ((Keep.refl (fun b => b = w.heap.size + 1) w9).setQ _ ⟨a, b, d, e, s⟩ (.slice A9 n9 k9) rfl) (fun b h => by have := SZP.out; omega)).mono (Nat.le_trans (Nat.le_add_right _ 2) SZP.out)
      generalize setQ w9 (w.heap.size + 1) ⟨a, b, d, e, s⟩ (.slice A9 n9 k9) = w10 at *
      exact bodyPost_ret (res_queue rfl _ _ (w.heap.size + 1) ⟨a, b, d, e, s⟩ (.slice A9 n9 k9) (.int .i64 0) rfl rfl P9) rfl (PutR.good HE.out HPM.out O10 K9.out K9'.out S9)
    · go_simp
      refine hK.out _ _ QA.out.six (fun hHeld => ?_)
      clear hK K
      refine wpAnyH_ready (rs := [5]) (by kernel_rfl) (by simp) ?_
      refine AllReadyH.cons rfl (fun K hK => ?_) AllReadyH.nil
      go_simp
      refine (wFromZ A n c F _ _ HZF.out HFN.out HC.out).mono ?_
      rintro e1 w1 ⟨rfl, rfl⟩
      go_wp2_with fail
      refine hK.out _ _ (QA.out.six) (fun hHeld => ?_)
      clear hK K
      refine wpAnyH_ready (rs := [8]) (by kernel_rfl) (by simp) ?_
      refine AllReadyH.cons rfl (fun K hK => ?_) AllReadyH.nil
      refine step_append_run rfl (.tmp 30) (.tmp 32) rfl rfl rfl HRUN.out ?_
      skip
      refine hK.out _ _ (QP.out.six) (fun hHeld => ?_)
      clear hK K
      simp only [Act.put, List.getElem_toArray, List.getElem_cons_zero, List.getElem_cons_succ, List.setIfInBounds_toArray, List.set_cons_zero, List.set_cons_succ]
      clear hHeld QA Q Z S R B SZ BA HRUN
      have HLS : Hid (∀ x ∈ l.drop F ++ [msg], x.length ≤ 140737488355328) := by
        show ∀ x ∈ _, _
        intro x hx
        rw [List.mem_append] at hx
        rcases hx with hx | hx
        · have := HLE.out.2 x (List.mem_of_mem_drop hx); omega
        · simp only [List.mem_singleton] at hx; rw [hx, HML.out]; have := HMS.out; omega
      refine wpAnyH_ready (rs := [9]) (by kernel_rfl) (by simp) ?_
      refine AllReadyH.cons rfl (fun K hK => ?_) AllReadyH.nil
      go_simp
      refine (wFilled a b d e s A5 (n - F + 1) c5 (l.drop F ++ [msg]) w5 SP.out (by have := HLE.out.1; have := HLL.out; omega) HLS.out).mono ?_
      rintro e9 w9 ⟨v9, rfl, A9, n9, k9, rfl, hO, h9, h9', hb⟩
      simp only [quA]
      have Q9 := Lib.hid (QP.out.to hb)
      have Z9 := Lib.hid (ZP.out.to hb)
      have B9 := Lib.hid (BP.out.trans (hb.mono BP.out.size))
      have O9 := Lib.hid (hO.mono (Nat.le_trans (Nat.le_add_right _ 2) SZP.out))
      have K9 := Lib.hid h9
      have K9' := Lib.hid h9'
      have OB := Lib.hid hO
      clear hO h9 h9' hb
      go_wp2_with fail
      refine hK.out _ _ (Q9.out.six) (fun hHeld => ?_)
      clear hK K
      clear hHeld QP ZP SP BP
      obtain ⟨r0, r1, r2, r3, r4, r5⟩ := Z9.out.qx.six
      obtain ⟨f0, f1, f2, f3, f4, f5⟩ := Z9.out.zeros
      refine wpAnyH_ready (rs := [10]) (by kernel_rfl) (by simp) ?_
      refine AllReadyH.cons rfl (fun K hK => ?_) AllReadyH.nil
      go_simp
      refine hK.out _ _ ((Q9.out.kept ((Keep.refl (fun b => b = w.heap.size + 1) w9).setQ _ ⟨a, b, d, e, s⟩ (.slice A9 n9 k9) rfl) (fun h => by omega)).six) (fun hHeld => ?_)
      clear hK K
      refine wpAnyH_ready (rs := [11]) (by kernel_rfl) (by simp) ?_
      refine AllReadyH.cons rfl (fun K hK => ?_) AllReadyH.nil
      go_simp
      refine hK.out _ _ ((Q9.out.kept ((Keep.refl (fun b => b = w.heap.size + 1) w9).setQ _ ⟨a, b, d, e, s⟩ (.slice A9 n9 k9) rfl) (fun h => by omega)).six) (fun hHeld => ?_)
      clear hK K
      refine wpAnyH_done (by kernel_rfl) ?_ _
      go_wp2_with fail
      change bodyPost _ _ _ _ _ (setQ w9 (w.heap.size + 1) ⟨a, b, d, e, s⟩ (.slice A9 n9 k9))
      have P9 := Z9.out.put ⟨a, b, d, e, s⟩ (.slice A9 n9 k9)
      have S9 := below_setQ B9.out (Nat.le_succ w.heap.size) ⟨a, b, d, e, s⟩ (.slice A9 n9 k9)
      have O10 := (OB.out.kept ((Keep.refl (fun b => b = w.heap.size + 1) w9).setQ _ ⟨a, b, d, e, s⟩ (.slice A9 n9 k9) rfl) (fun b h => by have := SZP.out; omega)).mono (Nat.le_trans (Nat.le_add_right _ 2) SZP.out)
      generalize setQ w9 (w.heap.size + 1) ⟨a, b, d, e, s⟩ (.slice A9 n9 k9) = w10 at *
      exact bodyPost_ret (res_queue rfl _ _ (w.heap.size + 1) ⟨a, b, d, e, s⟩ (.slice A9 n9 k9) (.int .i64 0) rfl rfl P9) rfl (PutR.good HE.out HPM.out O10 K9.out K9'.out S9)
end Go.Proofs.Ytkaobafgecoomaa
