/- For any channels and any two queues the law ChannelTells of citadellaw10 returns true: whether channels and queues may be, an empty queue, whether two queues are the same, is as the document says (at most 20 channels; queues of at most 20 messages and 400 in all). Conditions: none beyond those that the statement itself prints. -/
import Derived.Test.YtkaobafgecoomaaRows
import Derived.Test.YtkaobafgecoomaaChG
import Derived.SizedLaws
import Derived.WalkKit
import Derived.ProofKit
import Derived.OpenShut
import Derived.ShutString
import Derived.ChangeOld
import Derived.Below
namespace Go.Proofs.Ytkaobafgecoomaa.channelTells
open Go.ChangeShapes Go.WideShapes Go.ChangeAt Go.RowKit
open Go.ChangeMaps (open_string shut_string)
set_option linter.unusedVariables false
set_option linter.unusedSimpArgs false

theorem own : ownKnob Try.prog.godebug = none := by kernel_rfl
theorem laidOut : laidOutB Try.prog = true := by kernel_rfl

theorem rdC_more {w : World} {B B' n : Nat} {A : Option Addr} {l : List Ch} (h : RdC w B A n l) (hB : B ≤ B') : RdC w B' A n l :=
  ⟨h.1, fun hn => by obtain ⟨b, o, e, hb, hc⟩ := h.2 hn; exact ⟨b, o, e, Nat.lt_of_lt_of_le hb hB, hc⟩⟩
theorem eqC_same (a b d e s : Int) : eqC ⟨a, b, d, e, s⟩ ⟨a, b, d, e, s⟩ = true := by simp [eqC]
theorem two_boxes (w : World) (a b d e s : Int) (v : Value) (a' b' d' e' s' : Int) (v' : Value) : ∃ w2, ((w.alloc (.cells #[.int .i64 a, .int .i64 b, .int .i64 d, .int .i64 e, .int .i64 s, v] 26)).alloc (.cells #[.int .i64 a', .int .i64 b', .int .i64 d', .int .i64 e', .int .i64 s', v'] 26)) = w2 ∧
    Qx w2 w.heap.size ⟨a, b, d, e, s⟩ v ∧ Qx w2 (w.heap.size + 1) ⟨a', b', d', e', s'⟩ v' ∧ Below w.heap.size w w2 := by
  refine ⟨_, rfl, (Qx.new w a b d e s v 26).to ((Below.refl _ _).alloc (Nat.le_refl _) _), ?_, ((Below.refl w.heap.size w).alloc (Nat.le_refl _) _).alloc (by simp) _⟩
  have h := Qx.new (w.alloc (.cells #[.int .i64 a, .int .i64 b, .int .i64 d, .int .i64 e, .int .i64 s, v] 26)) a' b' d' e' s' v' 26
  rw [show (w.alloc (.cells #[.int .i64 a, .int .i64 b, .int .i64 d, .int .i64 e, .int .i64 s, v] 26)).heap.size = w.heap.size + 1 from by simp] at h
  exact h
set_option maxRecDepth 1000000 in
set_option maxHeartbeats 4000000 in
theorem walk (a0 : Option Addr) (len0 cap0 : Nat) (l0 : List Ch) (ca1 cb1 cd1 ce1 cs1 : Int) (a1 : Option Addr) (len1 cap1 : Nat) (bss1 : List (List UInt8)) (ca2 cb2 cd2 ce2 cs2 : Int) (a2 : Option Addr) (len2 cap2 : Nat) (bss2 : List (List UInt8)) (w : World) (w0 : RdC w w.heap.size a0 len0 l0 ∧ len0 ≤ cap0 ∧ cap0 ≤ 9223372036854775807) (w1 : RdS w w.heap.size a1 len1 bss1 ∧ len1 ≤ cap1 ∧ cap1 * 24 ≤ 140737488351232 ∧ ∀ bs ∈ bss1, bs.length ≤ 140737488351232) (w2 : RdS w w.heap.size a2 len2 bss2 ∧ len2 ≤ cap2 ∧ cap2 * 24 ≤ 140737488351232 ∧ ∀ bs ∈ bss2, bs.length ≤ 140737488351232) :
    Calls Try.prog 5 #[.slice a0 len0 cap0, .agg #[.int .i64 ca1, .int .i64 cb1, .int .i64 cd1, .int .i64 ce1, .int .i64 cs1, .slice a1 len1 cap1], .agg #[.int .i64 ca2, .int .i64 cb2, .int .i64 cd2, .int .i64 ce2, .int .i64 cs2, .slice a2 len2 cap2]] w fun e w' => e = .returned (.bool true) ∧ Below w.heap.size w w' := by
  obtain ⟨c0, _, _⟩ := w0
  obtain ⟨s1, hcap1, hcap124, hlens1⟩ := w1
  obtain ⟨s2, hcap2, hcap224, hlens2⟩ := w2
  have C0 := Lib.hid c0
  have S1 := Lib.hid s1
  have S2 := Lib.hid s2
  have HL1 := Lib.hid hlens1
  have HL2 := Lib.hid hlens2
  have HN1 : Hid (len1 ≤ 140737488355328) := by (show _ ≤ _); omega
  have HN2 : Hid (len2 ≤ 140737488355328) := by (show _ ≤ _); omega
  have HCAP1 := Lib.hid hcap1
  have HLL1 := Lib.hid s1.1
  obtain ⟨w2, hw2, hp, hq, hb⟩ := two_boxes w ca1 cb1 cd1 ce1 cs1 (.slice a1 len1 cap1) ca2 cb2 cd2 ce2 cs2 (.slice a2 len2 cap2)
  have HW2 := Lib.hid hw2
  have P := Lib.hid hp
  have Q := Lib.hid hq
  have B := Lib.hid hb
  clear c0 s1 s2 hcap124 hlens1 hcap224 hlens2 hcap1 hcap2 hw2 hp hq hb
  obtain ⟨x0, x1, x2, x3, x4, x5⟩ := P.out.six
  go_enter Try.func5, Try.ntmps5
  go_upto_region 1 with (fail)
  rw [HW2.out]
  clear HW2
  go_wp2_with fail
  refine (lGreat ca1 cb1 cd1 ce1 cs1 a1 len1 cap1 bss1 w2 ((S1.out.belowX B.out).moreX B.out.size) HN1.out (fun m hm => by have := HL1.out m hm; omega)).mono ?_
  rintro x w3 ⟨rfl, hb⟩
  replace P := Lib.hid (P.out.to hb)
  replace Q := Lib.hid (Q.out.to hb)
  replace B := Lib.hid (B.out.trans (hb.mono B.out.size))
  clear hb x0 x1 x2 x3 x4 x5
  obtain ⟨x0, x1, x2, x3, x4, x5⟩ := P.out.six
  obtain ⟨y0, y1, y2, y3, y4, y5⟩ := Q.out.six
  cases hbig1 : bigQ bss1
  rotate_left 1
  · go_wp2_with fail
    go_ret
    exact ⟨rfl, B.out⟩
  have HSM1 := Lib.hid (bigQ_small hbig1)
  clear hbig1
  go_wp2_with fail
  refine (lGreat ca2 cb2 cd2 ce2 cs2 a2 len2 cap2 bss2 w3 ((S2.out.belowX B.out).moreX B.out.size) HN2.out (fun m hm => by have := HL2.out m hm; omega)).mono ?_
  rintro x w4 ⟨rfl, hb⟩
  replace P := Lib.hid (P.out.to hb)
  replace Q := Lib.hid (Q.out.to hb)
  replace B := Lib.hid (B.out.trans (hb.mono B.out.size))
  clear hb x0 x1 x2 x3 x4 x5 y0 y1 y2 y3 y4 y5
  obtain ⟨x0, x1, x2, x3, x4, x5⟩ := P.out.six
  obtain ⟨y0, y1, y2, y3, y4, y5⟩ := Q.out.six
  cases hbig2 : bigQ bss2
  rotate_left 1
  · go_wp2_with fail
    go_ret
    exact ⟨rfl, B.out⟩
  clear hbig2
  by_cases h20 : 20 < len0
  · have hI : (len0 : Int) > 20 := by omega
    go_wp2_with fail
    go_ret
    exact ⟨rfl, B.out⟩
  have hI : ¬ (len0 : Int) > 20 := by omega
  have H20 : Hid (len0 ≤ 1000) := by (show _ ≤ _); omega
  have HN20 : Hid (len1 ≤ 20) := by (show _ ≤ _); rw [← HLL1.out]; exact HSM1.out.1
  clear h20
  go_wp2_with fail
  refine (wNew ca1 cb1 cd1 ce1 cs1 w4).mono ?_
  rintro x w5 ⟨rfl, hb⟩
  obtain ⟨X, hX⟩ : ∃ X, newC ⟨ca1, cb1, cd1, ce1, cs1⟩ = X := ⟨_, rfl⟩
  obtain ⟨pa, pb, pd, pe, ps⟩ := X
  obtain ⟨E, hE⟩ : ∃ E, newE ⟨ca1, cb1, cd1, ce1, cs1⟩ = E := ⟨_, rfl⟩
  obtain ⟨Y, hY⟩ : ∃ Y, mayC ⟨ca1, cb1, cd1, ce1, cs1⟩ = Y := ⟨_, rfl⟩
  rw [hX, hE]
  simp only [quA]
  have hb5 := (Below.refl w5.heap.size w5).alloc (Nat.le_refl _) (.cells #[.int .i64 pa, .int .i64 pb, .int .i64 pd, .int .i64 pe, .int .i64 ps, .slice none 0 0] 26)
  have hb45 := hb.trans (hb5.mono hb.size)
  replace P := Lib.hid (P.out.to hb45)
  replace Q := Lib.hid (Q.out.to hb45)
  replace B := Lib.hid (B.out.trans (hb45.mono B.out.size))
  have T7 := Lib.hid (Qx.new w5 pa pb pd pe ps (.slice none 0 0) 26)
  have HX := Lib.hid hX
  have HE := Lib.hid hE
  have HY := Lib.hid hY
  clear hb hb5 hb45 x0 x1 x2 x3 x4 x5 y0 y1 y2 y3 y4 y5 hX hE hY
  go_upto_region 4 with (fail)
  generalize w5.alloc (.cells #[.int .i64 pa, .int .i64 pb, .int .i64 pd, .int .i64 pe, .int .i64 ps, .slice none 0 0] 26) = w6 at *
  obtain ⟨x0, x1, x2, x3, x4, x5⟩ := P.out.six
  go_wp2_with fail
  refine (rMay ca1 cb1 cd1 ce1 cs1 w6).mono ?_
  rintro x w7 ⟨rfl, hb⟩
  rw [HY.out]
  replace P := Lib.hid (P.out.to hb)
  replace Q := Lib.hid (Q.out.to hb)
  replace T7 := Lib.hid (T7.out.to hb)
  replace B := Lib.hid (B.out.trans (hb.mono B.out.size))
  clear hb x0 x1 x2 x3 x4 x5
  obtain ⟨x0, x1, x2, x3, x4, x5⟩ := P.out.six
  obtain ⟨z0, z1, z2, z3, z4, z5⟩ := T7.out.six
  have hgd := ch_guard
  have heq := ch_eq
  have heqs := eqC_same
  cases Y
  · have h1 := HX.out
    have h2 := HE.out
    unfold newC at h1
    unfold newE at h2
    rw [HY.out] at h1 h2
    simp only [Bool.false_eq_true, if_false, Ch.zero, Ch.mk.injEq] at h1 h2
    obtain ⟨rfl, rfl, rfl, rfl, rfl⟩ := h1
    subst h2
    go_wp2_with fail
    clear hgd heq heqs x0 x1 x2 x3 x4 x5 z0 z1 z2 z3 z4 z5 hI
    obtain ⟨EA, hEA⟩ : ∃ EA, allE l0 = EA := ⟨_, rfl⟩
    obtain ⟨V, hV⟩ : ∃ V, mayQ ⟨ca1, cb1, cd1, ce1, cs1⟩ bss1 = V := ⟨_, rfl⟩
    obtain ⟨U, hU⟩ : ∃ U, (eqC ⟨ca1, cb1, cd1, ce1, cs1⟩ ⟨ca2, cb2, cd2, ce2, cs2⟩ && decide (bss1 = bss2)) = U := ⟨_, rfl⟩
    have HEA := Lib.hid hEA
    have HV := Lib.hid hV
    have HU := Lib.hid hU
    clear hEA hV hU
    obtain ⟨wd, hwd⟩ : ∃ wd, w7.drew = wd := ⟨_, rfl⟩
    refine wp_region_held_drew (S := (fun w' => (w'.cell? ⟨w.heap.size, 0, none⟩ = some (.int .i64 ca1) ∧ w'.cell? ⟨w.heap.size, 1, none⟩ = some (.int .i64 cb1) ∧ w'.cell? ⟨w.heap.size, 2, none⟩ = some (.int .i64 cd1) ∧ w'.cell? ⟨w.heap.size, 3, none⟩ = some (.int .i64 ce1) ∧ w'.cell? ⟨w.heap.size, 4, none⟩ = some (.int .i64 cs1) ∧ w'.cell? ⟨w.heap.size, 5, none⟩ = some (.slice a1 len1 cap1)) ∧ w'.cell? ⟨w.heap.size + 1, 0, none⟩ = some (.int .i64 ca2) ∧ w'.cell? ⟨w.heap.size + 1, 1, none⟩ = some (.int .i64 cb2) ∧ w'.cell? ⟨w.heap.size + 1, 2, none⟩ = some (.int .i64 cd2) ∧ w'.cell? ⟨w.heap.size + 1, 3, none⟩ = some (.int .i64 ce2) ∧ w'.cell? ⟨w.heap.size + 1, 4, none⟩ = some (.int .i64 cs2) ∧ w'.cell? ⟨w.heap.size + 1, 5, none⟩ = some (.slice a2 len2 cap2))) (by kernel_rfl) (⟨P.out.six, Q.out.six⟩) (fun hHeld => ?_)
    replace P : Hid (Qx wd w.heap.size ⟨ca1, cb1, cd1, ce1, cs1⟩ (.slice a1 len1 cap1)) := by rw [← hwd]; exact P.out.to ((Below.refl _ _).drew)
    replace Q : Hid (Qx wd (w.heap.size + 1) ⟨ca2, cb2, cd2, ce2, cs2⟩ (.slice a2 len2 cap2)) := by rw [← hwd]; exact Q.out.to ((Below.refl _ _).drew)
    replace B : Hid (Below w.heap.size w wd) := by rw [← hwd]; exact B.out.drew
    rw [hwd] at hHeld ⊢
    clear hwd
    refine wpAnyH_take (i := 0) (v := ?_) rfl (by kernel_rfl) (by kernel_rfl) (by kernel_rfl) (fun _ _ _ h => h) (Or.inl ⟨by rfl, ?_⟩) (by assumption) ?_
    rotate_left 1
    · intro w hSw; (try dsimp only at hSw); go_simp; (try with_reducible rfl)
    simp only [Act.put, List.getElem_toArray, List.getElem_cons_zero, List.getElem_cons_succ, List.setIfInBounds_toArray, List.set_cons_zero, List.set_cons_succ]
    refine wpAnyH_take (i := 2) (v := ?_) rfl (by kernel_rfl) (by kernel_rfl) (by kernel_rfl) (fun _ _ _ h => h) (Or.inl ⟨by rfl, ?_⟩) (by assumption) ?_
    rotate_left 1
    · intro w hSw; (try dsimp only at hSw); go_simp; (try with_reducible rfl)
    simp only [Act.put, List.getElem_toArray, List.getElem_cons_zero, List.getElem_cons_succ, List.setIfInBounds_toArray, List.set_cons_zero, List.set_cons_succ]
    refine wpAnyH_ready (rs := [1]) (by kernel_rfl) (by simp) ?_
    refine AllReadyH.cons rfl (fun K hK => ?_) AllReadyH.nil
    go_simp
    refine (wAll a0 len0 cap0 l0 wd (rdC_more (C0.out.below B.out) B.out.size) H20.out).mono ?_
    rintro x1 w8 ⟨rfl, hb⟩
    rw [HEA.out]
    replace P := Lib.hid (P.out.to hb)
    replace Q := Lib.hid (Q.out.to hb)
    replace B := Lib.hid (B.out.trans (hb.mono B.out.size))
    clear hb
    go_wp2_with fail
    refine hK.out _ _ (⟨P.out.six, Q.out.six⟩) (fun hHeld => ?_)
    clear hK K
    refine wpAnyH_ready (rs := [3]) (by kernel_rfl) (by simp) ?_
    refine AllReadyH.cons rfl (fun K hK => ?_) AllReadyH.nil
    go_simp
    refine (rAll a0 len0 cap0 l0 w8 (rdC_more (C0.out.below B.out) B.out.size) H20.out).mono ?_
    rintro x1 w9 ⟨rfl, hb⟩
    rw [HEA.out]
    replace P := Lib.hid (P.out.to hb)
    replace Q := Lib.hid (Q.out.to hb)
    replace B := Lib.hid (B.out.trans (hb.mono B.out.size))
    clear hb
    go_wp2_with fail
    refine hK.out _ _ (⟨P.out.six, Q.out.six⟩) (fun hHeld => ?_)
    clear hK K
    refine wpAnyH_take (i := 4) (v := ?_) rfl (by kernel_rfl) (by kernel_rfl) (by kernel_rfl) (fun _ _ _ h => h) (Or.inl ⟨by rfl, ?_⟩) (by assumption) ?_
    rotate_left 1
    · intro w hSw; (try dsimp only at hSw); go_simp; (try with_reducible rfl)
    simp only [Act.put, List.getElem_toArray, List.getElem_cons_zero, List.getElem_cons_succ, List.setIfInBounds_toArray, List.set_cons_zero, List.set_cons_succ]
    refine wpAnyH_take (i := 5) (v := ?_) rfl (by kernel_rfl) (by kernel_rfl) (by kernel_rfl) (fun _ _ _ h => h) (Or.inl ⟨by rfl, ?_⟩) (by assumption) ?_
    rotate_left 1
    · intro w hSw; (try dsimp only at hSw); go_simp; (try with_reducible rfl)
    simp only [Act.put, List.getElem_toArray, List.getElem_cons_zero, List.getElem_cons_succ, List.setIfInBounds_toArray, List.set_cons_zero, List.set_cons_succ]
    refine wpAnyH_take (i := 6) (v := ?_) rfl (by kernel_rfl) (by kernel_rfl) (by kernel_rfl) (fun _ _ _ h => h) (Or.inl ⟨by rfl, ?_⟩) (by assumption) ?_
    rotate_left 1
    · intro w hSw; (try dsimp only at hSw); go_simp; (try with_reducible rfl)
    simp only [Act.put, List.getElem_toArray, List.getElem_cons_zero, List.getElem_cons_succ, List.setIfInBounds_toArray, List.set_cons_zero, List.set_cons_succ]
    refine wpAnyH_take (i := 7) (v := ?_) rfl (by kernel_rfl) (by kernel_rfl) (by kernel_rfl) (fun _ _ _ h => h) (Or.inl ⟨by rfl, ?_⟩) (by assumption) ?_
    rotate_left 1
    · intro w hSw; (try dsimp only at hSw); go_simp; (try with_reducible rfl)
    simp only [Act.put, List.getElem_toArray, List.getElem_cons_zero, List.getElem_cons_succ, List.setIfInBounds_toArray, List.set_cons_zero, List.set_cons_succ]
    refine wpAnyH_take (i := 9) (v := ?_) rfl (by kernel_rfl) (by kernel_rfl) (by kernel_rfl) (fun _ _ _ h => h) (Or.inl ⟨by rfl, ?_⟩) (by assumption) ?_
    rotate_left 1
    · intro w hSw; (try dsimp only at hSw); go_simp; (try with_reducible rfl)
    simp only [Act.put, List.getElem_toArray, List.getElem_cons_zero, List.getElem_cons_succ, List.setIfInBounds_toArray, List.set_cons_zero, List.set_cons_succ]
    refine wpAnyH_ready (rs := [8]) (by kernel_rfl) (by simp) ?_
    refine AllReadyH.cons rfl (fun K hK => ?_) AllReadyH.nil
    go_simp
    refine (wMay ca1 cb1 cd1 ce1 cs1 w9).mono ?_
    rintro x1 w10 ⟨rfl, hb⟩
    rw [HY.out]
    replace P := Lib.hid (P.out.to hb)
    replace Q := Lib.hid (Q.out.to hb)
    replace B := Lib.hid (B.out.trans (hb.mono B.out.size))
    clear hb
    go_wp2_with fail
    refine hK.out _ _ (⟨P.out.six, Q.out.six⟩) (fun hHeld => ?_)
    clear hK K
    refine wpAnyH_take (i := 10) (v := ?_) rfl (by kernel_rfl) (by kernel_rfl) (by kernel_rfl) (fun _ _ _ h => h) (Or.inl ⟨by rfl, ?_⟩) (by assumption) ?_
    rotate_left 1
    · intro w hSw; (try dsimp only at hSw); go_simp; (try with_reducible rfl)
    simp only [Act.put, List.getElem_toArray, List.getElem_cons_zero, List.getElem_cons_succ, List.setIfInBounds_toArray, List.set_cons_zero, List.set_cons_succ]
    refine wpAnyH_take (i := 11) (v := ?_) rfl (by kernel_rfl) (by kernel_rfl) (by kernel_rfl) (fun _ _ _ h => h) (Or.inl ⟨by rfl, ?_⟩) (by assumption) ?_
    rotate_left 1
    · intro w hSw; (try dsimp only at hSw); go_simp; (try with_reducible rfl)
    simp only [Act.put, List.getElem_toArray, List.getElem_cons_zero, List.getElem_cons_succ, List.setIfInBounds_toArray, List.set_cons_zero, List.set_cons_succ]
    refine wpAnyH_take (i := 12) (v := ?_) rfl (by kernel_rfl) (by kernel_rfl) (by kernel_rfl) (fun _ _ _ h => h) (Or.inl ⟨by rfl, ?_⟩) (by assumption) ?_
    rotate_left 1
    · intro w hSw; (try dsimp only at hSw); go_simp; (try with_reducible rfl)
    simp only [Act.put, List.getElem_toArray, List.getElem_cons_zero, List.getElem_cons_succ, List.setIfInBounds_toArray, List.set_cons_zero, List.set_cons_succ]
    refine wpAnyH_take (i := 13) (v := ?_) rfl (by kernel_rfl) (by kernel_rfl) (by kernel_rfl) (fun _ _ _ h => h) (Or.inl ⟨by rfl, ?_⟩) (by assumption) ?_
    rotate_left 1
    · intro w hSw; (try dsimp only at hSw); go_simp; (try with_reducible rfl)
    simp only [Act.put, List.getElem_toArray, List.getElem_cons_zero, List.getElem_cons_succ, List.setIfInBounds_toArray, List.set_cons_zero, List.set_cons_succ]
    refine wpAnyH_take (i := 15) (v := ?_) rfl (by kernel_rfl) (by kernel_rfl) (by kernel_rfl) (fun _ _ _ h => h) (Or.inl ⟨by rfl, ?_⟩) (by assumption) ?_
    rotate_left 1
    · intro w hSw; (try dsimp only at hSw); go_simp; (try with_reducible rfl)
    simp only [Act.put, List.getElem_toArray, List.getElem_cons_zero, List.getElem_cons_succ, List.setIfInBounds_toArray, List.set_cons_zero, List.set_cons_succ]
    refine wpAnyH_ready (rs := [14]) (by kernel_rfl) (by simp) ?_
    refine AllReadyH.cons rfl (fun K hK => ?_) AllReadyH.nil
    go_simp
    refine (wMayQ ca1 cb1 cd1 ce1 cs1 a1 len1 cap1 bss1 w10 ((S1.out.belowX B.out).moreX B.out.size) HN1.out).mono ?_
    rintro x1 w11 ⟨rfl, hb⟩
    rw [HV.out]
    replace P := Lib.hid (P.out.to hb)
    replace Q := Lib.hid (Q.out.to hb)
    replace B := Lib.hid (B.out.trans (hb.mono B.out.size))
    clear hb
    go_wp2_with fail
    refine hK.out _ _ (⟨P.out.six, Q.out.six⟩) (fun hHeld => ?_)
    clear hK K
    refine wpAnyH_ready (rs := [16]) (by kernel_rfl) (by simp) ?_
    refine AllReadyH.cons rfl (fun K hK => ?_) AllReadyH.nil
    go_simp
    refine (rMayQ ca1 cb1 cd1 ce1 cs1 a1 len1 cap1 bss1 w11 ((S1.out.belowX B.out).moreX B.out.size) HN1.out).mono ?_
    rintro x1 w12 ⟨rfl, hb⟩
    rw [HV.out]
    replace P := Lib.hid (P.out.to hb)
    replace Q := Lib.hid (Q.out.to hb)
    replace B := Lib.hid (B.out.trans (hb.mono B.out.size))
    clear hb
    go_wp2_with fail
    refine hK.out _ _ (⟨P.out.six, Q.out.six⟩) (fun hHeld => ?_)
    clear hK K
    refine wpAnyH_take (i := 17) (v := ?_) rfl (by kernel_rfl) (by kernel_rfl) (by kernel_rfl) (fun _ _ _ h => h) (Or.inl ⟨by rfl, ?_⟩) (by assumption) ?_
    rotate_left 1
    · intro w hSw; (try dsimp only at hSw); go_simp; (try with_reducible rfl)
    simp only [Act.put, List.getElem_toArray, List.getElem_cons_zero, List.getElem_cons_succ, List.setIfInBounds_toArray, List.set_cons_zero, List.set_cons_succ]
    refine wpAnyH_take (i := 18) (v := ?_) rfl (by kernel_rfl) (by kernel_rfl) (by kernel_rfl) (fun _ _ _ h => h) (Or.inl ⟨by rfl, ?_⟩) (by assumption) ?_
    rotate_left 1
    · intro w hSw; (try dsimp only at hSw); go_simp; (try with_reducible rfl)
    simp only [Act.put, List.getElem_toArray, List.getElem_cons_zero, List.getElem_cons_succ, List.setIfInBounds_toArray, List.set_cons_zero, List.set_cons_succ]
    refine wpAnyH_take (i := 19) (v := ?_) rfl (by kernel_rfl) (by kernel_rfl) (by kernel_rfl) (fun _ _ _ h => h) (Or.inl ⟨by rfl, ?_⟩) (by assumption) ?_
    rotate_left 1
    · intro w hSw; (try dsimp only at hSw); go_simp; (try with_reducible rfl)
    simp only [Act.put, List.getElem_toArray, List.getElem_cons_zero, List.getElem_cons_succ, List.setIfInBounds_toArray, List.set_cons_zero, List.set_cons_succ]
    refine wpAnyH_take (i := 20) (v := ?_) rfl (by kernel_rfl) (by kernel_rfl) (by kernel_rfl) (fun _ _ _ h => h) (Or.inl ⟨by rfl, ?_⟩) (by assumption) ?_
    rotate_left 1
    · intro w hSw; (try dsimp only at hSw); go_simp; (try with_reducible rfl)
    simp only [Act.put, List.getElem_toArray, List.getElem_cons_zero, List.getElem_cons_succ, List.setIfInBounds_toArray, List.set_cons_zero, List.set_cons_succ]
    refine wpAnyH_take (i := 21) (v := ?_) rfl (by kernel_rfl) (by kernel_rfl) (by kernel_rfl) (fun _ _ _ h => h) (Or.inl ⟨by rfl, ?_⟩) (by assumption) ?_
    rotate_left 1
    · intro w hSw; (try dsimp only at hSw); go_simp; (try with_reducible rfl)
    simp only [Act.put, List.getElem_toArray, List.getElem_cons_zero, List.getElem_cons_succ, List.setIfInBounds_toArray, List.set_cons_zero, List.set_cons_succ]
    refine wpAnyH_take (i := 23) (v := ?_) rfl (by kernel_rfl) (by kernel_rfl) (by kernel_rfl) (fun _ _ _ h => h) (Or.inl ⟨by rfl, ?_⟩) (by assumption) ?_
    rotate_left 1
    · intro w hSw; (try dsimp only at hSw); go_simp; (try with_reducible rfl)
    simp only [Act.put, List.getElem_toArray, List.getElem_cons_zero, List.getElem_cons_succ, List.setIfInBounds_toArray, List.set_cons_zero, List.set_cons_succ]
    refine wpAnyH_take (i := 24) (v := ?_) rfl (by kernel_rfl) (by kernel_rfl) (by kernel_rfl) (fun _ _ _ h => h) (Or.inl ⟨by rfl, ?_⟩) (by assumption) ?_
    rotate_left 1
    · intro w hSw; (try dsimp only at hSw); go_simp; (try with_reducible rfl)
    simp only [Act.put, List.getElem_toArray, List.getElem_cons_zero, List.getElem_cons_succ, List.setIfInBounds_toArray, List.set_cons_zero, List.set_cons_succ]
    refine wpAnyH_ready (rs := [22]) (by kernel_rfl) (by simp) ?_
    refine AllReadyH.cons rfl (fun K hK => ?_) AllReadyH.nil
    go_simp
    refine (wSameQ ca1 cb1 cd1 ce1 cs1 ca2 cb2 cd2 ce2 cs2 a1 a2 len1 len2 cap1 cap2 bss1 bss2 w12 ((S1.out.belowX B.out).moreX B.out.size) ((S2.out.belowX B.out).moreX B.out.size) HN1.out).mono ?_
    rintro x1 w13 ⟨rfl, hb⟩
    rw [HU.out]
    replace P := Lib.hid (P.out.to hb)
    replace Q := Lib.hid (Q.out.to hb)
    replace B := Lib.hid (B.out.trans (hb.mono B.out.size))
    clear hb
    go_wp2_with fail
    refine hK.out _ _ (⟨P.out.six, Q.out.six⟩) (fun hHeld => ?_)
    clear hK K
    refine wpAnyH_ready (rs := [25]) (by kernel_rfl) (by simp) ?_
    refine AllReadyH.cons rfl (fun K hK => ?_) AllReadyH.nil
    go_simp
    refine (rSameQ ca1 cb1 cd1 ce1 cs1 ca2 cb2 cd2 ce2 cs2 a1 a2 len1 len2 cap1 cap2 bss1 bss2 w13 ((S1.out.belowX B.out).moreX B.out.size) ((S2.out.belowX B.out).moreX B.out.size) HN1.out).mono ?_
    rintro x1 w14 ⟨rfl, hb⟩
    rw [HU.out]
    replace P := Lib.hid (P.out.to hb)
    replace Q := Lib.hid (Q.out.to hb)
    replace B := Lib.hid (B.out.trans (hb.mono B.out.size))
    clear hb
    go_wp2_with fail
    refine hK.out _ _ (⟨P.out.six, Q.out.six⟩) (fun hHeld => ?_)
    clear hK K
    refine wpAnyH_take (i := 26) (v := ?_) rfl (by kernel_rfl) (by kernel_rfl) (by kernel_rfl) (fun _ _ _ h => h) (Or.inl ⟨by rfl, ?_⟩) (by assumption) ?_
    rotate_left 1
    · intro w hSw; (try dsimp only at hSw); go_simp; (try with_reducible rfl)
    simp only [Act.put, List.getElem_toArray, List.getElem_cons_zero, List.getElem_cons_succ, List.setIfInBounds_toArray, List.set_cons_zero, List.set_cons_succ]
    refine wpAnyH_take (i := 27) (v := ?_) rfl (by kernel_rfl) (by kernel_rfl) (by kernel_rfl) (fun _ _ _ h => h) (Or.inl ⟨by rfl, ?_⟩) (by assumption) ?_
    rotate_left 1
    · intro w hSw; (try dsimp only at hSw); go_simp; (try with_reducible rfl)
    simp only [Act.put, List.getElem_toArray, List.getElem_cons_zero, List.getElem_cons_succ, List.setIfInBounds_toArray, List.set_cons_zero, List.set_cons_succ]
    refine wpAnyH_take (i := 28) (v := ?_) rfl (by kernel_rfl) (by kernel_rfl) (by kernel_rfl) (fun _ _ _ h => h) (Or.inl ⟨by rfl, ?_⟩) (by assumption) ?_
    rotate_left 1
    · intro w hSw; (try dsimp only at hSw); go_simp; (try with_reducible rfl)
    simp only [Act.put, List.getElem_toArray, List.getElem_cons_zero, List.getElem_cons_succ, List.setIfInBounds_toArray, List.set_cons_zero, List.set_cons_succ]
    refine wpAnyH_take (i := 29) (v := ?_) rfl (by kernel_rfl) (by kernel_rfl) (by kernel_rfl) (fun _ _ _ h => h) (Or.inl ⟨by rfl, ?_⟩) (by assumption) ?_
    rotate_left 1
    · intro w hSw; (try dsimp only at hSw); go_simp; (try with_reducible rfl)
    simp only [Act.put, List.getElem_toArray, List.getElem_cons_zero, List.getElem_cons_succ, List.setIfInBounds_toArray, List.set_cons_zero, List.set_cons_succ]
    refine wpAnyH_take (i := 30) (v := ?_) rfl (by kernel_rfl) (by kernel_rfl) (by kernel_rfl) (fun _ _ _ h => h) (Or.inl ⟨by rfl, ?_⟩) (by assumption) ?_
    rotate_left 1
    · intro w hSw; (try dsimp only at hSw); go_simp; (try with_reducible rfl)
    simp only [Act.put, List.getElem_toArray, List.getElem_cons_zero, List.getElem_cons_succ, List.setIfInBounds_toArray, List.set_cons_zero, List.set_cons_succ]
    refine wpAnyH_ready (rs := [31]) (by kernel_rfl) (by simp) ?_
    refine AllReadyH.cons rfl (fun K hK => ?_) AllReadyH.nil
    go_simp
    refine (lCopied ca1 cb1 cd1 ce1 cs1 a1 len1 cap1 bss1 w14 ((S1.out.belowX B.out).moreX B.out.size) HN20.out HSM1.out.2).mono ?_
    rintro x1 w15 ⟨A15, k15, rfl, hO, hk, hk', hb⟩
    simp only [quA]
    have O15 := Lib.hid hO
    replace P := Lib.hid (P.out.to hb)
    replace Q := Lib.hid (Q.out.to hb)
    replace B := Lib.hid (B.out.trans (hb.mono B.out.size))
    clear hO hk hk' hb
    go_wp2_with fail
    refine hK.out _ _ (⟨P.out.six, Q.out.six⟩) (fun hHeld => ?_)
    clear hK K
    refine wpAnyH_ready (rs := [32]) (by kernel_rfl) (by simp) ?_
    refine AllReadyH.cons rfl (fun K hK => ?_) AllReadyH.nil
    go_simp
    refine (wSameQ ca1 cb1 cd1 ce1 cs1 ca1 cb1 cd1 ce1 cs1 a1 A15 len1 len1 cap1 k15 bss1 bss1 w15 ((S1.out.belowX B.out).moreX B.out.size) (O15.out.copy HLL1.out) HN1.out).mono ?_
    rintro x1 w16 ⟨rfl, hb⟩
    rw [show (eqC ⟨ca1, cb1, cd1, ce1, cs1⟩ ⟨ca1, cb1, cd1, ce1, cs1⟩ && decide (bss1 = bss1)) = true from by simp [eqC]]
    replace P := Lib.hid (P.out.to hb)
    replace Q := Lib.hid (Q.out.to hb)
    replace B := Lib.hid (B.out.trans (hb.mono B.out.size))
    clear hb
    go_wp2_with fail
    refine hK.out _ _ (⟨P.out.six, Q.out.six⟩) (fun hHeld => ?_)
    clear hK K
    refine wpAnyH_take (i := 33) (v := ?_) rfl (by kernel_rfl) (by kernel_rfl) (by kernel_rfl) (fun _ _ _ h => h) (Or.inl ⟨by rfl, ?_⟩) (by assumption) ?_
    rotate_left 1
    · intro w hSw; (try dsimp only at hSw); go_simp; (try with_reducible rfl)
    simp only [Act.put, List.getElem_toArray, List.getElem_cons_zero, List.getElem_cons_succ, List.setIfInBounds_toArray, List.set_cons_zero, List.set_cons_succ]
    refine wpAnyH_take (i := 34) (v := ?_) rfl (by kernel_rfl) (by kernel_rfl) (by kernel_rfl) (fun _ _ _ h => h) (Or.inl ⟨by rfl, ?_⟩) (by assumption) ?_
    rotate_left 1
    · intro w hSw; (try dsimp only at hSw); go_simp; (try with_reducible rfl)
    simp only [Act.put, List.getElem_toArray, List.getElem_cons_zero, List.getElem_cons_succ, List.setIfInBounds_toArray, List.set_cons_zero, List.set_cons_succ]
    refine wpAnyH_ready (rs := [35]) (by kernel_rfl) (by simp) ?_
    refine AllReadyH.cons rfl (fun K hK => ?_) AllReadyH.nil
    go_simp
    refine (awake w16).mono ?_
    rintro x1 w17 ⟨rfl, hb⟩
    replace P := Lib.hid (P.out.to hb)
    replace Q := Lib.hid (Q.out.to hb)
    replace B := Lib.hid (B.out.trans (hb.mono B.out.size))
    clear hb
    go_wp2_with fail
    refine hK.out _ _ (⟨P.out.six, Q.out.six⟩) (fun hHeld => ?_)
    clear hK K
    refine wpAnyH_take (i := 36) (v := ?_) rfl (by kernel_rfl) (by kernel_rfl) (by kernel_rfl) (fun _ _ _ h => h) (Or.inl ⟨by rfl, ?_⟩) (by assumption) ?_
    rotate_left 1
    · intro w hSw; (try dsimp only at hSw); go_simp; (try with_reducible rfl)
    simp only [Act.put, List.getElem_toArray, List.getElem_cons_zero, List.getElem_cons_succ, List.setIfInBounds_toArray, List.set_cons_zero, List.set_cons_succ]
    refine wpAnyH_take (i := 37) (v := ?_) rfl (by kernel_rfl) (by kernel_rfl) (by kernel_rfl) (fun _ _ _ h => h) (Or.inl ⟨by rfl, ?_⟩) (by assumption) ?_
    rotate_left 1
    · intro w hSw; (try dsimp only at hSw); go_simp; (try with_reducible rfl)
    simp only [Act.put, List.getElem_toArray, List.getElem_cons_zero, List.getElem_cons_succ, List.setIfInBounds_toArray, List.set_cons_zero, List.set_cons_succ]
    refine wpAnyH_done (by kernel_rfl) ?_ _
    clear hHeld
    go_wp2_with fail
    go_ret
    exact ⟨rfl, B.out⟩
  · have h1 := HX.out
    have h2 := HE.out
    unfold newC at h1
    unfold newE at h2
    rw [HY.out] at h1 h2
    simp only [if_true, Ch.mk.injEq] at h1 h2
    obtain ⟨rfl, rfl, rfl, rfl, rfl⟩ := h1
    subst h2
    go_wp2_with fail
    clear hgd heq heqs x0 x1 x2 x3 x4 x5 z0 z1 z2 z3 z4 z5 hI
    obtain ⟨EA, hEA⟩ : ∃ EA, allE l0 = EA := ⟨_, rfl⟩
    obtain ⟨V, hV⟩ : ∃ V, mayQ ⟨ca1, cb1, cd1, ce1, cs1⟩ bss1 = V := ⟨_, rfl⟩
    obtain ⟨U, hU⟩ : ∃ U, (eqC ⟨ca1, cb1, cd1, ce1, cs1⟩ ⟨ca2, cb2, cd2, ce2, cs2⟩ && decide (bss1 = bss2)) = U := ⟨_, rfl⟩
    have HEA := Lib.hid hEA
    have HV := Lib.hid hV
    have HU := Lib.hid hU
    clear hEA hV hU
    obtain ⟨wd, hwd⟩ : ∃ wd, w7.drew = wd := ⟨_, rfl⟩
    refine wp_region_held_drew (S := (fun w' => (w'.cell? ⟨w.heap.size, 0, none⟩ = some (.int .i64 ca1) ∧ w'.cell? ⟨w.heap.size, 1, none⟩ = some (.int .i64 cb1) ∧ w'.cell? ⟨w.heap.size, 2, none⟩ = some (.int .i64 cd1) ∧ w'.cell? ⟨w.heap.size, 3, none⟩ = some (.int .i64 ce1) ∧ w'.cell? ⟨w.heap.size, 4, none⟩ = some (.int .i64 cs1) ∧ w'.cell? ⟨w.heap.size, 5, none⟩ = some (.slice a1 len1 cap1)) ∧ w'.cell? ⟨w.heap.size + 1, 0, none⟩ = some (.int .i64 ca2) ∧ w'.cell? ⟨w.heap.size + 1, 1, none⟩ = some (.int .i64 cb2) ∧ w'.cell? ⟨w.heap.size + 1, 2, none⟩ = some (.int .i64 cd2) ∧ w'.cell? ⟨w.heap.size + 1, 3, none⟩ = some (.int .i64 ce2) ∧ w'.cell? ⟨w.heap.size + 1, 4, none⟩ = some (.int .i64 cs2) ∧ w'.cell? ⟨w.heap.size + 1, 5, none⟩ = some (.slice a2 len2 cap2))) (by kernel_rfl) (⟨P.out.six, Q.out.six⟩) (fun hHeld => ?_)
    replace P : Hid (Qx wd w.heap.size ⟨ca1, cb1, cd1, ce1, cs1⟩ (.slice a1 len1 cap1)) := by rw [← hwd]; exact P.out.to ((Below.refl _ _).drew)
    replace Q : Hid (Qx wd (w.heap.size + 1) ⟨ca2, cb2, cd2, ce2, cs2⟩ (.slice a2 len2 cap2)) := by rw [← hwd]; exact Q.out.to ((Below.refl _ _).drew)
    replace B : Hid (Below w.heap.size w wd) := by rw [← hwd]; exact B.out.drew
    rw [hwd] at hHeld ⊢
    clear hwd
    refine wpAnyH_take (i := 0) (v := ?_) rfl (by kernel_rfl) (by kernel_rfl) (by kernel_rfl) (fun _ _ _ h => h) (Or.inl ⟨by rfl, ?_⟩) (by assumption) ?_
    rotate_left 1
    · intro w hSw; (try dsimp only at hSw); go_simp; (try with_reducible rfl)
    simp only [Act.put, List.getElem_toArray, List.getElem_cons_zero, List.getElem_cons_succ, List.setIfInBounds_toArray, List.set_cons_zero, List.set_cons_succ]
    refine wpAnyH_take (i := 2) (v := ?_) rfl (by kernel_rfl) (by kernel_rfl) (by kernel_rfl) (fun _ _ _ h => h) (Or.inl ⟨by rfl, ?_⟩) (by assumption) ?_
    rotate_left 1
    · intro w hSw; (try dsimp only at hSw); go_simp; (try with_reducible rfl)
    simp only [Act.put, List.getElem_toArray, List.getElem_cons_zero, List.getElem_cons_succ, List.setIfInBounds_toArray, List.set_cons_zero, List.set_cons_succ]
    refine wpAnyH_ready (rs := [1]) (by kernel_rfl) (by simp) ?_
    refine AllReadyH.cons rfl (fun K hK => ?_) AllReadyH.nil
    go_simp
    refine (wAll a0 len0 cap0 l0 wd (rdC_more (C0.out.below B.out) B.out.size) H20.out).mono ?_
    rintro x1 w8 ⟨rfl, hb⟩
    rw [HEA.out]
    replace P := Lib.hid (P.out.to hb)
    replace Q := Lib.hid (Q.out.to hb)
    replace B := Lib.hid (B.out.trans (hb.mono B.out.size))
    clear hb
    go_wp2_with fail
    refine hK.out _ _ (⟨P.out.six, Q.out.six⟩) (fun hHeld => ?_)
    clear hK K
    refine wpAnyH_ready (rs := [3]) (by kernel_rfl) (by simp) ?_
    refine AllReadyH.cons rfl (fun K hK => ?_) AllReadyH.nil
    go_simp
    refine (rAll a0 len0 cap0 l0 w8 (rdC_more (C0.out.below B.out) B.out.size) H20.out).mono ?_
    rintro x1 w9 ⟨rfl, hb⟩
    rw [HEA.out]
    replace P := Lib.hid (P.out.to hb)
    replace Q := Lib.hid (Q.out.to hb)
    replace B := Lib.hid (B.out.trans (hb.mono B.out.size))
    clear hb
    go_wp2_with fail
    refine hK.out _ _ (⟨P.out.six, Q.out.six⟩) (fun hHeld => ?_)
    clear hK K
    refine wpAnyH_take (i := 4) (v := ?_) rfl (by kernel_rfl) (by kernel_rfl) (by kernel_rfl) (fun _ _ _ h => h) (Or.inl ⟨by rfl, ?_⟩) (by assumption) ?_
    rotate_left 1
    · intro w hSw; (try dsimp only at hSw); go_simp; (try with_reducible rfl)
    simp only [Act.put, List.getElem_toArray, List.getElem_cons_zero, List.getElem_cons_succ, List.setIfInBounds_toArray, List.set_cons_zero, List.set_cons_succ]
    refine wpAnyH_take (i := 5) (v := ?_) rfl (by kernel_rfl) (by kernel_rfl) (by kernel_rfl) (fun _ _ _ h => h) (Or.inl ⟨by rfl, ?_⟩) (by assumption) ?_
    rotate_left 1
    · intro w hSw; (try dsimp only at hSw); go_simp; (try with_reducible rfl)
    simp only [Act.put, List.getElem_toArray, List.getElem_cons_zero, List.getElem_cons_succ, List.setIfInBounds_toArray, List.set_cons_zero, List.set_cons_succ]
    refine wpAnyH_take (i := 6) (v := ?_) rfl (by kernel_rfl) (by kernel_rfl) (by kernel_rfl) (fun _ _ _ h => h) (Or.inl ⟨by rfl, ?_⟩) (by assumption) ?_
    rotate_left 1
    · intro w hSw; (try dsimp only at hSw); go_simp; (try with_reducible rfl)
    simp only [Act.put, List.getElem_toArray, List.getElem_cons_zero, List.getElem_cons_succ, List.setIfInBounds_toArray, List.set_cons_zero, List.set_cons_succ]
    refine wpAnyH_take (i := 7) (v := ?_) rfl (by kernel_rfl) (by kernel_rfl) (by kernel_rfl) (fun _ _ _ h => h) (Or.inl ⟨by rfl, ?_⟩) (by assumption) ?_
    rotate_left 1
    · intro w hSw; (try dsimp only at hSw); go_simp; (try with_reducible rfl)
    simp only [Act.put, List.getElem_toArray, List.getElem_cons_zero, List.getElem_cons_succ, List.setIfInBounds_toArray, List.set_cons_zero, List.set_cons_succ]
    refine wpAnyH_take (i := 9) (v := ?_) rfl (by kernel_rfl) (by kernel_rfl) (by kernel_rfl) (fun _ _ _ h => h) (Or.inl ⟨by rfl, ?_⟩) (by assumption) ?_
    rotate_left 1
    · intro w hSw; (try dsimp only at hSw); go_simp; (try with_reducible rfl)
    simp only [Act.put, List.getElem_toArray, List.getElem_cons_zero, List.getElem_cons_succ, List.setIfInBounds_toArray, List.set_cons_zero, List.set_cons_succ]
    refine wpAnyH_ready (rs := [8]) (by kernel_rfl) (by simp) ?_
    refine AllReadyH.cons rfl (fun K hK => ?_) AllReadyH.nil
    go_simp
    refine (wMay ca1 cb1 cd1 ce1 cs1 w9).mono ?_
    rintro x1 w10 ⟨rfl, hb⟩
    rw [HY.out]
    replace P := Lib.hid (P.out.to hb)
    replace Q := Lib.hid (Q.out.to hb)
    replace B := Lib.hid (B.out.trans (hb.mono B.out.size))
    clear hb
    go_wp2_with fail
    refine hK.out _ _ (⟨P.out.six, Q.out.six⟩) (fun hHeld => ?_)
    clear hK K
    refine wpAnyH_take (i := 10) (v := ?_) rfl (by kernel_rfl) (by kernel_rfl) (by kernel_rfl) (fun _ _ _ h => h) (Or.inl ⟨by rfl, ?_⟩) (by assumption) ?_
    rotate_left 1
    · intro w hSw; (try dsimp only at hSw); go_simp; (try with_reducible rfl)
    simp only [Act.put, List.getElem_toArray, List.getElem_cons_zero, List.getElem_cons_succ, List.setIfInBounds_toArray, List.set_cons_zero, List.set_cons_succ]
    refine wpAnyH_take (i := 11) (v := ?_) rfl (by kernel_rfl) (by kernel_rfl) (by kernel_rfl) (fun _ _ _ h => h) (Or.inl ⟨by rfl, ?_⟩) (by assumption) ?_
    rotate_left 1
    · intro w hSw; (try dsimp only at hSw); go_simp; (try with_reducible rfl)
    simp only [Act.put, List.getElem_toArray, List.getElem_cons_zero, List.getElem_cons_succ, List.setIfInBounds_toArray, List.set_cons_zero, List.set_cons_succ]
    refine wpAnyH_take (i := 12) (v := ?_) rfl (by kernel_rfl) (by kernel_rfl) (by kernel_rfl) (fun _ _ _ h => h) (Or.inl ⟨by rfl, ?_⟩) (by assumption) ?_
    rotate_left 1
    · intro w hSw; (try dsimp only at hSw); go_simp; (try with_reducible rfl)
    simp only [Act.put, List.getElem_toArray, List.getElem_cons_zero, List.getElem_cons_succ, List.setIfInBounds_toArray, List.set_cons_zero, List.set_cons_succ]
    refine wpAnyH_take (i := 13) (v := ?_) rfl (by kernel_rfl) (by kernel_rfl) (by kernel_rfl) (fun _ _ _ h => h) (Or.inl ⟨by rfl, ?_⟩) (by assumption) ?_
    rotate_left 1
    · intro w hSw; (try dsimp only at hSw); go_simp; (try with_reducible rfl)
    simp only [Act.put, List.getElem_toArray, List.getElem_cons_zero, List.getElem_cons_succ, List.setIfInBounds_toArray, List.set_cons_zero, List.set_cons_succ]
    refine wpAnyH_take (i := 15) (v := ?_) rfl (by kernel_rfl) (by kernel_rfl) (by kernel_rfl) (fun _ _ _ h => h) (Or.inl ⟨by rfl, ?_⟩) (by assumption) ?_
    rotate_left 1
    · intro w hSw; (try dsimp only at hSw); go_simp; (try with_reducible rfl)
    simp only [Act.put, List.getElem_toArray, List.getElem_cons_zero, List.getElem_cons_succ, List.setIfInBounds_toArray, List.set_cons_zero, List.set_cons_succ]
    refine wpAnyH_ready (rs := [14]) (by kernel_rfl) (by simp) ?_
    refine AllReadyH.cons rfl (fun K hK => ?_) AllReadyH.nil
    go_simp
    refine (wMayQ ca1 cb1 cd1 ce1 cs1 a1 len1 cap1 bss1 w10 ((S1.out.belowX B.out).moreX B.out.size) HN1.out).mono ?_
    rintro x1 w11 ⟨rfl, hb⟩
    rw [HV.out]
    replace P := Lib.hid (P.out.to hb)
    replace Q := Lib.hid (Q.out.to hb)
    replace B := Lib.hid (B.out.trans (hb.mono B.out.size))
    clear hb
    go_wp2_with fail
    refine hK.out _ _ (⟨P.out.six, Q.out.six⟩) (fun hHeld => ?_)
    clear hK K
    refine wpAnyH_ready (rs := [16]) (by kernel_rfl) (by simp) ?_
    refine AllReadyH.cons rfl (fun K hK => ?_) AllReadyH.nil
    go_simp
    refine (rMayQ ca1 cb1 cd1 ce1 cs1 a1 len1 cap1 bss1 w11 ((S1.out.belowX B.out).moreX B.out.size) HN1.out).mono ?_
    rintro x1 w12 ⟨rfl, hb⟩
    rw [HV.out]
    replace P := Lib.hid (P.out.to hb)
    replace Q := Lib.hid (Q.out.to hb)
    replace B := Lib.hid (B.out.trans (hb.mono B.out.size))
    clear hb
    go_wp2_with fail
    refine hK.out _ _ (⟨P.out.six, Q.out.six⟩) (fun hHeld => ?_)
    clear hK K
    refine wpAnyH_take (i := 17) (v := ?_) rfl (by kernel_rfl) (by kernel_rfl) (by kernel_rfl) (fun _ _ _ h => h) (Or.inl ⟨by rfl, ?_⟩) (by assumption) ?_
    rotate_left 1
    · intro w hSw; (try dsimp only at hSw); go_simp; (try with_reducible rfl)
    simp only [Act.put, List.getElem_toArray, List.getElem_cons_zero, List.getElem_cons_succ, List.setIfInBounds_toArray, List.set_cons_zero, List.set_cons_succ]
    refine wpAnyH_take (i := 18) (v := ?_) rfl (by kernel_rfl) (by kernel_rfl) (by kernel_rfl) (fun _ _ _ h => h) (Or.inl ⟨by rfl, ?_⟩) (by assumption) ?_
    rotate_left 1
    · intro w hSw; (try dsimp only at hSw); go_simp; (try with_reducible rfl)
    simp only [Act.put, List.getElem_toArray, List.getElem_cons_zero, List.getElem_cons_succ, List.setIfInBounds_toArray, List.set_cons_zero, List.set_cons_succ]
    refine wpAnyH_take (i := 19) (v := ?_) rfl (by kernel_rfl) (by kernel_rfl) (by kernel_rfl) (fun _ _ _ h => h) (Or.inl ⟨by rfl, ?_⟩) (by assumption) ?_
    rotate_left 1
    · intro w hSw; (try dsimp only at hSw); go_simp; (try with_reducible rfl)
    simp only [Act.put, List.getElem_toArray, List.getElem_cons_zero, List.getElem_cons_succ, List.setIfInBounds_toArray, List.set_cons_zero, List.set_cons_succ]
    refine wpAnyH_take (i := 20) (v := ?_) rfl (by kernel_rfl) (by kernel_rfl) (by kernel_rfl) (fun _ _ _ h => h) (Or.inl ⟨by rfl, ?_⟩) (by assumption) ?_
    rotate_left 1
    · intro w hSw; (try dsimp only at hSw); go_simp; (try with_reducible rfl)
    simp only [Act.put, List.getElem_toArray, List.getElem_cons_zero, List.getElem_cons_succ, List.setIfInBounds_toArray, List.set_cons_zero, List.set_cons_succ]
    refine wpAnyH_take (i := 21) (v := ?_) rfl (by kernel_rfl) (by kernel_rfl) (by kernel_rfl) (fun _ _ _ h => h) (Or.inl ⟨by rfl, ?_⟩) (by assumption) ?_
    rotate_left 1
    · intro w hSw; (try dsimp only at hSw); go_simp; (try with_reducible rfl)
    simp only [Act.put, List.getElem_toArray, List.getElem_cons_zero, List.getElem_cons_succ, List.setIfInBounds_toArray, List.set_cons_zero, List.set_cons_succ]
    refine wpAnyH_take (i := 23) (v := ?_) rfl (by kernel_rfl) (by kernel_rfl) (by kernel_rfl) (fun _ _ _ h => h) (Or.inl ⟨by rfl, ?_⟩) (by assumption) ?_
    rotate_left 1
    · intro w hSw; (try dsimp only at hSw); go_simp; (try with_reducible rfl)
    simp only [Act.put, List.getElem_toArray, List.getElem_cons_zero, List.getElem_cons_succ, List.setIfInBounds_toArray, List.set_cons_zero, List.set_cons_succ]
    refine wpAnyH_take (i := 24) (v := ?_) rfl (by kernel_rfl) (by kernel_rfl) (by kernel_rfl) (fun _ _ _ h => h) (Or.inl ⟨by rfl, ?_⟩) (by assumption) ?_
    rotate_left 1
    · intro w hSw; (try dsimp only at hSw); go_simp; (try with_reducible rfl)
    simp only [Act.put, List.getElem_toArray, List.getElem_cons_zero, List.getElem_cons_succ, List.setIfInBounds_toArray, List.set_cons_zero, List.set_cons_succ]
    refine wpAnyH_ready (rs := [22]) (by kernel_rfl) (by simp) ?_
    refine AllReadyH.cons rfl (fun K hK => ?_) AllReadyH.nil
    go_simp
    refine (wSameQ ca1 cb1 cd1 ce1 cs1 ca2 cb2 cd2 ce2 cs2 a1 a2 len1 len2 cap1 cap2 bss1 bss2 w12 ((S1.out.belowX B.out).moreX B.out.size) ((S2.out.belowX B.out).moreX B.out.size) HN1.out).mono ?_
    rintro x1 w13 ⟨rfl, hb⟩
    rw [HU.out]
    replace P := Lib.hid (P.out.to hb)
    replace Q := Lib.hid (Q.out.to hb)
    replace B := Lib.hid (B.out.trans (hb.mono B.out.size))
    clear hb
    go_wp2_with fail
    refine hK.out _ _ (⟨P.out.six, Q.out.six⟩) (fun hHeld => ?_)
    clear hK K
    refine wpAnyH_ready (rs := [25]) (by kernel_rfl) (by simp) ?_
    refine AllReadyH.cons rfl (fun K hK => ?_) AllReadyH.nil
    go_simp
    refine (rSameQ ca1 cb1 cd1 ce1 cs1 ca2 cb2 cd2 ce2 cs2 a1 a2 len1 len2 cap1 cap2 bss1 bss2 w13 ((S1.out.belowX B.out).moreX B.out.size) ((S2.out.belowX B.out).moreX B.out.size) HN1.out).mono ?_
    rintro x1 w14 ⟨rfl, hb⟩
    rw [HU.out]
    replace P := Lib.hid (P.out.to hb)
    replace Q := Lib.hid (Q.out.to hb)
    replace B := Lib.hid (B.out.trans (hb.mono B.out.size))
    clear hb
    go_wp2_with fail
    refine hK.out _ _ (⟨P.out.six, Q.out.six⟩) (fun hHeld => ?_)
    clear hK K
    refine wpAnyH_take (i := 26) (v := ?_) rfl (by kernel_rfl) (by kernel_rfl) (by kernel_rfl) (fun _ _ _ h => h) (Or.inl ⟨by rfl, ?_⟩) (by assumption) ?_
    rotate_left 1
    · intro w hSw; (try dsimp only at hSw); go_simp; (try with_reducible rfl)
    simp only [Act.put, List.getElem_toArray, List.getElem_cons_zero, List.getElem_cons_succ, List.setIfInBounds_toArray, List.set_cons_zero, List.set_cons_succ]
    refine wpAnyH_take (i := 27) (v := ?_) rfl (by kernel_rfl) (by kernel_rfl) (by kernel_rfl) (fun _ _ _ h => h) (Or.inl ⟨by rfl, ?_⟩) (by assumption) ?_
    rotate_left 1
    · intro w hSw; (try dsimp only at hSw); go_simp; (try with_reducible rfl)
    simp only [Act.put, List.getElem_toArray, List.getElem_cons_zero, List.getElem_cons_succ, List.setIfInBounds_toArray, List.set_cons_zero, List.set_cons_succ]
    refine wpAnyH_take (i := 28) (v := ?_) rfl (by kernel_rfl) (by kernel_rfl) (by kernel_rfl) (fun _ _ _ h => h) (Or.inl ⟨by rfl, ?_⟩) (by assumption) ?_
    rotate_left 1
    · intro w hSw; (try dsimp only at hSw); go_simp; (try with_reducible rfl)
    simp only [Act.put, List.getElem_toArray, List.getElem_cons_zero, List.getElem_cons_succ, List.setIfInBounds_toArray, List.set_cons_zero, List.set_cons_succ]
    refine wpAnyH_take (i := 29) (v := ?_) rfl (by kernel_rfl) (by kernel_rfl) (by kernel_rfl) (fun _ _ _ h => h) (Or.inl ⟨by rfl, ?_⟩) (by assumption) ?_
    rotate_left 1
    · intro w hSw; (try dsimp only at hSw); go_simp; (try with_reducible rfl)
    simp only [Act.put, List.getElem_toArray, List.getElem_cons_zero, List.getElem_cons_succ, List.setIfInBounds_toArray, List.set_cons_zero, List.set_cons_succ]
    refine wpAnyH_take (i := 30) (v := ?_) rfl (by kernel_rfl) (by kernel_rfl) (by kernel_rfl) (fun _ _ _ h => h) (Or.inl ⟨by rfl, ?_⟩) (by assumption) ?_
    rotate_left 1
    · intro w hSw; (try dsimp only at hSw); go_simp; (try with_reducible rfl)
    simp only [Act.put, List.getElem_toArray, List.getElem_cons_zero, List.getElem_cons_succ, List.setIfInBounds_toArray, List.set_cons_zero, List.set_cons_succ]
    refine wpAnyH_ready (rs := [31]) (by kernel_rfl) (by simp) ?_
    refine AllReadyH.cons rfl (fun K hK => ?_) AllReadyH.nil
    go_simp
    refine (lCopied ca1 cb1 cd1 ce1 cs1 a1 len1 cap1 bss1 w14 ((S1.out.belowX B.out).moreX B.out.size) HN20.out HSM1.out.2).mono ?_
    rintro x1 w15 ⟨A15, k15, rfl, hO, hk, hk', hb⟩
    simp only [quA]
    have O15 := Lib.hid hO
    replace P := Lib.hid (P.out.to hb)
    replace Q := Lib.hid (Q.out.to hb)
    replace B := Lib.hid (B.out.trans (hb.mono B.out.size))
    clear hO hk hk' hb
    go_wp2_with fail
    refine hK.out _ _ (⟨P.out.six, Q.out.six⟩) (fun hHeld => ?_)
    clear hK K
    refine wpAnyH_ready (rs := [32]) (by kernel_rfl) (by simp) ?_
    refine AllReadyH.cons rfl (fun K hK => ?_) AllReadyH.nil
    go_simp
    refine (wSameQ ca1 cb1 cd1 ce1 cs1 ca1 cb1 cd1 ce1 cs1 a1 A15 len1 len1 cap1 k15 bss1 bss1 w15 ((S1.out.belowX B.out).moreX B.out.size) (O15.out.copy HLL1.out) HN1.out).mono ?_
    rintro x1 w16 ⟨rfl, hb⟩
    rw [show (eqC ⟨ca1, cb1, cd1, ce1, cs1⟩ ⟨ca1, cb1, cd1, ce1, cs1⟩ && decide (bss1 = bss1)) = true from by simp [eqC]]
    replace P := Lib.hid (P.out.to hb)
    replace Q := Lib.hid (Q.out.to hb)
    replace B := Lib.hid (B.out.trans (hb.mono B.out.size))
    clear hb
    go_wp2_with fail
    refine hK.out _ _ (⟨P.out.six, Q.out.six⟩) (fun hHeld => ?_)
    clear hK K
    refine wpAnyH_take (i := 33) (v := ?_) rfl (by kernel_rfl) (by kernel_rfl) (by kernel_rfl) (fun _ _ _ h => h) (Or.inl ⟨by rfl, ?_⟩) (by assumption) ?_
    rotate_left 1
    · intro w hSw; (try dsimp only at hSw); go_simp; (try with_reducible rfl)
    simp only [Act.put, List.getElem_toArray, List.getElem_cons_zero, List.getElem_cons_succ, List.setIfInBounds_toArray, List.set_cons_zero, List.set_cons_succ]
    refine wpAnyH_take (i := 34) (v := ?_) rfl (by kernel_rfl) (by kernel_rfl) (by kernel_rfl) (fun _ _ _ h => h) (Or.inl ⟨by rfl, ?_⟩) (by assumption) ?_
    rotate_left 1
    · intro w hSw; (try dsimp only at hSw); go_simp; (try with_reducible rfl)
    simp only [Act.put, List.getElem_toArray, List.getElem_cons_zero, List.getElem_cons_succ, List.setIfInBounds_toArray, List.set_cons_zero, List.set_cons_succ]
    refine wpAnyH_ready (rs := [35]) (by kernel_rfl) (by simp) ?_
    refine AllReadyH.cons rfl (fun K hK => ?_) AllReadyH.nil
    go_simp
    refine (awake w16).mono ?_
    rintro x1 w17 ⟨rfl, hb⟩
    replace P := Lib.hid (P.out.to hb)
    replace Q := Lib.hid (Q.out.to hb)
    replace B := Lib.hid (B.out.trans (hb.mono B.out.size))
    clear hb
    go_wp2_with fail
    refine hK.out _ _ (⟨P.out.six, Q.out.six⟩) (fun hHeld => ?_)
    clear hK K
    refine wpAnyH_take (i := 36) (v := ?_) rfl (by kernel_rfl) (by kernel_rfl) (by kernel_rfl) (fun _ _ _ h => h) (Or.inl ⟨by rfl, ?_⟩) (by assumption) ?_
    rotate_left 1
    · intro w hSw; (try dsimp only at hSw); go_simp; (try with_reducible rfl)
    simp only [Act.put, List.getElem_toArray, List.getElem_cons_zero, List.getElem_cons_succ, List.setIfInBounds_toArray, List.set_cons_zero, List.set_cons_succ]
    refine wpAnyH_take (i := 37) (v := ?_) rfl (by kernel_rfl) (by kernel_rfl) (by kernel_rfl) (fun _ _ _ h => h) (Or.inl ⟨by rfl, ?_⟩) (by assumption) ?_
    rotate_left 1
    · intro w hSw; (try dsimp only at hSw); go_simp; (try with_reducible rfl)
    simp only [Act.put, List.getElem_toArray, List.getElem_cons_zero, List.getElem_cons_succ, List.setIfInBounds_toArray, List.set_cons_zero, List.set_cons_succ]
    refine wpAnyH_done (by kernel_rfl) ?_ _
    clear hHeld
    go_wp2_with fail
    go_ret
    exact ⟨rfl, B.out⟩

set_option maxRecDepth 100000 in
theorem lifted (os : Os) (started : os.Started) (H : Type) (enc : TypeId × Value → H) :
    ReturnsInHanded {} Try.checked os 5 .any (Rows.channelTellsSpec.pre6 enc Try.prog Try.f5 Rows.channelTellsRow.domain false) (Rows.channelTellsSpec.post enc Try.prog Try.f5 false true false false) := by
  refine returnsInHanded_of_change_sized (C := Try.checked) own started (by kernel_rfl) Try.func5
    (ChangeSpec.witness6 (enc := enc) (C := Try.checked) false ⟨#[], #[.slice none 0 0, .agg #[.int .i64 0, .int .i64 0, .int .i64 0, .int .i64 0, .int .i64 0, .slice none 0 0], .agg #[.int .i64 0, .int .i64 0, .int .i64 0, .int .i64 0, .int .i64 0, .slice none 0 0]], []⟩ 8 (by kernel_rfl) (by kernel_rfl) (by kernel_rfl) (by kernel_rfl)) ?_
  intro W base args ds gs before hval0 hW hcnd hsz0 _
  have hval : ∀ (j : Nat) t v, Try.f5.params[j]? = some t → args[j]? = some v → Value.okWide Try.prog W .any base t v := hval0
  have hsz : (DataW.weightsEach Try.prog (Try.f5.params.toList ++ Rows.channelTellsSpec.plain.varTypes Try.prog) (ds ++ gs)).all (· ≤ reachBytes) = true := hsz0
  have hW' := hW
  obtain ⟨p, q, hA0, hV, rfl, hfz, hnd⟩ := hW
  have hA : DataW.TrodAll enc Try.prog W 0 (fun _ => true) true Try.f5.params.toList args.toList ds p := hA0
  rw [Try.params5] at hA hval hsz
  obtain ⟨v0, vs0, d0, ds0, p0, q0, hargs, rfl, rfl, h0, r0⟩ := trodAll_cons hA
  obtain ⟨v1, vs1, d1, ds1, p1, q1, rfl, rfl, rfl, h1, r1⟩ := trodAll_cons r0
  obtain ⟨v2, vs2, d2, ds2, p2, q2, rfl, rfl, rfl, h2, r2⟩ := trodAll_cons r1
  obtain ⟨rfl, rfl, rfl⟩ := trodAll_nil r2
  obtain rfl : args = #[v0, v1, v2] := by cases args; simp_all
  obtain ⟨rfl, rfl⟩ := trodVars_none hV
  have sz1 : ∀ x ∈ d1.weights Try.prog 26, x ≤ reachBytes := fun x hx => by simpa using List.all_eq_true.1 hsz _ (DataW.weights_mem_each (j := 1) rfl rfl x hx)
  have sz2 : ∀ x ∈ d2.weights Try.prog 26, x ≤ reachBytes := fun x hx => by simpa using List.all_eq_true.1 hsz _ (DataW.weights_mem_each (j := 2) rfl rfl x hx)
  have k0 := h0
  have lt0 : ∀ x ∈ p0, x.block < W.heap.size := by obtain ⟨m, hm⟩ := k0; exact DataW.trod_lt m _ _ _ hm
  obtain ⟨a0, len0, cap0, l0, rfl, w0⟩ := open_chs (hval 0 43 v0 rfl rfl) h0
  have k1 := h1
  have lt1 : ∀ x ∈ p1, x.block < W.heap.size := by obtain ⟨m, hm⟩ := k1; exact DataW.trod_lt m _ _ _ hm
  obtain ⟨c1, a1, len1, cap1, bss1, rfl, _, w1⟩ := open_queue (hval 1 26 v1 rfl rfl) h1 sz1
  have k2 := h2
  have lt2 : ∀ x ∈ p2, x.block < W.heap.size := by obtain ⟨m, hm⟩ := k2; exact DataW.trod_lt m _ _ _ hm
  obtain ⟨c2, a2, len2, cap2, bss2, rfl, _, w2⟩ := open_queue (hval 2 26 v2 rfl rfl) h2 sz2
  clear hA0 hval0
  refine (walk a0 len0 cap0 l0 c1.id c1.fr c1.dst c1.cap c1.size a1 len1 cap1 bss1 c2.id c2.fr c2.dst c2.cap c2.size a2 len2 cap2 bss2 W w0 w1 w2).mono fun e W' ⟨he, bel⟩ => ?_
  subst he
  exact ⟨_, rfl, _, _, _, [], _, [], hW', trodAll_mk1 (shut_bool Try.underlying4 _), (trodAll_cons_mk (Below.trod laidOut (by kernel_rfl) (of_decide_eq_true (by kernel_rfl)) k0 bel lt0) (trodAll_cons_mk (Below.trod laidOut (by kernel_rfl) (of_decide_eq_true (by kernel_rfl)) k1 bel lt1) (trodAll_cons_mk (Below.trod laidOut (by kernel_rfl) (of_decide_eq_true (by kernel_rfl)) k2 bel lt2) trodAll_mk0))), rfl, bel.frame _, fun h => by cases h⟩

theorem over : Rows.channelTellsRow.holds Try.pinned (OpenSpec.ofChange Rows.channelTellsSpec) :=
  OpenClaim.holds_of_wide 5 Try.f5 rfl rfl rfl rfl rfl rfl rfl ⟨rfl, rfl, rfl, rfl, rfl⟩ rfl rfl rfl rfl rfl (by kernel_rfl) Try.func5 (by kernel_rfl)
    (of_decide_eq_true (by kernel_rfl)) (by unfold Func.isWrapper; first | (rw [if_pos (by decide +kernel)]; kernel_rfl) | (rw [if_neg (by decide +kernel)]; exact ⟨rfl, rfl⟩))
    (fun os started H enc _ => lifted os started H enc)

theorem proved : Rows.ChannelTellsSaid := over
end Go.Proofs.Ytkaobafgecoomaa.channelTells
