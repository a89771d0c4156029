/- For any channel and any steps the law ChannelOrder of citadellaw10 returns true: what is put is taken in the order in which it was put, each once, but for the eldest that went when the queue was full (at most 60 steps, messages of at most 30 bytes). Conditions: none beyond those that the statement itself prints. -/
import Derived.Test.YtkaobafgecoomaaRows
import Derived.Test.YtkaobafgecoomaaChG
import Derived.Test.YtkaobafgecoomaaStrR
import Derived.SizedLaws
import Derived.WalkKit
import Derived.ProofKit
import Derived.OpenShut
import Derived.ShutString
import Derived.ChangeOld
import Derived.Below
namespace Go.Proofs.Ytkaobafgecoomaa.channelOrder
open Go.ChangeShapes Go.WideShapes Go.ChangeAt Go.RowKit
open Go.ChangeMaps (open_string shut_string)
set_option linter.unusedVariables false
set_option linter.unusedSimpArgs false

theorem own : ownKnob Try.prog.godebug = none := by kernel_rfl
theorem laidOut : laidOutB Try.prog = true := by kernel_rfl

theorem may_nil {c : Ch} (h : mayC c = true) : mayQ c [] = true := by
  have := mayC_iff.1 h
  rw [mayQ_iff]
  exact ⟨h, by simp only [List.length_nil]; omega, by simp⟩
theorem errP_may {c : Ch} {l : List (List UInt8)} {m : List UInt8} (h : mayQ c l = true) : errP c l m = if longM c m then 3 else 0 := by
  unfold errP; rw [if_pos h]
theorem errP_long {c : Ch} {l : List (List UInt8)} {m : List UInt8} (h : mayQ c l = true) (hl : longM c m = true) : errP c l m = 3 := by rw [errP_may h, hl]; rfl
theorem errP_short {c : Ch} {l : List (List UInt8)} {m : List UInt8} (h : mayQ c l = true) (hl : longM c m = false) : errP c l m = 0 := by rw [errP_may h, hl]; rfl
theorem errT_none {c : Ch} (h : mayQ c [] = true) : errT c [] = 100 := by unfold errT; rw [if_pos h, if_pos rfl]
theorem errT_some {c : Ch} {x : List UInt8} {t : List (List UInt8)} (h : mayQ c (x :: t) = true) : errT c (x :: t) = 0 := by unfold errT; rw [if_pos h, if_neg (by simp)]
/-- A message as a string. -/
def strM (m : List UInt8) : ByteArray := strOfNums (numsOf m)
theorem strM_list (m : List UInt8) : (strM m).toList = m := by unfold strM; rw [Lib.strOfNums_toList, bytesOf_numsOf]
theorem put_full {c : Ch} {l : List (List UInt8)} {m : List UInt8} (h : mayQ c l = true) (hc : (l.length : Int) + 1 > c.cap) : ∃ x t, l = x :: t ∧ putM c l m = t ++ [m] := by
  obtain ⟨h1, h2, h3⟩ := mayQ_iff.1 h
  have h4 := mayC_iff.1 h1
  rcases l with _ | ⟨x, t⟩
  · simp only [List.length_nil] at hc; omega
  · refine ⟨x, t, rfl, ?_⟩
    unfold putM
    rw [if_pos (by omega)]; rfl
theorem put_room {c : Ch} {l : List (List UInt8)} {m : List UInt8} (h : mayQ c l = true) (hc : ¬ (l.length : Int) + 1 > c.cap) : putM c l m = l ++ [m] := by
  unfold putM
  rw [if_neg (by omega)]
set_option maxRecDepth 1000000 in
set_option maxHeartbeats 4000000 in
theorem walk (ca0 cb0 cd0 ce0 cs0 : Int) (a1 : Option Addr) (len1 cap1 : Nat) (bss1 : List (List UInt8)) (w : World) (w0 : ChWf ⟨ca0, cb0, cd0, ce0, cs0⟩) (w1 : RdS w w.heap.size a1 len1 bss1 ∧ len1 ≤ cap1 ∧ cap1 * 24 ≤ 140737488351232 ∧ ∀ bs ∈ bss1, bs.length ≤ 140737488351232) :
    Calls Try.prog 6 #[.agg #[.int .i64 ca0, .int .i64 cb0, .int .i64 cd0, .int .i64 ce0, .int .i64 cs0], .slice a1 len1 cap1] w fun e w' => e = .returned (.bool true) ∧ Below w.heap.size w w' := by
  obtain ⟨s1, hcap1, hcap124, hlens1⟩ := w1
  have S1 := Lib.hid s1
  have HLL1 := Lib.hid s1.1
  have HL1 := Lib.hid hlens1
  have hb1 := (Below.refl w.heap.size w).alloc (Nat.le_refl _) (.cells #[.int .i64 ca0, .int .i64 cb0, .int .i64 cd0, .int .i64 ce0, .int .i64 cs0] 23)
  have B := Lib.hid hb1
  have C := Lib.hid (Cx.new w ca0 cb0 cd0 ce0 cs0 23)
  obtain ⟨x0, x1, x2, x3, x4, _⟩ := C.out
  clear s1 hcap1 hcap124 hlens1 w0 hb1
  go_enter Try.func6, Try.ntmps6
  go_wp2_with fail
  generalize w.alloc (.cells #[.int .i64 ca0, .int .i64 cb0, .int .i64 cd0, .int .i64 ce0, .int .i64 cs0] 23) = w1 at *
  refine (wNew ca0 cb0 cd0 ce0 cs0 w1).mono ?_
  rintro x w2 ⟨rfl, hb⟩
  obtain ⟨X, hX⟩ : ∃ X, newC ⟨ca0, cb0, cd0, ce0, cs0⟩ = X := ⟨_, rfl⟩
  obtain ⟨pa, pb, pd, pe, ps⟩ := X
  obtain ⟨E, hE⟩ : ∃ E, newE ⟨ca0, cb0, cd0, ce0, cs0⟩ = E := ⟨_, rfl⟩
  rw [hX, hE]
  simp only [quA]
  have hb5 := (Below.refl w2.heap.size w2).alloc (Nat.le_refl _) (.cells #[.int .i64 pa, .int .i64 pb, .int .i64 pd, .int .i64 pe, .int .i64 ps, .slice none 0 0] 26)
  have C2 := Lib.hid (C.out.to hb)
  have B2 := Lib.hid (B.out.trans (hb.mono B.out.size))
  have hb45 := hb.trans (hb5.mono hb.size)
  replace C := Lib.hid (C.out.to hb45)
  replace B := Lib.hid (B.out.trans (hb45.mono B.out.size))
  have T5 := Lib.hid (QB.new w2 pa pb pd pe ps (.slice none 0 0))
  have B3 := Lib.hid hb5
  have HX := Lib.hid hX
  have HE := Lib.hid hE
  clear hb hb5 hb45 x0 x1 x2 x3 x4 hX hE
  go_upto_region 2 with (fail)
  generalize w2.alloc (.cells #[.int .i64 pa, .int .i64 pb, .int .i64 pd, .int .i64 pe, .int .i64 ps, .slice none 0 0] 26) = w3 at *
  cases hm : mayC ⟨ca0, cb0, cd0, ce0, cs0⟩
  · have h2 := HE.out
    unfold newE at h2
    rw [hm] at h2
    simp only [Bool.false_eq_true, if_false] at h2
    subst h2
    clear hm
    go_wp2_with fail
    refine (awake _).mono ?_
    rintro x w9 ⟨rfl, hb⟩
    have B9 := Lib.hid (B.out.trans (hb.mono B.out.size))
    clear hb
    go_wp2_with fail
    go_ret
    exact ⟨rfl, B9.out⟩
  have HM := Lib.hid hm
  have h1 := HX.out
  have h2 := HE.out
  unfold newC at h1
  unfold newE at h2
  rw [hm] at h1 h2
  simp only [if_true, Ch.mk.injEq] at h1 h2
  obtain ⟨rfl, rfl, rfl, rfl, rfl⟩ := h1
  subst h2
  clear hm
  by_cases h60 : 60 < len1
  · have hI : (len1 : Int) > 60 := by omega
    clear h60
    go_wp2_with fail
    refine (awake _).mono ?_
    rintro x w9 ⟨rfl, hb⟩
    have B9 := Lib.hid (B.out.trans (hb.mono B.out.size))
    clear hb
    go_wp2_with fail
    go_ret
    exact ⟨rfl, B9.out⟩
  have hI : ¬ (len1 : Int) > 60 := by omega
  have H60 : Hid (len1 ≤ 60) := Nat.not_lt.1 h60
  clear h60
  have HMB := Lib.hid (mayC_iff.1 HM.out)
  go_wp2_with fail
  clear hI
  go_loopw [7, 8, 9, 10, 11, 12, 13] (fun s7 s8 _ _ _ _ _ wr => ∃ (i : Nat) (A : Option Addr) (n k : Nat) (l : List (List UInt8)), i ≤ len1 ∧ s8 = .int .i64 (i : Int) ∧ QB wr w2.heap.size ⟨ca0, cb0, cd0, ce0, cs0⟩ (.slice A n k) ∧ n ≤ k ∧ OwS wr (w2.heap.size + 1) A n (l.map fullR) ∧ mayQ ⟨ca0, cb0, cd0, ce0, cs0⟩ l = true ∧ StrR wr (w2.heap.size + 1) s7 n (l.map strM) ∧ Below w2.heap.size w2 wr) (fun _ s8 _ _ _ _ _ _ => len1 - (intOf s8).toNat)
  case atStart => exact ⟨0, none, 0, 0, [], Nat.zero_le _, rfl, T5.out, Nat.le_refl _, OwS.nil _ _ _, may_nil HM.out, StrR.nil _ _, B3.out⟩
  case round =>
    obtain ⟨i, A, n, k, l, hi, rfl, hq, hnk, ho, hmq, hs, hb⟩ := hrel
    clear T5 B3 C
    have T := Lib.hid hq
    have HNK := Lib.hid hnk
    have O := Lib.hid ho
    have HMQ := Lib.hid hmq
    obtain ⟨Av, cv, rfl, _⟩ := hs.slice
    have ST := Lib.hid hs
    have B3 := Lib.hid hb
    have C := Lib.hid (C2.out.to hb)
    have HLN : Hid (l.length = n) := by show _ = _; have := ho.1; rwa [List.length_map] at this
    have HNS : Hid (n ≤ 4) := by (show _ ≤ _); rw [← HLN.out]; exact (mayQ_lens hmq).1
    replace B := Lib.hid (B2.out.trans (hb.mono B2.out.size))
    clear hq hnk ho hmq hs hb
    by_cases hlt : i < len1
    · have hltI : (i : Int) < (len1 : Int) := by omega
      have HLT : Hid (i < len1) := hlt
      have hwk : IntKind.i64.wrap ((i : Int) + 1) = (i : Int) + 1 := by have := H60.out; rw [IntKind.wrap_i64]; omega
      obtain ⟨bb, o, A1, m1, c1, rfl, hcw, hrw⟩ := S1.out.at_ hlt
      have HBB : Hid (bb < w.heap.size) := cell_block hcw
      have hcell := (B.out.cell (p := ⟨bb, o + i, none⟩) HBB.out).trans hcw
      have hrd := (hrw.below B.out).more B.out.size
      have HCW := Lib.hid hcw
      obtain ⟨msg, hmsg⟩ : ∃ msg, bss1.getD i [] = msg := ⟨_, rfl⟩
      rw [hmsg] at hrd hrw
      have HRW := Lib.hid hrw
      clear hcw hrw
      have HRD := Lib.hid hrd
      have HML := Lib.hid hrd.1
      have HCL := Lib.hid hcell
      clear hrd hmsg hi hlt
      by_cases h30 : 30 < m1
      · have hI : (m1 : Int) > 30 := by omega
        clear h30
        go_wp2_with fail
        refine (awake _).mono ?_
        rintro x w9 ⟨rfl, hb⟩
        have B9 := Lib.hid (B.out.trans (hb.mono B.out.size))
        clear hb
        go_wp2_with fail
        go_ret
        exact ⟨rfl, B9.out⟩
      have hI : ¬ (m1 : Int) > 30 := by omega
      have H30 : Hid (m1 ≤ 30) := Nat.not_lt.1 h30
      clear h30
      have HSB : Hid (∀ b, SBlk (.slice Av n cv) b → b < wr.heap.size) := fun b hb => (ST.out.blk hb).2
      by_cases h00 : 0 < m1
      · have hJ : (m1 : Int) > 0 := by omega
        have H00 := Lib.hid h00
        clear h00
        go_wp2_with fail
        by_cases hlong : (m1 : Int) > cs0
        · have HLG : Hid (longM ⟨ca0, cb0, cd0, ce0, cs0⟩ msg = true) := by show _ = _; unfold longM; rw [HML.out]; exact decide_eq_true hlong
          have HLO := Lib.hid hlong
          clear hlong
          have hcl := HCL.out
          obtain ⟨wd, hwd⟩ : ∃ wd, wr.drew = wd := ⟨_, rfl⟩
          refine wp_region_held_drew (S := (fun w' => (w'.cell? ⟨w2.heap.size, 0, none⟩ = some (.int .i64 ca0) ∧ w'.cell? ⟨w2.heap.size, 1, none⟩ = some (.int .i64 cb0) ∧ w'.cell? ⟨w2.heap.size, 2, none⟩ = some (.int .i64 cd0) ∧ w'.cell? ⟨w2.heap.size, 3, none⟩ = some (.int .i64 ce0) ∧ w'.cell? ⟨w2.heap.size, 4, none⟩ = some (.int .i64 cs0) ∧ w'.cell? ⟨w2.heap.size, 5, none⟩ = some (.slice A n k)) ∧ w'.cell? ⟨bb, o + i, none⟩ = some (.slice A1 m1 c1))) (by kernel_rfl) (⟨T.out.qx.six, hcl⟩) (fun hHeld => ?_)
          replace T : Hid (QB wd w2.heap.size ⟨ca0, cb0, cd0, ce0, cs0⟩ (.slice A n k)) := by rw [← hwd]; exact T.out
          replace O : Hid (OwS wd (w2.heap.size + 1) A n (l.map fullR)) := by rw [← hwd]; exact O.out.to ((Below.refl _ _).drew)
          replace ST : Hid (StrR wd (w2.heap.size + 1) (.slice Av n cv) n (l.map strM)) := by rw [← hwd]; exact ST.out.to ((Below.refl _ _).drew)
          replace B3 : Hid (Below w2.heap.size w2 wd) := by rw [← hwd]; exact B3.out.drew
          replace C : Hid (Cx wd w.heap.size ⟨ca0, cb0, cd0, ce0, cs0⟩) := by rw [← hwd]; exact C.out.to ((Below.refl _ _).drew)
          replace B : Hid (Below w.heap.size w wd) := by rw [← hwd]; exact B.out.drew
          replace HRD : Hid (Rd wd wd.heap.size A1 m1 msg) := by rw [← hwd]; exact HRD.out.drew'
          replace HCL : Hid (wd.cell? ⟨bb, o + i, none⟩ = some (.slice A1 m1 c1)) := by rw [← hwd]; exact hcl
          rw [hwd] at hHeld ⊢
          replace HSB : Hid (∀ b, SBlk (.slice Av n cv) b → b < wd.heap.size) := fun b hb => (ST.out.blk hb).2
          clear hwd hcl hI hJ
          have SK : Hid (∀ w', Below wd.heap.size wd w' → (w'.cell? ⟨w2.heap.size, 0, none⟩ = some (.int .i64 ca0) ∧ w'.cell? ⟨w2.heap.size, 1, none⟩ = some (.int .i64 cb0) ∧ w'.cell? ⟨w2.heap.size, 2, none⟩ = some (.int .i64 cd0) ∧ w'.cell? ⟨w2.heap.size, 3, none⟩ = some (.int .i64 ce0) ∧ w'.cell? ⟨w2.heap.size, 4, none⟩ = some (.int .i64 cs0) ∧ w'.cell? ⟨w2.heap.size, 5, none⟩ = some (.slice A n k)) ∧ w'.cell? ⟨bb, o + i, none⟩ = some (.slice A1 m1 c1)) := fun W hW => ⟨(T.out.to hW).qx.six, (hW.cell (p := ⟨_, _, none⟩) (cell_block HCL.out)).trans HCL.out⟩
          refine wpAnyH_take (i := 1) (v := ?_) rfl (by kernel_rfl) (by kernel_rfl) (by kernel_rfl) (fun _ _ _ h => h) (Or.inl ⟨by rfl, ?_⟩) (by assumption) ?_
          rotate_left 1
          · intro w hSw; (try dsimp only at hSw); go_simp; (try with_reducible rfl)
          simp only [Act.put, List.getElem_toArray, List.getElem_cons_zero, List.getElem_cons_succ, List.setIfInBounds_toArray, List.set_cons_zero, List.set_cons_succ]
          refine wpAnyH_take (i := 2) (v := ?_) rfl (by kernel_rfl) (by kernel_rfl) (by kernel_rfl) (fun _ _ _ h => h) (Or.inl ⟨by rfl, ?_⟩) (by assumption) ?_
          rotate_left 1
          · intro w hSw; (try dsimp only at hSw); go_simp; (try with_reducible rfl)
          simp only [Act.put, List.getElem_toArray, List.getElem_cons_zero, List.getElem_cons_succ, List.setIfInBounds_toArray, List.set_cons_zero, List.set_cons_succ]
          refine wpAnyH_take (i := 3) (v := ?_) rfl (by kernel_rfl) (by kernel_rfl) (by kernel_rfl) (fun _ _ _ h => h) (Or.inl ⟨by rfl, ?_⟩) (by assumption) ?_
          rotate_left 1
          · intro w hSw; (try dsimp only at hSw); go_simp; (try with_reducible rfl)
          simp only [Act.put, List.getElem_toArray, List.getElem_cons_zero, List.getElem_cons_succ, List.setIfInBounds_toArray, List.set_cons_zero, List.set_cons_succ]
          refine wpAnyH_take (i := 4) (v := ?_) rfl (by kernel_rfl) (by kernel_rfl) (by kernel_rfl) (fun _ _ _ h => h) (Or.inl ⟨by rfl, ?_⟩) (by assumption) ?_
          rotate_left 1
          · intro w hSw; (try dsimp only at hSw); go_simp; (try with_reducible rfl)
          simp only [Act.put, List.getElem_toArray, List.getElem_cons_zero, List.getElem_cons_succ, List.setIfInBounds_toArray, List.set_cons_zero, List.set_cons_succ]
          refine wpAnyH_take (i := 0) (v := ?_) rfl (by kernel_rfl) (by kernel_rfl) (by kernel_rfl) (fun _ _ _ h => h) (Or.inl ⟨by rfl, ?_⟩) (by assumption) ?_
          rotate_left 1
          · intro w hSw; (try dsimp only at hSw); go_simp; (try with_reducible rfl)
          simp only [Act.put, List.getElem_toArray, List.getElem_cons_zero, List.getElem_cons_succ, List.setIfInBounds_toArray, List.set_cons_zero, List.set_cons_succ]
          refine wpAnyH_ready (rs := [5, 9]) (by kernel_rfl) (by simp) ?_
          refine AllReadyH.cons rfl (fun K hK => ?_) (AllReadyH.cons rfl (fun K hK => ?_) AllReadyH.nil)
          ·
            go_simp
            refine (wPut ca0 cb0 cd0 ce0 cs0 A A1 n k m1 c1 l msg wd O.out.full HNK.out (by have := HNS.out; omega) HRD.out).mono ?_
            rintro x5 w5 hP
            obtain ⟨A5, k5, rfl, hk5, hb⟩ := hP.no (errP_long HMQ.out HLG.out) (by decide)
            have B5 := Lib.hid hb
            clear hP hb
            go_wp2_with fail
            refine hK.out _ _ (SK.out _ B5.out) (fun hHeld => ?_)
            clear hK K
            refine wpAnyH_take (i := 6) (v := ?_) rfl (by kernel_rfl) (by kernel_rfl) (by kernel_rfl) (fun _ _ _ h => h) (Or.inl ⟨by rfl, ?_⟩) (by assumption) ?_
            rotate_left 1
            · intro w hSw; (try dsimp only at hSw); go_simp; (try with_reducible rfl)
            simp only [Act.put, List.getElem_toArray, List.getElem_cons_zero, List.getElem_cons_succ, List.setIfInBounds_toArray, List.set_cons_zero, List.set_cons_succ]
            refine wpAnyH_take (i := 7) (v := ?_) rfl (by kernel_rfl) (by kernel_rfl) (by kernel_rfl) (fun _ _ _ h => h) (Or.inl ⟨by rfl, ?_⟩) (by assumption) ?_
            rotate_left 1
            · intro w hSw; (try dsimp only at hSw); go_simp; (try with_reducible rfl)
            simp only [Act.put, List.getElem_toArray, List.getElem_cons_zero, List.getElem_cons_succ, List.setIfInBounds_toArray, List.set_cons_zero, List.set_cons_succ]
            refine wpAnyH_take (i := 8) (v := ?_) rfl (by kernel_rfl) (by kernel_rfl) (by kernel_rfl) (fun _ _ _ h => h) (Or.inl ⟨by rfl, ?_⟩) (by assumption) ?_
            rotate_left 1
            · intro w hSw; (try dsimp only at hSw); go_simp; (try with_reducible rfl)
            simp only [Act.put, List.getElem_toArray, List.getElem_cons_zero, List.getElem_cons_succ, List.setIfInBounds_toArray, List.set_cons_zero, List.set_cons_succ]
            have hba := (Below.refl w5.heap.size w5).alloc (Nat.le_refl _) (.cells #[.int .i64 0, .int .i64 0, .int .i64 0, .int .i64 0, .int .i64 0, .slice none 0 0] 26)
            have T9 := Lib.hid (QB.new w5 0 0 0 0 0 (.slice none 0 0))
            have B5a := Lib.hid (B5.out.trans (hba.mono B5.out.size))
            have HG9 : Hid (w2.heap.size < w5.heap.size ∧ wd.heap.size ≤ w5.heap.size) := ⟨Nat.lt_of_lt_of_le T.out.lt B5.out.size, B5.out.size⟩
            refine wpAnyH_ready (rs := [9]) (by kernel_rfl) (by simp) ?_
            refine AllReadyH.cons rfl (fun K hK => ?_) AllReadyH.nil
            go_simp
            refine hK.out _ _ (SK.out _ B5a.out) (fun hHeld => ?_)
            clear hK K
            clear hba hHeld
            generalize w5.alloc (.cells #[.int .i64 0, .int .i64 0, .int .i64 0, .int .i64 0, .int .i64 0, .slice none 0 0] 26) = wa at *
            have hHeld := SK.out _ B5a.out
            obtain ⟨r0, r1, r2, r3, r4, r5⟩ := T9.out.qx.six
            obtain ⟨f0, f1, f2, f3, f4, f5⟩ := T9.out.zeros
            have T10 := Lib.hid (T9.out.put Ch.zero (.slice A5 0 k5))
            have B10 := Lib.hid (below_setQ B5a.out HG9.out.2 Ch.zero (.slice A5 0 k5))
            refine wpAnyH_ready (rs := [10]) (by kernel_rfl) (by simp) ?_
            refine AllReadyH.cons rfl (fun K hK => ?_) AllReadyH.nil
            go_simp
            refine hK.out _ _ (SK.out _ B10.out) (fun hHeld => ?_)
            clear hK K
            refine wpAnyH_ready (rs := [11]) (by kernel_rfl) (by simp) ?_
            refine AllReadyH.cons rfl (fun K hK => ?_) AllReadyH.nil
            go_simp
            refine hK.out _ _ (SK.out _ B10.out) (fun hHeld => ?_)
            clear hK K
            refine wpAnyH_done (by kernel_rfl) ?_ _
            clear hHeld r0 r1 r2 r3 r4 r5 f0 f1 f2 f3 f4 f5 SK
            change Exit.then _ _ _ _ (setQ wa _ Ch.zero (.slice A5 0 k5))
            have T11 := Lib.hid (T.out.to B10.out)
            have O11 := Lib.hid (O.out.to B10.out)
            have ST11 := Lib.hid (ST.out.to B10.out)
            have C11 := Lib.hid (C.out.to B10.out)
            have B11 := Lib.hid (B3.out.trans (B10.out.mono B3.out.size))
            have BW11 := Lib.hid (B.out.trans (B10.out.mono B.out.size))
            have HWD : Hid (w2.heap.size < wd.heap.size) := T.out.lt
            clear T O ST C B3 B5 B5a T9 HCL HRD B HG9
            generalize setQ wa _ Ch.zero (.slice A5 0 k5) = w11 at *
            have row := (BW11.out.cell (p := ⟨bb, o + i, none⟩) HBB.out).trans HCW.out
            have c4 := C11.out.c4
            go_wp2_with fail
            refine wp_region_held_drew (S := (fun w' => w'.cell? ⟨bb, o + i, none⟩ = some (.slice A1 m1 c1) ∧ w'.cell? ⟨w.heap.size, 4, none⟩ = some (.int .i64 cs0))) (by kernel_rfl) (⟨row, c4⟩) (fun hHeld => ?_)
            refine wpAnyH_take (i := 0) (v := ?_) rfl (by kernel_rfl) (by kernel_rfl) (by kernel_rfl) (fun _ _ _ h => h) (Or.inl ⟨by rfl, ?_⟩) (by assumption) ?_
            rotate_left 1
            · intro w hSw; (try dsimp only at hSw); go_simp; (try with_reducible rfl)
            simp only [Act.put, List.getElem_toArray, List.getElem_cons_zero, List.getElem_cons_succ, List.setIfInBounds_toArray, List.set_cons_zero, List.set_cons_succ]
            refine wpAnyH_take (i := 1) (v := ?_) rfl (by kernel_rfl) (by kernel_rfl) (by kernel_rfl) (fun _ _ _ h => h) (Or.inl ⟨by rfl, ?_⟩) (by assumption) ?_
            rotate_left 1
            · intro w hSw; (try dsimp only at hSw); go_simp; (try with_reducible rfl)
            simp only [Act.put, List.getElem_toArray, List.getElem_cons_zero, List.getElem_cons_succ, List.setIfInBounds_toArray, List.set_cons_zero, List.set_cons_succ]
            refine wpAnyH_take (i := 2) (v := ?_) rfl (by kernel_rfl) (by kernel_rfl) (by kernel_rfl) (fun _ _ _ h => h) (Or.inl ⟨by rfl, ?_⟩) (by assumption) ?_
            rotate_left 1
            · intro w hSw; (try dsimp only at hSw); go_simp; (try with_reducible rfl)
            simp only [Act.put, List.getElem_toArray, List.getElem_cons_zero, List.getElem_cons_succ, List.setIfInBounds_toArray, List.set_cons_zero, List.set_cons_succ]
            refine wpAnyH_take (i := 3) (v := ?_) rfl (by kernel_rfl) (by kernel_rfl) (by kernel_rfl) (fun _ _ _ h => h) (Or.inl ⟨by rfl, ?_⟩) (by assumption) ?_
            rotate_left 1
            · intro w hSw; (try dsimp only at hSw); go_simp; (try with_reducible rfl)
            simp only [Act.put, List.getElem_toArray, List.getElem_cons_zero, List.getElem_cons_succ, List.setIfInBounds_toArray, List.set_cons_zero, List.set_cons_succ]
            refine wpAnyH_take (i := 4) (v := ?_) rfl (by kernel_rfl) (by kernel_rfl) (by kernel_rfl) (fun _ _ _ h => h) (Or.inl ⟨by rfl, ?_⟩) (by assumption) ?_
            rotate_left 1
            · intro w hSw; (try dsimp only at hSw); go_simp; (try with_reducible rfl)
            simp only [Act.put, List.getElem_toArray, List.getElem_cons_zero, List.getElem_cons_succ, List.setIfInBounds_toArray, List.set_cons_zero, List.set_cons_succ]
            refine wpAnyH_take (i := 5) (v := ?_) rfl (by kernel_rfl) (by kernel_rfl) (by kernel_rfl) (fun _ _ _ h => h) (Or.inl ⟨by rfl, ?_⟩) (by assumption) ?_
            rotate_left 1
            · intro w hSw; (try dsimp only at hSw); go_simp; (try with_reducible rfl)
            simp only [Act.put, List.getElem_toArray, List.getElem_cons_zero, List.getElem_cons_succ, List.setIfInBounds_toArray, List.set_cons_zero, List.set_cons_succ]
            refine wpAnyH_take (i := 6) (v := ?_) rfl (by kernel_rfl) (by kernel_rfl) (by kernel_rfl) (fun _ _ _ h => h) (Or.inl ⟨by rfl, ?_⟩) (by assumption) ?_
            rotate_left 1
            · intro w hSw; (try dsimp only at hSw); go_simp; (try with_reducible rfl)
            simp only [Act.put, List.getElem_toArray, List.getElem_cons_zero, List.getElem_cons_succ, List.setIfInBounds_toArray, List.set_cons_zero, List.set_cons_succ]
            refine wpAnyH_take (i := 7) (v := ?_) rfl (by kernel_rfl) (by kernel_rfl) (by kernel_rfl) (fun _ _ _ h => h) (Or.inl ⟨by rfl, ?_⟩) (by assumption) ?_
            rotate_left 1
            · intro w hSw; (try dsimp only at hSw); go_simp; (try with_reducible rfl)
            simp only [Act.put, List.getElem_toArray, List.getElem_cons_zero, List.getElem_cons_succ, List.setIfInBounds_toArray, List.set_cons_zero, List.set_cons_succ]
            refine wpAnyH_done (by kernel_rfl) ?_ _
            clear hHeld row c4
            obtain ⟨w12, hw12⟩ : ∃ w12, w11.drew = w12 := ⟨_, rfl⟩
            have T12 : Hid (QB w12 w2.heap.size ⟨ca0, cb0, cd0, ce0, cs0⟩ (.slice A n k)) := by rw [← hw12]; exact T11.out
            have O12 : Hid (OwS w12 (w2.heap.size + 1) A n (l.map fullR)) := by rw [← hw12]; exact O11.out.to ((Below.refl _ _).drew)
            have ST12 : Hid (StrR w12 (w2.heap.size + 1) (.slice Av n cv) n (l.map strM)) := by rw [← hw12]; exact ST11.out.to ((Below.refl _ _).drew)
            have B12 : Hid (Below w2.heap.size w2 w12) := by rw [← hw12]; exact B11.out.drew
            have BW12 : Hid (Below w.heap.size w w12) := by rw [← hw12]; exact BW11.out.drew
            have C12 : Hid (Cx w12 w.heap.size ⟨ca0, cb0, cd0, ce0, cs0⟩) := by rw [← hw12]; exact C11.out.to ((Below.refl _ _).drew)
            rw [hw12]
            clear hw12 T11 O11 ST11 B11 BW11 C11 T10 B10
            have hlo := HLO.out
            go_wp2_with fail
            go_roundw
            case rel => exact ⟨i + 1, A, n, k, l, HLT.out, by go_num, T12.out, HNK.out, O12.out, HMQ.out, ST12.out, B12.out⟩
            case measure => have := HLT.out; simp [intOf]; omega
          · go_simp
            have hba := (Below.refl wd.heap.size wd).alloc (Nat.le_refl _) (.cells #[.int .i64 0, .int .i64 0, .int .i64 0, .int .i64 0, .int .i64 0, .slice none 0 0] 26)
            have T9a := Lib.hid (QB.new wd 0 0 0 0 0 (.slice none 0 0))
            have Bx := Lib.hid hba
            refine hK.out _ _ (SK.out _ hba) (fun hHeld => ?_)
            clear hK K hba
            have HSX : Hid ((wd.alloc (.cells #[.int .i64 0, .int .i64 0, .int .i64 0, .int .i64 0, .int .i64 0, .slice none 0 0] 26)).heap.size = wd.heap.size + 1) := by show _ = _; simp
            generalize wd.alloc (.cells #[.int .i64 0, .int .i64 0, .int .i64 0, .int .i64 0, .int .i64 0, .slice none 0 0] 26) = wx at *
            refine wpAnyH_ready (rs := [5]) (by kernel_rfl) (by simp) ?_
            refine AllReadyH.cons rfl (fun K hK => ?_) AllReadyH.nil
            go_simp
            refine (wPut ca0 cb0 cd0 ce0 cs0 A A1 n k m1 c1 l msg wx (O.out.to Bx.out).full HNK.out (by have := HNS.out; omega) (HRD.out.to Bx.out)).mono ?_
            rintro x5 wa hP
            obtain ⟨A5, k5, rfl, hk5, hb⟩ := hP.no (errP_long HMQ.out HLG.out) (by decide)
            have B5 := Lib.hid hb
            clear hP hb
            go_wp2_with fail
            refine hK.out _ _ (SK.out _ (Bx.out.trans (B5.out.mono Bx.out.size))) (fun hHeld => ?_)
            clear hK K
            refine wpAnyH_take (i := 6) (v := ?_) rfl (by kernel_rfl) (by kernel_rfl) (by kernel_rfl) (fun _ _ _ h => h) (Or.inl ⟨by rfl, ?_⟩) (by assumption) ?_
            rotate_left 1
            · intro w hSw; (try dsimp only at hSw); go_simp; (try with_reducible rfl)
            simp only [Act.put, List.getElem_toArray, List.getElem_cons_zero, List.getElem_cons_succ, List.setIfInBounds_toArray, List.set_cons_zero, List.set_cons_succ]
            refine wpAnyH_take (i := 7) (v := ?_) rfl (by kernel_rfl) (by kernel_rfl) (by kernel_rfl) (fun _ _ _ h => h) (Or.inl ⟨by rfl, ?_⟩) (by assumption) ?_
            rotate_left 1
            · intro w hSw; (try dsimp only at hSw); go_simp; (try with_reducible rfl)
            simp only [Act.put, List.getElem_toArray, List.getElem_cons_zero, List.getElem_cons_succ, List.setIfInBounds_toArray, List.set_cons_zero, List.set_cons_succ]
            refine wpAnyH_take (i := 8) (v := ?_) rfl (by kernel_rfl) (by kernel_rfl) (by kernel_rfl) (fun _ _ _ h => h) (Or.inl ⟨by rfl, ?_⟩) (by assumption) ?_
            rotate_left 1
            · intro w hSw; (try dsimp only at hSw); go_simp; (try with_reducible rfl)
            simp only [Act.put, List.getElem_toArray, List.getElem_cons_zero, List.getElem_cons_succ, List.setIfInBounds_toArray, List.set_cons_zero, List.set_cons_succ]
            have T9 := Lib.hid (T9a.out.to B5.out)
            have B5a := Lib.hid (Bx.out.trans (B5.out.mono Bx.out.size))
            have HG9 : Hid (w2.heap.size < wd.heap.size ∧ wd.heap.size ≤ wd.heap.size) := ⟨T.out.lt, Nat.le_refl _⟩
            obtain ⟨r0, r1, r2, r3, r4, r5⟩ := T9.out.qx.six
            obtain ⟨f0, f1, f2, f3, f4, f5⟩ := T9.out.zeros
            have T10 := Lib.hid (T9.out.put Ch.zero (.slice A5 0 k5))
            have B10 := Lib.hid (below_setQ B5a.out HG9.out.2 Ch.zero (.slice A5 0 k5))
            refine wpAnyH_ready (rs := [10]) (by kernel_rfl) (by simp) ?_
            refine AllReadyH.cons rfl (fun K hK => ?_) AllReadyH.nil
            go_simp
            refine hK.out _ _ (SK.out _ B10.out) (fun hHeld => ?_)
            clear hK K
            refine wpAnyH_ready (rs := [11]) (by kernel_rfl) (by simp) ?_
            refine AllReadyH.cons rfl (fun K hK => ?_) AllReadyH.nil
            go_simp
            refine hK.out _ _ (SK.out _ B10.out) (fun hHeld => ?_)
            clear hK K
            refine wpAnyH_done (by kernel_rfl) ?_ _
            clear hHeld r0 r1 r2 r3 r4 r5 f0 f1 f2 f3 f4 f5 SK
            change Exit.then _ _ _ _ (setQ wa _ Ch.zero (.slice A5 0 k5))
            have T11 := Lib.hid (T.out.to B10.out)
            have O11 := Lib.hid (O.out.to B10.out)
            have ST11 := Lib.hid (ST.out.to B10.out)
            have C11 := Lib.hid (C.out.to B10.out)
            have B11 := Lib.hid (B3.out.trans (B10.out.mono B3.out.size))
            have BW11 := Lib.hid (B.out.trans (B10.out.mono B.out.size))
            have HWD : Hid (w2.heap.size < wd.heap.size) := T.out.lt
            clear T O ST C B3 B5 B5a T9 HCL HRD B HG9
            generalize setQ wa _ Ch.zero (.slice A5 0 k5) = w11 at *
            have row := (BW11.out.cell (p := ⟨bb, o + i, none⟩) HBB.out).trans HCW.out
            have c4 := C11.out.c4
            go_wp2_with fail
            refine wp_region_held_drew (S := (fun w' => w'.cell? ⟨bb, o + i, none⟩ = some (.slice A1 m1 c1) ∧ w'.cell? ⟨w.heap.size, 4, none⟩ = some (.int .i64 cs0))) (by kernel_rfl) (⟨row, c4⟩) (fun hHeld => ?_)
            refine wpAnyH_take (i := 0) (v := ?_) rfl (by kernel_rfl) (by kernel_rfl) (by kernel_rfl) (fun _ _ _ h => h) (Or.inl ⟨by rfl, ?_⟩) (by assumption) ?_
            rotate_left 1
            · intro w hSw; (try dsimp only at hSw); go_simp; (try with_reducible rfl)
            simp only [Act.put, List.getElem_toArray, List.getElem_cons_zero, List.getElem_cons_succ, List.setIfInBounds_toArray, List.set_cons_zero, List.set_cons_succ]
            refine wpAnyH_take (i := 1) (v := ?_) rfl (by kernel_rfl) (by kernel_rfl) (by kernel_rfl) (fun _ _ _ h => h) (Or.inl ⟨by rfl, ?_⟩) (by assumption) ?_
            rotate_left 1
            · intro w hSw; (try dsimp only at hSw); go_simp; (try with_reducible rfl)
            simp only [Act.put, List.getElem_toArray, List.getElem_cons_zero, List.getElem_cons_succ, List.setIfInBounds_toArray, List.set_cons_zero, List.set_cons_succ]
            refine wpAnyH_take (i := 2) (v := ?_) rfl (by kernel_rfl) (by kernel_rfl) (by kernel_rfl) (fun _ _ _ h => h) (Or.inl ⟨by rfl, ?_⟩) (by assumption) ?_
            rotate_left 1
            · intro w hSw; (try dsimp only at hSw); go_simp; (try with_reducible rfl)
            simp only [Act.put, List.getElem_toArray, List.getElem_cons_zero, List.getElem_cons_succ, List.setIfInBounds_toArray, List.set_cons_zero, List.set_cons_succ]
            refine wpAnyH_take (i := 3) (v := ?_) rfl (by kernel_rfl) (by kernel_rfl) (by kernel_rfl) (fun _ _ _ h => h) (Or.inl ⟨by rfl, ?_⟩) (by assumption) ?_
            rotate_left 1
            · intro w hSw; (try dsimp only at hSw); go_simp; (try with_reducible rfl)
            simp only [Act.put, List.getElem_toArray, List.getElem_cons_zero, List.getElem_cons_succ, List.setIfInBounds_toArray, List.set_cons_zero, List.set_cons_succ]
            refine wpAnyH_take (i := 4) (v := ?_) rfl (by kernel_rfl) (by kernel_rfl) (by kernel_rfl) (fun _ _ _ h => h) (Or.inl ⟨by rfl, ?_⟩) (by assumption) ?_
            rotate_left 1
            · intro w hSw; (try dsimp only at hSw); go_simp; (try with_reducible rfl)
            simp only [Act.put, List.getElem_toArray, List.getElem_cons_zero, List.getElem_cons_succ, List.setIfInBounds_toArray, List.set_cons_zero, List.set_cons_succ]
            refine wpAnyH_take (i := 5) (v := ?_) rfl (by kernel_rfl) (by kernel_rfl) (by kernel_rfl) (fun _ _ _ h => h) (Or.inl ⟨by rfl, ?_⟩) (by assumption) ?_
            rotate_left 1
            · intro w hSw; (try dsimp only at hSw); go_simp; (try with_reducible rfl)
            simp only [Act.put, List.getElem_toArray, List.getElem_cons_zero, List.getElem_cons_succ, List.setIfInBounds_toArray, List.set_cons_zero, List.set_cons_succ]
            refine wpAnyH_take (i := 6) (v := ?_) rfl (by kernel_rfl) (by kernel_rfl) (by kernel_rfl) (fun _ _ _ h => h) (Or.inl ⟨by rfl, ?_⟩) (by assumption) ?_
            rotate_left 1
            · intro w hSw; (try dsimp only at hSw); go_simp; (try with_reducible rfl)
            simp only [Act.put, List.getElem_toArray, List.getElem_cons_zero, List.getElem_cons_succ, List.setIfInBounds_toArray, List.set_cons_zero, List.set_cons_succ]
            refine wpAnyH_take (i := 7) (v := ?_) rfl (by kernel_rfl) (by kernel_rfl) (by kernel_rfl) (fun _ _ _ h => h) (Or.inl ⟨by rfl, ?_⟩) (by assumption) ?_
            rotate_left 1
            · intro w hSw; (try dsimp only at hSw); go_simp; (try with_reducible rfl)
            simp only [Act.put, List.getElem_toArray, List.getElem_cons_zero, List.getElem_cons_succ, List.setIfInBounds_toArray, List.set_cons_zero, List.set_cons_succ]
            refine wpAnyH_done (by kernel_rfl) ?_ _
            clear hHeld row c4
            obtain ⟨w12, hw12⟩ : ∃ w12, w11.drew = w12 := ⟨_, rfl⟩
            have T12 : Hid (QB w12 w2.heap.size ⟨ca0, cb0, cd0, ce0, cs0⟩ (.slice A n k)) := by rw [← hw12]; exact T11.out
            have O12 : Hid (OwS w12 (w2.heap.size + 1) A n (l.map fullR)) := by rw [← hw12]; exact O11.out.to ((Below.refl _ _).drew)
            have ST12 : Hid (StrR w12 (w2.heap.size + 1) (.slice Av n cv) n (l.map strM)) := by rw [← hw12]; exact ST11.out.to ((Below.refl _ _).drew)
            have B12 : Hid (Below w2.heap.size w2 w12) := by rw [← hw12]; exact B11.out.drew
            have BW12 : Hid (Below w.heap.size w w12) := by rw [← hw12]; exact BW11.out.drew
            have C12 : Hid (Cx w12 w.heap.size ⟨ca0, cb0, cd0, ce0, cs0⟩) := by rw [← hw12]; exact C11.out.to ((Below.refl _ _).drew)
            rw [hw12]
            clear hw12 T11 O11 ST11 B11 BW11 C11 T10 B10
            have hlo := HLO.out
            go_wp2_with fail
            go_roundw
            case rel => exact ⟨i + 1, A, n, k, l, HLT.out, by go_num, T12.out, HNK.out, O12.out, HMQ.out, ST12.out, B12.out⟩
            case measure => have := HLT.out; simp [intOf]; omega
        · have HLG : Hid (longM ⟨ca0, cb0, cd0, ce0, cs0⟩ msg = false) := by show _ = _; unfold longM; rw [HML.out]; exact decide_eq_false hlong
          have HLO := Lib.hid hlong
          clear hlong
          have hcl := HCL.out
          obtain ⟨wd, hwd⟩ : ∃ wd, wr.drew = wd := ⟨_, rfl⟩
          refine wp_region_held_drew (S := (fun w' => (w'.cell? ⟨w2.heap.size, 0, none⟩ = some (.int .i64 ca0) ∧ w'.cell? ⟨w2.heap.size, 1, none⟩ = some (.int .i64 cb0) ∧ w'.cell? ⟨w2.heap.size, 2, none⟩ = some (.int .i64 cd0) ∧ w'.cell? ⟨w2.heap.size, 3, none⟩ = some (.int .i64 ce0) ∧ w'.cell? ⟨w2.heap.size, 4, none⟩ = some (.int .i64 cs0) ∧ w'.cell? ⟨w2.heap.size, 5, none⟩ = some (.slice A n k)) ∧ w'.cell? ⟨bb, o + i, none⟩ = some (.slice A1 m1 c1))) (by kernel_rfl) (⟨T.out.qx.six, hcl⟩) (fun hHeld => ?_)
          replace T : Hid (QB wd w2.heap.size ⟨ca0, cb0, cd0, ce0, cs0⟩ (.slice A n k)) := by rw [← hwd]; exact T.out
          replace O : Hid (OwS wd (w2.heap.size + 1) A n (l.map fullR)) := by rw [← hwd]; exact O.out.to ((Below.refl _ _).drew)
          replace ST : Hid (StrR wd (w2.heap.size + 1) (.slice Av n cv) n (l.map strM)) := by rw [← hwd]; exact ST.out.to ((Below.refl _ _).drew)
          replace B3 : Hid (Below w2.heap.size w2 wd) := by rw [← hwd]; exact B3.out.drew
          replace C : Hid (Cx wd w.heap.size ⟨ca0, cb0, cd0, ce0, cs0⟩) := by rw [← hwd]; exact C.out.to ((Below.refl _ _).drew)
          replace B : Hid (Below w.heap.size w wd) := by rw [← hwd]; exact B.out.drew
          replace HRD : Hid (Rd wd wd.heap.size A1 m1 msg) := by rw [← hwd]; exact HRD.out.drew'
          replace HCL : Hid (wd.cell? ⟨bb, o + i, none⟩ = some (.slice A1 m1 c1)) := by rw [← hwd]; exact hcl
          rw [hwd] at hHeld ⊢
          replace HSB : Hid (∀ b, SBlk (.slice Av n cv) b → b < wd.heap.size) := fun b hb => (ST.out.blk hb).2
          clear hwd hcl hI hJ
          have SK : Hid (∀ w', Below wd.heap.size wd w' → (w'.cell? ⟨w2.heap.size, 0, none⟩ = some (.int .i64 ca0) ∧ w'.cell? ⟨w2.heap.size, 1, none⟩ = some (.int .i64 cb0) ∧ w'.cell? ⟨w2.heap.size, 2, none⟩ = some (.int .i64 cd0) ∧ w'.cell? ⟨w2.heap.size, 3, none⟩ = some (.int .i64 ce0) ∧ w'.cell? ⟨w2.heap.size, 4, none⟩ = some (.int .i64 cs0) ∧ w'.cell? ⟨w2.heap.size, 5, none⟩ = some (.slice A n k)) ∧ w'.cell? ⟨bb, o + i, none⟩ = some (.slice A1 m1 c1)) := fun W hW => ⟨(T.out.to hW).qx.six, (hW.cell (p := ⟨_, _, none⟩) (cell_block HCL.out)).trans HCL.out⟩
          refine wpAnyH_take (i := 1) (v := ?_) rfl (by kernel_rfl) (by kernel_rfl) (by kernel_rfl) (fun _ _ _ h => h) (Or.inl ⟨by rfl, ?_⟩) (by assumption) ?_
          rotate_left 1
          · intro w hSw; (try dsimp only at hSw); go_simp; (try with_reducible rfl)
          simp only [Act.put, List.getElem_toArray, List.getElem_cons_zero, List.getElem_cons_succ, List.setIfInBounds_toArray, List.set_cons_zero, List.set_cons_succ]
          refine wpAnyH_take (i := 2) (v := ?_) rfl (by kernel_rfl) (by kernel_rfl) (by kernel_rfl) (fun _ _ _ h => h) (Or.inl ⟨by rfl, ?_⟩) (by assumption) ?_
          rotate_left 1
          · intro w hSw; (try dsimp only at hSw); go_simp; (try with_reducible rfl)
          simp only [Act.put, List.getElem_toArray, List.getElem_cons_zero, List.getElem_cons_succ, List.setIfInBounds_toArray, List.set_cons_zero, List.set_cons_succ]
          refine wpAnyH_take (i := 3) (v := ?_) rfl (by kernel_rfl) (by kernel_rfl) (by kernel_rfl) (fun _ _ _ h => h) (Or.inl ⟨by rfl, ?_⟩) (by assumption) ?_
          rotate_left 1
          · intro w hSw; (try dsimp only at hSw); go_simp; (try with_reducible rfl)
          simp only [Act.put, List.getElem_toArray, List.getElem_cons_zero, List.getElem_cons_succ, List.setIfInBounds_toArray, List.set_cons_zero, List.set_cons_succ]
          refine wpAnyH_take (i := 4) (v := ?_) rfl (by kernel_rfl) (by kernel_rfl) (by kernel_rfl) (fun _ _ _ h => h) (Or.inl ⟨by rfl, ?_⟩) (by assumption) ?_
          rotate_left 1
          · intro w hSw; (try dsimp only at hSw); go_simp; (try with_reducible rfl)
          simp only [Act.put, List.getElem_toArray, List.getElem_cons_zero, List.getElem_cons_succ, List.setIfInBounds_toArray, List.set_cons_zero, List.set_cons_succ]
          refine wpAnyH_take (i := 0) (v := ?_) rfl (by kernel_rfl) (by kernel_rfl) (by kernel_rfl) (fun _ _ _ h => h) (Or.inl ⟨by rfl, ?_⟩) (by assumption) ?_
          rotate_left 1
          · intro w hSw; (try dsimp only at hSw); go_simp; (try with_reducible rfl)
          simp only [Act.put, List.getElem_toArray, List.getElem_cons_zero, List.getElem_cons_succ, List.setIfInBounds_toArray, List.set_cons_zero, List.set_cons_succ]
          refine wpAnyH_ready (rs := [5, 9]) (by kernel_rfl) (by simp) ?_
          refine AllReadyH.cons rfl (fun K hK => ?_) (AllReadyH.cons rfl (fun K hK => ?_) AllReadyH.nil)
          ·
            go_simp
            refine (wPut ca0 cb0 cd0 ce0 cs0 A A1 n k m1 c1 l msg wd O.out.full HNK.out (by have := HNS.out; omega) HRD.out).mono ?_
            rintro x5 w5 hP
            obtain ⟨A5, n5, k5, rfl, ho5, hk5, hk5', hb⟩ := hP.get (errP_short HMQ.out HLG.out)
            have O5 := Lib.hid ho5
            have HK5 := Lib.hid hk5
            clear ho5 hk5 hk5'
            have B5 := Lib.hid hb
            clear hP hb
            go_wp2_with fail
            refine hK.out _ _ (SK.out _ B5.out) (fun hHeld => ?_)
            clear hK K
            refine wpAnyH_take (i := 6) (v := ?_) rfl (by kernel_rfl) (by kernel_rfl) (by kernel_rfl) (fun _ _ _ h => h) (Or.inl ⟨by rfl, ?_⟩) (by assumption) ?_
            rotate_left 1
            · intro w hSw; (try dsimp only at hSw); go_simp; (try with_reducible rfl)
            simp only [Act.put, List.getElem_toArray, List.getElem_cons_zero, List.getElem_cons_succ, List.setIfInBounds_toArray, List.set_cons_zero, List.set_cons_succ]
            refine wpAnyH_take (i := 7) (v := ?_) rfl (by kernel_rfl) (by kernel_rfl) (by kernel_rfl) (fun _ _ _ h => h) (Or.inl ⟨by rfl, ?_⟩) (by assumption) ?_
            rotate_left 1
            · intro w hSw; (try dsimp only at hSw); go_simp; (try with_reducible rfl)
            simp only [Act.put, List.getElem_toArray, List.getElem_cons_zero, List.getElem_cons_succ, List.setIfInBounds_toArray, List.set_cons_zero, List.set_cons_succ]
            refine wpAnyH_take (i := 8) (v := ?_) rfl (by kernel_rfl) (by kernel_rfl) (by kernel_rfl) (fun _ _ _ h => h) (Or.inl ⟨by rfl, ?_⟩) (by assumption) ?_
            rotate_left 1
            · intro w hSw; (try dsimp only at hSw); go_simp; (try with_reducible rfl)
            simp only [Act.put, List.getElem_toArray, List.getElem_cons_zero, List.getElem_cons_succ, List.setIfInBounds_toArray, List.set_cons_zero, List.set_cons_succ]
            have hba := (Below.refl w5.heap.size w5).alloc (Nat.le_refl _) (.cells #[.int .i64 0, .int .i64 0, .int .i64 0, .int .i64 0, .int .i64 0, .slice none 0 0] 26)
            have T9 := Lib.hid (QB.new w5 0 0 0 0 0 (.slice none 0 0))
            have B5a := Lib.hid (B5.out.trans (hba.mono B5.out.size))
            have HG9 : Hid (w2.heap.size < w5.heap.size ∧ wd.heap.size ≤ w5.heap.size) := ⟨Nat.lt_of_lt_of_le T.out.lt B5.out.size, B5.out.size⟩
            refine wpAnyH_ready (rs := [9]) (by kernel_rfl) (by simp) ?_
            refine AllReadyH.cons rfl (fun K hK => ?_) AllReadyH.nil
            go_simp
            refine hK.out _ _ (SK.out _ B5a.out) (fun hHeld => ?_)
            clear hK K
            clear hba hHeld
            have O9 := Lib.hid (O5.out.to (below_setQ ((Below.refl w5.heap.size w5).alloc (Nat.le_refl _) (.cells #[.int .i64 0, .int .i64 0, .int .i64 0, .int .i64 0, .int .i64 0, .slice none 0 0] 26)) (Nat.le_refl _) ⟨ca0, cb0, cd0, ce0, cs0⟩ (.slice A5 n5 k5)))
            generalize w5.alloc (.cells #[.int .i64 0, .int .i64 0, .int .i64 0, .int .i64 0, .int .i64 0, .slice none 0 0] 26) = wa at *
            have hHeld := SK.out _ B5a.out
            obtain ⟨r0, r1, r2, r3, r4, r5⟩ := T9.out.qx.six
            obtain ⟨f0, f1, f2, f3, f4, f5⟩ := T9.out.zeros
            have T10 := Lib.hid (T9.out.put ⟨ca0, cb0, cd0, ce0, cs0⟩ (.slice A5 n5 k5))
            have B10 := Lib.hid (below_setQ B5a.out HG9.out.2 ⟨ca0, cb0, cd0, ce0, cs0⟩ (.slice A5 n5 k5))
            refine wpAnyH_ready (rs := [10]) (by kernel_rfl) (by simp) ?_
            refine AllReadyH.cons rfl (fun K hK => ?_) AllReadyH.nil
            go_simp
            refine hK.out _ _ (SK.out _ B10.out) (fun hHeld => ?_)
            clear hK K
            refine wpAnyH_ready (rs := [11]) (by kernel_rfl) (by simp) ?_
            refine AllReadyH.cons rfl (fun K hK => ?_) AllReadyH.nil
            go_simp
            refine hK.out _ _ (SK.out _ B10.out) (fun hHeld => ?_)
            clear hK K
            refine wpAnyH_done (by kernel_rfl) ?_ _
            clear hHeld r0 r1 r2 r3 r4 r5 f0 f1 f2 f3 f4 f5 SK
            change Exit.then _ _ _ _ (setQ wa _ ⟨ca0, cb0, cd0, ce0, cs0⟩ (.slice A5 n5 k5))
            have T11 := Lib.hid (T.out.to B10.out)
            have O11 := Lib.hid (O.out.to B10.out)
            have ST11 := Lib.hid (ST.out.to B10.out)
            have C11 := Lib.hid (C.out.to B10.out)
            have B11 := Lib.hid (B3.out.trans (B10.out.mono B3.out.size))
            have BW11 := Lib.hid (B.out.trans (B10.out.mono B.out.size))
            have HWD : Hid (w2.heap.size < wd.heap.size) := T.out.lt
            have G11 := Lib.hid T10.out
            have P11 := Lib.hid O9.out
            clear T O ST C B3 B5 B5a T9 HCL HRD B HG9
            generalize setQ wa _ ⟨ca0, cb0, cd0, ce0, cs0⟩ (.slice A5 n5 k5) = w11 at *
            have row := (BW11.out.cell (p := ⟨bb, o + i, none⟩) HBB.out).trans HCW.out
            have c4 := C11.out.c4
            go_wp2_with fail
            refine wp_region_held_drew (S := (fun w' => w'.cell? ⟨bb, o + i, none⟩ = some (.slice A1 m1 c1) ∧ w'.cell? ⟨w.heap.size, 4, none⟩ = some (.int .i64 cs0))) (by kernel_rfl) (⟨row, c4⟩) (fun hHeld => ?_)
            refine wpAnyH_take (i := 0) (v := ?_) rfl (by kernel_rfl) (by kernel_rfl) (by kernel_rfl) (fun _ _ _ h => h) (Or.inl ⟨by rfl, ?_⟩) (by assumption) ?_
            rotate_left 1
            · intro w hSw; (try dsimp only at hSw); go_simp; (try with_reducible rfl)
            simp only [Act.put, List.getElem_toArray, List.getElem_cons_zero, List.getElem_cons_succ, List.setIfInBounds_toArray, List.set_cons_zero, List.set_cons_succ]
            refine wpAnyH_take (i := 1) (v := ?_) rfl (by kernel_rfl) (by kernel_rfl) (by kernel_rfl) (fun _ _ _ h => h) (Or.inl ⟨by rfl, ?_⟩) (by assumption) ?_
            rotate_left 1
            · intro w hSw; (try dsimp only at hSw); go_simp; (try with_reducible rfl)
            simp only [Act.put, List.getElem_toArray, List.getElem_cons_zero, List.getElem_cons_succ, List.setIfInBounds_toArray, List.set_cons_zero, List.set_cons_succ]
            refine wpAnyH_take (i := 2) (v := ?_) rfl (by kernel_rfl) (by kernel_rfl) (by kernel_rfl) (fun _ _ _ h => h) (Or.inl ⟨by rfl, ?_⟩) (by assumption) ?_
            rotate_left 1
            · intro w hSw; (try dsimp only at hSw); go_simp; (try with_reducible rfl)
            simp only [Act.put, List.getElem_toArray, List.getElem_cons_zero, List.getElem_cons_succ, List.setIfInBounds_toArray, List.set_cons_zero, List.set_cons_succ]
            refine wpAnyH_take (i := 3) (v := ?_) rfl (by kernel_rfl) (by kernel_rfl) (by kernel_rfl) (fun _ _ _ h => h) (Or.inl ⟨by rfl, ?_⟩) (by assumption) ?_
            rotate_left 1
            · intro w hSw; (try dsimp only at hSw); go_simp; (try with_reducible rfl)
            simp only [Act.put, List.getElem_toArray, List.getElem_cons_zero, List.getElem_cons_succ, List.setIfInBounds_toArray, List.set_cons_zero, List.set_cons_succ]
            refine wpAnyH_take (i := 4) (v := ?_) rfl (by kernel_rfl) (by kernel_rfl) (by kernel_rfl) (fun _ _ _ h => h) (Or.inl ⟨by rfl, ?_⟩) (by assumption) ?_
            rotate_left 1
            · intro w hSw; (try dsimp only at hSw); go_simp; (try with_reducible rfl)
            simp only [Act.put, List.getElem_toArray, List.getElem_cons_zero, List.getElem_cons_succ, List.setIfInBounds_toArray, List.set_cons_zero, List.set_cons_succ]
            refine wpAnyH_take (i := 5) (v := ?_) rfl (by kernel_rfl) (by kernel_rfl) (by kernel_rfl) (fun _ _ _ h => h) (Or.inl ⟨by rfl, ?_⟩) (by assumption) ?_
            rotate_left 1
            · intro w hSw; (try dsimp only at hSw); go_simp; (try with_reducible rfl)
            simp only [Act.put, List.getElem_toArray, List.getElem_cons_zero, List.getElem_cons_succ, List.setIfInBounds_toArray, List.set_cons_zero, List.set_cons_succ]
            refine wpAnyH_take (i := 6) (v := ?_) rfl (by kernel_rfl) (by kernel_rfl) (by kernel_rfl) (fun _ _ _ h => h) (Or.inl ⟨by rfl, ?_⟩) (by assumption) ?_
            rotate_left 1
            · intro w hSw; (try dsimp only at hSw); go_simp; (try with_reducible rfl)
            simp only [Act.put, List.getElem_toArray, List.getElem_cons_zero, List.getElem_cons_succ, List.setIfInBounds_toArray, List.set_cons_zero, List.set_cons_succ]
            refine wpAnyH_take (i := 7) (v := ?_) rfl (by kernel_rfl) (by kernel_rfl) (by kernel_rfl) (fun _ _ _ h => h) (Or.inl ⟨by rfl, ?_⟩) (by assumption) ?_
            rotate_left 1
            · intro w hSw; (try dsimp only at hSw); go_simp; (try with_reducible rfl)
            simp only [Act.put, List.getElem_toArray, List.getElem_cons_zero, List.getElem_cons_succ, List.setIfInBounds_toArray, List.set_cons_zero, List.set_cons_succ]
            refine wpAnyH_done (by kernel_rfl) ?_ _
            clear hHeld row c4
            obtain ⟨w12, hw12⟩ : ∃ w12, w11.drew = w12 := ⟨_, rfl⟩
            have T12 : Hid (QB w12 w2.heap.size ⟨ca0, cb0, cd0, ce0, cs0⟩ (.slice A n k)) := by rw [← hw12]; exact T11.out
            have O12 : Hid (OwS w12 (w2.heap.size + 1) A n (l.map fullR)) := by rw [← hw12]; exact O11.out.to ((Below.refl _ _).drew)
            have ST12 : Hid (StrR w12 (w2.heap.size + 1) (.slice Av n cv) n (l.map strM)) := by rw [← hw12]; exact ST11.out.to ((Below.refl _ _).drew)
            have B12 : Hid (Below w2.heap.size w2 w12) := by rw [← hw12]; exact B11.out.drew
            have BW12 : Hid (Below w.heap.size w w12) := by rw [← hw12]; exact BW11.out.drew
            have C12 : Hid (Cx w12 w.heap.size ⟨ca0, cb0, cd0, ce0, cs0⟩) := by rw [← hw12]; exact C11.out.to ((Below.refl _ _).drew)
            have G12 := Lib.hid (G11.out.to ((Below.refl w11.heap.size w11).drew))
            rw [hw12] at G12
            have P12 : Hid (OwS w12 wd.heap.size A5 n5 ((putM ⟨ca0, cb0, cd0, ce0, cs0⟩ l msg).map fullR)) := by rw [← hw12]; exact P11.out.to ((Below.refl _ _).drew)
            rw [hw12]
            clear hw12 T11 O11 ST11 B11 BW11 C11 T10 B10 G11 P11 O9
            have hlo := HLO.out
            obtain ⟨g0, g1, g2, g3, g4, g5⟩ := G12.out.qx.six
            obtain ⟨r0, r1, r2, r3, r4, r5⟩ := T12.out.qx.six
            obtain ⟨f0, f1, f2, f3, f4, f5⟩ := T12.out.zeros
            go_upto_region 18 with (fail)
            change Code.wp _ _ _ _ (setQ w12 w2.heap.size ⟨ca0, cb0, cd0, ce0, cs0⟩ (.slice A5 n5 k5))
            have KQ := (Keep.refl (fun b => b = w2.heap.size) w12).setQ w2.heap.size ⟨ca0, cb0, cd0, ce0, cs0⟩ (.slice A5 n5 k5) rfl
            have T13 := Lib.hid (T12.out.put ⟨ca0, cb0, cd0, ce0, cs0⟩ (.slice A5 n5 k5))
            have P13 := Lib.hid (P12.out.kept KQ (fun b e => by have := HWD.out; omega))
            have ST13 := Lib.hid (ST12.out.kept KQ (fun b e => by omega))
            have B13 := Lib.hid (below_setQ B12.out (Nat.le_refl _) ⟨ca0, cb0, cd0, ce0, cs0⟩ (.slice A5 n5 k5))
            have BW13 := Lib.hid (below_setQ BW12.out B2.out.size ⟨ca0, cb0, cd0, ce0, cs0⟩ (.slice A5 n5 k5))
            have STB : Hid (∀ b, SBlk (.slice Av n cv) b → w2.heap.size + 1 ≤ b ∧ b < wd.heap.size) := fun b hb => ⟨(ST12.out.blk hb).1, HSB.out b hb⟩
            clear g0 g1 g2 g3 g4 g5 r0 r1 r2 r3 r4 r5 f0 f1 f2 f3 f4 f5 KQ T12 P12 ST12 B12 BW12 C12 O12 G12 hlo
            generalize setQ w12 w2.heap.size ⟨ca0, cb0, cd0, ce0, cs0⟩ (.slice A5 n5 k5) = w13 at *
            have row := (BW13.out.cell (p := ⟨bb, o + i, none⟩) HBB.out).trans HCW.out
            have hcv := (HRW.out.below BW13.out).str (c := c1)
            change (convert 27 9 (.slice A1 m1 c1)).run Try.prog w13 = .ok (.string (strM msg)) w13 at hcv
            have hba := (Below.refl w13.heap.size w13).alloc (Nat.le_refl _) (.cells #[.string (strM msg)] 9)
            obtain ⟨v14, w14, hrun, hst, hkk⟩ := run_pushT 49 (ST13.out.to hba) (heap_alloc_last w13 (.cells #[.string (strM msg)] 9)) (Nat.le_trans (show w2.heap.size + 1 ≤ w13.heap.size from Nat.lt_of_lt_of_le T13.out.lt (Nat.le_refl _)) hba.size) (by have := HNS.out; omega)
            obtain ⟨A14, c14, rfl, _⟩ := hst.slice
            have RUN := Lib.hid hrun
            have ST14 := Lib.hid hst
            have T14 := Lib.hid ((T13.out.to hba).kept hkk (fun h => by have := (STB.out _ h).1; omega))
            have P14 := Lib.hid ((P13.out.to hba).kept hkk (fun b h => (STB.out b h).2))
            have B14 := Lib.hid (hkk.below (B13.out.trans (hba.mono B13.out.size)) (Nat.le_trans B13.out.size hba.size) (fun b h => by have := (STB.out b h).1; omega))
            have C14 := Lib.hid (C2.out.to B14.out)
            have HN5 : Hid ((putM ⟨ca0, cb0, cd0, ce0, cs0⟩ l msg).length = n5) := by show _ = _; have := P14.out.1; rwa [List.length_map] at this
            have HMQ' := Lib.hid (putM_may HMQ.out HLG.out)
            have P15 := Lib.hid (P14.out.mono (show w2.heap.size + 1 ≤ wd.heap.size from HWD.out))
            clear hba hrun hst hkk ST13 T13 P13 B13 BW13 P14
            have c3 := C14.out.c3
            by_cases hfull : (n : Int) + 1 > ce0
            · obtain ⟨xx, tt, hlx, hpt⟩ := put_full HMQ.out (m := msg) (by rw [HLN.out]; exact hfull)
              have hst2 := ST14.out
              rw [hlx, List.map_cons, List.cons_append] at hst2
              obtain ⟨A15, c15, hsl, hst3⟩ := hst2.tail
              have ST15 := Lib.hid hst3
              have hsl1 := hsl .i64
              have hn5 : n5 = n := by
                have h1 := HN5.out
                rw [hpt, List.length_append] at h1
                have h2 := HLN.out
                rw [hlx] at h2
                simp at h1 h2
                omega
              subst hn5
              have HPT := Lib.hid hpt
              clear hst2 hst3 hsl hlx hpt
              go_wp2_with (first
                | (at_builtin; refine wpList_append_run rfl (.tmp 68) (.tmp 74) rfl rfl rfl RUN.out ?_)
                | fail)
              go_roundw
              case rel => exact ⟨i + 1, A5, n5, k5, _, HLT.out, by go_num, T14.out, HK5.out, P15.out, HMQ'.out, by rw [HPT.out, List.map_append]; exact ST15.out, B14.out⟩
              case measure => have := HLT.out; simp [intOf]; omega
            · have hpr := put_room HMQ.out (m := msg) (by rw [HLN.out]; exact hfull)
              have hn5 : n5 = n + 1 := by
                have h1 := HN5.out
                rw [hpr, List.length_append, HLN.out] at h1
                exact h1.symm
              subst hn5
              have HPR := Lib.hid hpr
              clear hpr
              go_wp2_with (first
                | (at_builtin; refine wpList_append_run rfl (.tmp 68) (.tmp 74) rfl rfl rfl RUN.out ?_)
                | fail)
              go_roundw
              case rel => exact ⟨i + 1, A5, n + 1, k5, _, HLT.out, by go_num, T14.out, HK5.out, P15.out, HMQ'.out, by rw [HPR.out, List.map_append]; exact ST14.out, B14.out⟩
              case measure => have := HLT.out; simp [intOf]; omega
          · go_simp
            have hba := (Below.refl wd.heap.size wd).alloc (Nat.le_refl _) (.cells #[.int .i64 0, .int .i64 0, .int .i64 0, .int .i64 0, .int .i64 0, .slice none 0 0] 26)
            have T9a := Lib.hid (QB.new wd 0 0 0 0 0 (.slice none 0 0))
            have Bx := Lib.hid hba
            refine hK.out _ _ (SK.out _ hba) (fun hHeld => ?_)
            clear hK K hba
            have HSX : Hid ((wd.alloc (.cells #[.int .i64 0, .int .i64 0, .int .i64 0, .int .i64 0, .int .i64 0, .slice none 0 0] 26)).heap.size = wd.heap.size + 1) := by show _ = _; simp
            generalize wd.alloc (.cells #[.int .i64 0, .int .i64 0, .int .i64 0, .int .i64 0, .int .i64 0, .slice none 0 0] 26) = wx at *
            refine wpAnyH_ready (rs := [5]) (by kernel_rfl) (by simp) ?_
            refine AllReadyH.cons rfl (fun K hK => ?_) AllReadyH.nil
            go_simp
            refine (wPut ca0 cb0 cd0 ce0 cs0 A A1 n k m1 c1 l msg wx (O.out.to Bx.out).full HNK.out (by have := HNS.out; omega) (HRD.out.to Bx.out)).mono ?_
            rintro x5 wa hP
            obtain ⟨A5, n5, k5, rfl, ho5, hk5, hk5', hb⟩ := hP.get (errP_short HMQ.out HLG.out)
            have O5 := Lib.hid ho5
            have HK5 := Lib.hid hk5
            clear ho5 hk5 hk5'
            have B5 := Lib.hid hb
            clear hP hb
            go_wp2_with fail
            refine hK.out _ _ (SK.out _ (Bx.out.trans (B5.out.mono Bx.out.size))) (fun hHeld => ?_)
            clear hK K
            refine wpAnyH_take (i := 6) (v := ?_) rfl (by kernel_rfl) (by kernel_rfl) (by kernel_rfl) (fun _ _ _ h => h) (Or.inl ⟨by rfl, ?_⟩) (by assumption) ?_
            rotate_left 1
            · intro w hSw; (try dsimp only at hSw); go_simp; (try with_reducible rfl)
            simp only [Act.put, List.getElem_toArray, List.getElem_cons_zero, List.getElem_cons_succ, List.setIfInBounds_toArray, List.set_cons_zero, List.set_cons_succ]
            refine wpAnyH_take (i := 7) (v := ?_) rfl (by kernel_rfl) (by kernel_rfl) (by kernel_rfl) (fun _ _ _ h => h) (Or.inl ⟨by rfl, ?_⟩) (by assumption) ?_
            rotate_left 1
            · intro w hSw; (try dsimp only at hSw); go_simp; (try with_reducible rfl)
            simp only [Act.put, List.getElem_toArray, List.getElem_cons_zero, List.getElem_cons_succ, List.setIfInBounds_toArray, List.set_cons_zero, List.set_cons_succ]
            refine wpAnyH_take (i := 8) (v := ?_) rfl (by kernel_rfl) (by kernel_rfl) (by kernel_rfl) (fun _ _ _ h => h) (Or.inl ⟨by rfl, ?_⟩) (by assumption) ?_
            rotate_left 1
            · intro w hSw; (try dsimp only at hSw); go_simp; (try with_reducible rfl)
            simp only [Act.put, List.getElem_toArray, List.getElem_cons_zero, List.getElem_cons_succ, List.setIfInBounds_toArray, List.set_cons_zero, List.set_cons_succ]
            have T9 := Lib.hid (T9a.out.to B5.out)
            have B5a := Lib.hid (Bx.out.trans (B5.out.mono Bx.out.size))
            have HG9 : Hid (w2.heap.size < wd.heap.size ∧ wd.heap.size ≤ wd.heap.size) := ⟨T.out.lt, Nat.le_refl _⟩
            have O9 := Lib.hid ((O5.out.kept ((Keep.refl (fun b => b = wd.heap.size) wa).setQ wd.heap.size ⟨ca0, cb0, cd0, ce0, cs0⟩ (.slice A5 n5 k5) rfl) (fun b h => by have := HSX.out; omega)).mono (show wd.heap.size ≤ wx.heap.size by have := HSX.out; omega))
            clear O5
            obtain ⟨r0, r1, r2, r3, r4, r5⟩ := T9.out.qx.six
            obtain ⟨f0, f1, f2, f3, f4, f5⟩ := T9.out.zeros
            have T10 := Lib.hid (T9.out.put ⟨ca0, cb0, cd0, ce0, cs0⟩ (.slice A5 n5 k5))
            have B10 := Lib.hid (below_setQ B5a.out HG9.out.2 ⟨ca0, cb0, cd0, ce0, cs0⟩ (.slice A5 n5 k5))
            refine wpAnyH_ready (rs := [10]) (by kernel_rfl) (by simp) ?_
            refine AllReadyH.cons rfl (fun K hK => ?_) AllReadyH.nil
            go_simp
            refine hK.out _ _ (SK.out _ B10.out) (fun hHeld => ?_)
            clear hK K
            refine wpAnyH_ready (rs := [11]) (by kernel_rfl) (by simp) ?_
            refine AllReadyH.cons rfl (fun K hK => ?_) AllReadyH.nil
            go_simp
            refine hK.out _ _ (SK.out _ B10.out) (fun hHeld => ?_)
            clear hK K
            refine wpAnyH_done (by kernel_rfl) ?_ _
            clear hHeld r0 r1 r2 r3 r4 r5 f0 f1 f2 f3 f4 f5 SK
            change Exit.then _ _ _ _ (setQ wa _ ⟨ca0, cb0, cd0, ce0, cs0⟩ (.slice A5 n5 k5))
            have T11 := Lib.hid (T.out.to B10.out)
            have O11 := Lib.hid (O.out.to B10.out)
            have ST11 := Lib.hid (ST.out.to B10.out)
            have C11 := Lib.hid (C.out.to B10.out)
            have B11 := Lib.hid (B3.out.trans (B10.out.mono B3.out.size))
            have BW11 := Lib.hid (B.out.trans (B10.out.mono B.out.size))
            have HWD : Hid (w2.heap.size < wd.heap.size) := T.out.lt
            have G11 := Lib.hid T10.out
            have P11 := Lib.hid O9.out
            clear T O ST C B3 B5 B5a T9 HCL HRD B HG9
            generalize setQ wa _ ⟨ca0, cb0, cd0, ce0, cs0⟩ (.slice A5 n5 k5) = w11 at *
            have row := (BW11.out.cell (p := ⟨bb, o + i, none⟩) HBB.out).trans HCW.out
            have c4 := C11.out.c4
            go_wp2_with fail
            refine wp_region_held_drew (S := (fun w' => w'.cell? ⟨bb, o + i, none⟩ = some (.slice A1 m1 c1) ∧ w'.cell? ⟨w.heap.size, 4, none⟩ = some (.int .i64 cs0))) (by kernel_rfl) (⟨row, c4⟩) (fun hHeld => ?_)
            refine wpAnyH_take (i := 0) (v := ?_) rfl (by kernel_rfl) (by kernel_rfl) (by kernel_rfl) (fun _ _ _ h => h) (Or.inl ⟨by rfl, ?_⟩) (by assumption) ?_
            rotate_left 1
            · intro w hSw; (try dsimp only at hSw); go_simp; (try with_reducible rfl)
            simp only [Act.put, List.getElem_toArray, List.getElem_cons_zero, List.getElem_cons_succ, List.setIfInBounds_toArray, List.set_cons_zero, List.set_cons_succ]
            refine wpAnyH_take (i := 1) (v := ?_) rfl (by kernel_rfl) (by kernel_rfl) (by kernel_rfl) (fun _ _ _ h => h) (Or.inl ⟨by rfl, ?_⟩) (by assumption) ?_
            rotate_left 1
            · intro w hSw; (try dsimp only at hSw); go_simp; (try with_reducible rfl)
            simp only [Act.put, List.getElem_toArray, List.getElem_cons_zero, List.getElem_cons_succ, List.setIfInBounds_toArray, List.set_cons_zero, List.set_cons_succ]
            refine wpAnyH_take (i := 2) (v := ?_) rfl (by kernel_rfl) (by kernel_rfl) (by kernel_rfl) (fun _ _ _ h => h) (Or.inl ⟨by rfl, ?_⟩) (by assumption) ?_
            rotate_left 1
            · intro w hSw; (try dsimp only at hSw); go_simp; (try with_reducible rfl)
            simp only [Act.put, List.getElem_toArray, List.getElem_cons_zero, List.getElem_cons_succ, List.setIfInBounds_toArray, List.set_cons_zero, List.set_cons_succ]
            refine wpAnyH_take (i := 3) (v := ?_) rfl (by kernel_rfl) (by kernel_rfl) (by kernel_rfl) (fun _ _ _ h => h) (Or.inl ⟨by rfl, ?_⟩) (by assumption) ?_
            rotate_left 1
            · intro w hSw; (try dsimp only at hSw); go_simp; (try with_reducible rfl)
            simp only [Act.put, List.getElem_toArray, List.getElem_cons_zero, List.getElem_cons_succ, List.setIfInBounds_toArray, List.set_cons_zero, List.set_cons_succ]
            refine wpAnyH_take (i := 4) (v := ?_) rfl (by kernel_rfl) (by kernel_rfl) (by kernel_rfl) (fun _ _ _ h => h) (Or.inl ⟨by rfl, ?_⟩) (by assumption) ?_
            rotate_left 1
            · intro w hSw; (try dsimp only at hSw); go_simp; (try with_reducible rfl)
            simp only [Act.put, List.getElem_toArray, List.getElem_cons_zero, List.getElem_cons_succ, List.setIfInBounds_toArray, List.set_cons_zero, List.set_cons_succ]
            refine wpAnyH_take (i := 5) (v := ?_) rfl (by kernel_rfl) (by kernel_rfl) (by kernel_rfl) (fun _ _ _ h => h) (Or.inl ⟨by rfl, ?_⟩) (by assumption) ?_
            rotate_left 1
            · intro w hSw; (try dsimp only at hSw); go_simp; (try with_reducible rfl)
            simp only [Act.put, List.getElem_toArray, List.getElem_cons_zero, List.getElem_cons_succ, List.setIfInBounds_toArray, List.set_cons_zero, List.set_cons_succ]
            refine wpAnyH_take (i := 6) (v := ?_) rfl (by kernel_rfl) (by kernel_rfl) (by kernel_rfl) (fun _ _ _ h => h) (Or.inl ⟨by rfl, ?_⟩) (by assumption) ?_
            rotate_left 1
            · intro w hSw; (try dsimp only at hSw); go_simp; (try with_reducible rfl)
            simp only [Act.put, List.getElem_toArray, List.getElem_cons_zero, List.getElem_cons_succ, List.setIfInBounds_toArray, List.set_cons_zero, List.set_cons_succ]
            refine wpAnyH_take (i := 7) (v := ?_) rfl (by kernel_rfl) (by kernel_rfl) (by kernel_rfl) (fun _ _ _ h => h) (Or.inl ⟨by rfl, ?_⟩) (by assumption) ?_
            rotate_left 1
            · intro w hSw; (try dsimp only at hSw); go_simp; (try with_reducible rfl)
            simp only [Act.put, List.getElem_toArray, List.getElem_cons_zero, List.getElem_cons_succ, List.setIfInBounds_toArray, List.set_cons_zero, List.set_cons_succ]
            refine wpAnyH_done (by kernel_rfl) ?_ _
            clear hHeld row c4
            obtain ⟨w12, hw12⟩ : ∃ w12, w11.drew = w12 := ⟨_, rfl⟩
            have T12 : Hid (QB w12 w2.heap.size ⟨ca0, cb0, cd0, ce0, cs0⟩ (.slice A n k)) := by rw [← hw12]; exact T11.out
            have O12 : Hid (OwS w12 (w2.heap.size + 1) A n (l.map fullR)) := by rw [← hw12]; exact O11.out.to ((Below.refl _ _).drew)
            have ST12 : Hid (StrR w12 (w2.heap.size + 1) (.slice Av n cv) n (l.map strM)) := by rw [← hw12]; exact ST11.out.to ((Below.refl _ _).drew)
            have B12 : Hid (Below w2.heap.size w2 w12) := by rw [← hw12]; exact B11.out.drew
            have BW12 : Hid (Below w.heap.size w w12) := by rw [← hw12]; exact BW11.out.drew
            have C12 : Hid (Cx w12 w.heap.size ⟨ca0, cb0, cd0, ce0, cs0⟩) := by rw [← hw12]; exact C11.out.to ((Below.refl _ _).drew)
            have G12 := Lib.hid (G11.out.to ((Below.refl w11.heap.size w11).drew))
            rw [hw12] at G12
            have P12 : Hid (OwS w12 wd.heap.size A5 n5 ((putM ⟨ca0, cb0, cd0, ce0, cs0⟩ l msg).map fullR)) := by rw [← hw12]; exact P11.out.to ((Below.refl _ _).drew)
            rw [hw12]
            clear hw12 T11 O11 ST11 B11 BW11 C11 T10 B10 G11 P11 O9
            have hlo := HLO.out
            obtain ⟨g0, g1, g2, g3, g4, g5⟩ := G12.out.qx.six
            obtain ⟨r0, r1, r2, r3, r4, r5⟩ := T12.out.qx.six
            obtain ⟨f0, f1, f2, f3, f4, f5⟩ := T12.out.zeros
            go_upto_region 18 with (fail)
            change Code.wp _ _ _ _ (setQ w12 w2.heap.size ⟨ca0, cb0, cd0, ce0, cs0⟩ (.slice A5 n5 k5))
            have KQ := (Keep.refl (fun b => b = w2.heap.size) w12).setQ w2.heap.size ⟨ca0, cb0, cd0, ce0, cs0⟩ (.slice A5 n5 k5) rfl
            have T13 := Lib.hid (T12.out.put ⟨ca0, cb0, cd0, ce0, cs0⟩ (.slice A5 n5 k5))
            have P13 := Lib.hid (P12.out.kept KQ (fun b e => by have := HWD.out; omega))
            have ST13 := Lib.hid (ST12.out.kept KQ (fun b e => by omega))
            have B13 := Lib.hid (below_setQ B12.out (Nat.le_refl _) ⟨ca0, cb0, cd0, ce0, cs0⟩ (.slice A5 n5 k5))
            have BW13 := Lib.hid (below_setQ BW12.out B2.out.size ⟨ca0, cb0, cd0, ce0, cs0⟩ (.slice A5 n5 k5))
            have STB : Hid (∀ b, SBlk (.slice Av n cv) b → w2.heap.size + 1 ≤ b ∧ b < wd.heap.size) := fun b hb => ⟨(ST12.out.blk hb).1, HSB.out b hb⟩
            clear g0 g1 g2 g3 g4 g5 r0 r1 r2 r3 r4 r5 f0 f1 f2 f3 f4 f5 KQ T12 P12 ST12 B12 BW12 C12 O12 G12 hlo
            generalize setQ w12 w2.heap.size ⟨ca0, cb0, cd0, ce0, cs0⟩ (.slice A5 n5 k5) = w13 at *
            have row := (BW13.out.cell (p := ⟨bb, o + i, none⟩) HBB.out).trans HCW.out
            have hcv := (HRW.out.below BW13.out).str (c := c1)
            change (convert 27 9 (.slice A1 m1 c1)).run Try.prog w13 = .ok (.string (strM msg)) w13 at hcv
            have hba := (Below.refl w13.heap.size w13).alloc (Nat.le_refl _) (.cells #[.string (strM msg)] 9)
            obtain ⟨v14, w14, hrun, hst, hkk⟩ := run_pushT 49 (ST13.out.to hba) (heap_alloc_last w13 (.cells #[.string (strM msg)] 9)) (Nat.le_trans (show w2.heap.size + 1 ≤ w13.heap.size from Nat.lt_of_lt_of_le T13.out.lt (Nat.le_refl _)) hba.size) (by have := HNS.out; omega)
            obtain ⟨A14, c14, rfl, _⟩ := hst.slice
            have RUN := Lib.hid hrun
            have ST14 := Lib.hid hst
            have T14 := Lib.hid ((T13.out.to hba).kept hkk (fun h => by have := (STB.out _ h).1; omega))
            have P14 := Lib.hid ((P13.out.to hba).kept hkk (fun b h => (STB.out b h).2))
            have B14 := Lib.hid (hkk.below (B13.out.trans (hba.mono B13.out.size)) (Nat.le_trans B13.out.size hba.size) (fun b h => by have := (STB.out b h).1; omega))
            have C14 := Lib.hid (C2.out.to B14.out)
            have HN5 : Hid ((putM ⟨ca0, cb0, cd0, ce0, cs0⟩ l msg).length = n5) := by show _ = _; have := P14.out.1; rwa [List.length_map] at this
            have HMQ' := Lib.hid (putM_may HMQ.out HLG.out)
            have P15 := Lib.hid (P14.out.mono (show w2.heap.size + 1 ≤ wd.heap.size from HWD.out))
            clear hba hrun hst hkk ST13 T13 P13 B13 BW13 P14
            have c3 := C14.out.c3
            by_cases hfull : (n : Int) + 1 > ce0
            · obtain ⟨xx, tt, hlx, hpt⟩ := put_full HMQ.out (m := msg) (by rw [HLN.out]; exact hfull)
              have hst2 := ST14.out
              rw [hlx, List.map_cons, List.cons_append] at hst2
              obtain ⟨A15, c15, hsl, hst3⟩ := hst2.tail
              have ST15 := Lib.hid hst3
              have hsl1 := hsl .i64
              have hn5 : n5 = n := by
                have h1 := HN5.out
                rw [hpt, List.length_append] at h1
                have h2 := HLN.out
                rw [hlx] at h2
                simp at h1 h2
                omega
              subst hn5
              have HPT := Lib.hid hpt
              clear hst2 hst3 hsl hlx hpt
              go_wp2_with (first
                | (at_builtin; refine wpList_append_run rfl (.tmp 68) (.tmp 74) rfl rfl rfl RUN.out ?_)
                | fail)
              go_roundw
              case rel => exact ⟨i + 1, A5, n5, k5, _, HLT.out, by go_num, T14.out, HK5.out, P15.out, HMQ'.out, by rw [HPT.out, List.map_append]; exact ST15.out, B14.out⟩
              case measure => have := HLT.out; simp [intOf]; omega
            · have hpr := put_room HMQ.out (m := msg) (by rw [HLN.out]; exact hfull)
              have hn5 : n5 = n + 1 := by
                have h1 := HN5.out
                rw [hpr, List.length_append, HLN.out] at h1
                exact h1.symm
              subst hn5
              have HPR := Lib.hid hpr
              clear hpr
              go_wp2_with (first
                | (at_builtin; refine wpList_append_run rfl (.tmp 68) (.tmp 74) rfl rfl rfl RUN.out ?_)
                | fail)
              go_roundw
              case rel => exact ⟨i + 1, A5, n + 1, k5, _, HLT.out, by go_num, T14.out, HK5.out, P15.out, HMQ'.out, by rw [HPR.out, List.map_append]; exact ST14.out, B14.out⟩
              case measure => have := HLT.out; simp [intOf]; omega
      · have hJ : ¬ (m1 : Int) > 0 := by omega
        clear h00 HCL HRD HSB
        obtain ⟨r0, r1, r2, r3, r4, r5⟩ := T.out.qx.six
        go_wp2_with fail
        refine (wTake ca0 cb0 cd0 ce0 cs0 A n k l wr O.out.full HNK.out (by have := HNS.out; omega)).mono ?_
        rintro x w4 hT
        clear r0 r1 r2 r3 r4 r5 hI hJ
        rcases l with _ | ⟨xx, tt⟩
        · obtain rfl : n = 0 := HLN.out.symm
          obtain ⟨Am, km, A5, k5, rfl, _, hb⟩ := hT.no (errT_none HMQ.out) (by decide)
          have hba := (Below.refl w4.heap.size w4).alloc (Nat.le_refl _) (.cells #[.int .i64 0, .int .i64 0, .int .i64 0, .int .i64 0, .int .i64 0, .slice A5 0 k5] 26)
          have hb4 := hb.trans (hba.mono hb.size)
          replace T := Lib.hid (T.out.to hb4)
          replace O := Lib.hid (O.out.to hb4)
          replace ST := Lib.hid (ST.out.to hb4)
          replace B3 := Lib.hid (B3.out.trans (hb4.mono B3.out.size))
          clear hT hb hba hb4
          go_upto_region 22 with (fail)
          generalize w4.alloc (.cells #[.int .i64 0, .int .i64 0, .int .i64 0, .int .i64 0, .int .i64 0, .slice A5 0 k5] 26) = w5 at *
          go_wp2_with fail
          go_roundw
          case rel => exact ⟨i + 1, A, 0, k, [], HLT.out, by go_num, T.out, HNK.out, O.out, HMQ.out, ST.out, B3.out⟩
          case measure => have := HLT.out; simp [intOf]; omega
        · obtain ⟨n', rfl⟩ : ∃ n', n = n' + 1 := ⟨tt.length, by rw [← HLN.out]; rfl⟩
          obtain ⟨Am, nm, km, A5, n5, k5, rfl, hmm, ho5, hk5, hk5', hb⟩ := hT.get (errT_some HMQ.out)
          have hn5 : n5 = n' := by
            have h1 := ho5.1
            have h2 := HLN.out
            simp at h1 h2
            omega
          subst hn5
          have hba := (Below.refl w4.heap.size w4).alloc (Nat.le_refl _) (.cells #[.int .i64 ca0, .int .i64 cb0, .int .i64 cd0, .int .i64 ce0, .int .i64 cs0, .slice A5 n5 k5] 26)
          have hb4 := hb.trans (hba.mono hb.size)
          have T12 := Lib.hid (Qx.new w4 ca0 cb0 cd0 ce0 cs0 (.slice A5 n5 k5))
          have O5 := Lib.hid (ho5.to hba)
          have M := Lib.hid (hmm.1.to hba)
          have HWD := Lib.hid T.out.lt
          replace T := Lib.hid (T.out.to hb4)
          replace ST := Lib.hid (ST.out.to hb4)
          replace B3 := Lib.hid (B3.out.trans (hb4.mono B3.out.size))
          have HK5 := Lib.hid hk5
          have HMT : Hid (mayQ ⟨ca0, cb0, cd0, ce0, cs0⟩ tt = true) := drop_may HMQ.out
          replace T12 := Lib.hid (T12.out 26)
          clear hT hb hba hb4 hmm ho5 hk5 hk5' O
          go_upto_region 22 with (fail)
          generalize w4.alloc (.cells #[.int .i64 ca0, .int .i64 cb0, .int .i64 cd0, .int .i64 ce0, .int .i64 cs0, .slice A5 n5 k5] 26) = w5 at *
          have hst := ST.out
          rw [List.map_cons] at hst
          obtain ⟨bs, os, rfl, hsc⟩ := hst.head
          obtain ⟨A15, c15, hsl, hst3⟩ := hst.tail
          have hz : (((n5 : Int) + 1) == 0) = false := by simp; omega
          have hy : ¬ ((n5 : Int) + 1) = 0 := by omega
          have hsc' : w5.cell? ⟨bs, os, none⟩ = some (.string (strOfNums (numsOf xx))) := hsc
          have hpos : 0 < n5 + 1 := Nat.succ_pos _
          have hposI : (0 : Int) < (n5 : Int) + 1 := by omega
          go_wp2_with fail
          refine wp_region_held_drew (S := (fun w' => w'.cell? ⟨bs, os, none⟩ = some (.string (strOfNums (numsOf xx))) ∧ Rd w' w'.heap.size Am nm xx)) (by kernel_rfl) (⟨hsc', M.out⟩) (fun hHeld => ?_)
          refine wpAnyH_take (i := 0) (v := ?_) rfl (by kernel_rfl) (by kernel_rfl) (by kernel_rfl) (fun _ _ _ h => h) (Or.inl ⟨by rfl, ?_⟩) (by assumption) ?_
          rotate_left 1
          · intro w hSw; (try dsimp only at hSw); go_simp; (try with_reducible rfl)
          simp only [Act.put, List.getElem_toArray, List.getElem_cons_zero, List.getElem_cons_succ, List.setIfInBounds_toArray, List.set_cons_zero, List.set_cons_succ]
          refine wpAnyH_take (i := 1) (v := ?_) rfl (by kernel_rfl) (by kernel_rfl) (by kernel_rfl) (fun _ _ _ h => h) (Or.inl ⟨by rfl, ?_⟩) (by assumption) ?_
          rotate_left 1
          · intro w hSw; (try dsimp only at hSw); go_simp; (try with_reducible rfl)
          simp only [Act.put, List.getElem_toArray, List.getElem_cons_zero, List.getElem_cons_succ, List.setIfInBounds_toArray, List.set_cons_zero, List.set_cons_succ]
          refine wpAnyH_take (i := 2) (v := ?_) rfl (by kernel_rfl) (by kernel_rfl) (by kernel_rfl) (fun _ _ _ h => h) (Or.inl ⟨by rfl, ?_⟩) (by assumption) ?_
          rotate_left 1
          · intro w hSw; (try dsimp only at hSw); go_simp; (try with_reducible rfl)
          simp only [Act.put, List.getElem_toArray, List.getElem_cons_zero, List.getElem_cons_succ, List.setIfInBounds_toArray, List.set_cons_zero, List.set_cons_succ]
          refine wpAnyH_take (i := 3) (v := ?_) rfl (by kernel_rfl) (by kernel_rfl) (by kernel_rfl) (fun _ _ _ h => h) (Or.inl ⟨by rfl, ?_⟩) (by assumption) ?_
          rotate_left 1
          · intro w hSw; (try dsimp only at hSw); go_simp; (try with_reducible rfl)
          simp only [Act.put, List.getElem_toArray, List.getElem_cons_zero, List.getElem_cons_succ, List.setIfInBounds_toArray, List.set_cons_zero, List.set_cons_succ]
          refine wpAnyH_take (i := 4) (v := ?_) rfl (by kernel_rfl) (by kernel_rfl) (by kernel_rfl) (fun _ _ _ h => h) (Or.inl ⟨by rfl, ?_⟩) (by assumption) ?_
          rotate_left 1
          · intro w hSw; (try dsimp only at hSw); have hcv := hSw.2.str (c := km); go_simp; (try with_reducible rfl)
          simp only [Act.put, List.getElem_toArray, List.getElem_cons_zero, List.getElem_cons_succ, List.setIfInBounds_toArray, List.set_cons_zero, List.set_cons_succ]
          refine wpAnyH_take (i := 5) (v := ?_) rfl (by kernel_rfl) (by kernel_rfl) (by kernel_rfl) (fun _ _ _ h => h) (Or.inl ⟨by rfl, ?_⟩) (by assumption) ?_
          rotate_left 1
          · intro w hSw; (try dsimp only at hSw); go_simp; (try with_reducible rfl)
          simp only [Act.put, List.getElem_toArray, List.getElem_cons_zero, List.getElem_cons_succ, List.setIfInBounds_toArray, List.set_cons_zero, List.set_cons_succ]
          refine wpAnyH_take (i := 6) (v := ?_) rfl (by kernel_rfl) (by kernel_rfl) (by kernel_rfl) (fun _ _ _ h => h) (Or.inl ⟨by rfl, ?_⟩) (by assumption) ?_
          rotate_left 1
          · intro w hSw; (try dsimp only at hSw); go_simp; (try with_reducible rfl)
          simp only [Act.put, List.getElem_toArray, List.getElem_cons_zero, List.getElem_cons_succ, List.setIfInBounds_toArray, List.set_cons_zero, List.set_cons_succ]
          refine wpAnyH_take (i := 7) (v := ?_) rfl (by kernel_rfl) (by kernel_rfl) (by kernel_rfl) (fun _ _ _ h => h) (Or.inl ⟨by rfl, ?_⟩) (by assumption) ?_
          rotate_left 1
          · intro w hSw; (try dsimp only at hSw); go_simp; (try with_reducible rfl)
          simp only [Act.put, List.getElem_toArray, List.getElem_cons_zero, List.getElem_cons_succ, List.setIfInBounds_toArray, List.set_cons_zero, List.set_cons_succ]
          refine wpAnyH_take (i := 8) (v := ?_) rfl (by kernel_rfl) (by kernel_rfl) (by kernel_rfl) (fun _ _ _ h => h) (Or.inl ⟨by rfl, ?_⟩) (by assumption) ?_
          rotate_left 1
          · intro w hSw; (try dsimp only at hSw); go_simp; (try with_reducible rfl)
          simp only [Act.put, List.getElem_toArray, List.getElem_cons_zero, List.getElem_cons_succ, List.setIfInBounds_toArray, List.set_cons_zero, List.set_cons_succ]
          refine wpAnyH_take (i := 9) (v := ?_) rfl (by kernel_rfl) (by kernel_rfl) (by kernel_rfl) (fun _ _ _ h => h) (Or.inl ⟨by rfl, ?_⟩) (by assumption) ?_
          rotate_left 1
          · intro w hSw; (try dsimp only at hSw); go_simp; (try with_reducible rfl)
          simp only [Act.put, List.getElem_toArray, List.getElem_cons_zero, List.getElem_cons_succ, List.setIfInBounds_toArray, List.set_cons_zero, List.set_cons_succ]
          refine wpAnyH_done (by kernel_rfl) ?_ _
          clear hHeld
          obtain ⟨w6, hw6⟩ : ∃ w6, w5.drew = w6 := ⟨_, rfl⟩
          have T6 : Hid (QB w6 w2.heap.size ⟨ca0, cb0, cd0, ce0, cs0⟩ (.slice A (n5 + 1) k)) := by rw [← hw6]; exact T.out
          have O6 : Hid (OwS w6 wr.heap.size A5 n5 (tt.map fullR)) := by rw [← hw6]; exact O5.out.to ((Below.refl _ _).drew)
          have ST6 : Hid (StrR w6 (w2.heap.size + 1) (.slice A15 n5 c15) n5 (tt.map strM)) := by rw [← hw6]; exact hst3.to ((Below.refl _ _).drew)
          have B6 : Hid (Below w2.heap.size w2 w6) := by rw [← hw6]; exact B3.out.drew
          have T126 := Lib.hid (T12.out.to ((Below.refl w5.heap.size w5).drew))
          rw [hw6] at T126
          rw [hw6]
          clear hw6 T O5 ST B3 T12 hst hsc hsc' M
          have hsl1 := hsl .i64
          obtain ⟨g0, g1, g2, g3, g4, g5⟩ := T126.out.six
          obtain ⟨r0, r1, r2, r3, r4, r5⟩ := T6.out.qx.six
          obtain ⟨f0, f1, f2, f3, f4, f5⟩ := T6.out.zeros
          have KQ := (Keep.refl (fun b => b = w2.heap.size) w6).setQ w2.heap.size ⟨ca0, cb0, cd0, ce0, cs0⟩ (.slice A5 n5 k5) rfl
          have T7 := Lib.hid (T6.out.put ⟨ca0, cb0, cd0, ce0, cs0⟩ (.slice A5 n5 k5))
          have O7 := Lib.hid ((O6.out.kept KQ (fun b e => by have := HWD.out; omega)).mono (show w2.heap.size + 1 ≤ wr.heap.size from HWD.out))
          have ST7 := Lib.hid (ST6.out.kept KQ (fun b e => by omega))
          have B7 := Lib.hid (below_setQ B6.out (Nat.le_refl _) ⟨ca0, cb0, cd0, ce0, cs0⟩ (.slice A5 n5 k5))
          clear KQ hsl
          go_wp2_with fail
          go_roundw
          case rel => exact ⟨i + 1, A5, n5, k5, tt, HLT.out, by go_num, T7.out, HK5.out, O7.out, HMT.out, ST7.out, B7.out⟩
          case measure => have := HLT.out; simp [intOf]; omega
    · obtain rfl : i = len1 := by omega
      have hltI : ¬ (i : Int) < (i : Int) := by omega
      clear hi hlt
      obtain ⟨y0, y1, y2, y3, y4, y5⟩ := T.out.qx.six
      go_wp2_with fail
      refine (wMayQ ca0 cb0 cd0 ce0 cs0 A n k l wr O.out.full (by have := HNS.out; omega)).mono ?_
      rintro x w4 ⟨rfl, hb⟩
      rw [HMQ.out]
      replace B := Lib.hid (B.out.trans (hb.mono B.out.size))
      clear hb y0 y1 y2 y3 y4 y5
      go_wp2_with fail
      refine (awake w4).mono ?_
      rintro x w9 ⟨rfl, hb⟩
      have B9 := Lib.hid (B.out.trans (hb.mono B.out.size))
      clear hb
      go_wp2_with fail
      go_ret
      exact ⟨rfl, B9.out⟩

set_option maxRecDepth 100000 in
theorem lifted (os : Os) (started : os.Started) (H : Type) (enc : TypeId × Value → H) :
    ReturnsInHanded {} Try.checked os 6 .any (Rows.channelOrderSpec.pre6 enc Try.prog Try.f6 Rows.channelOrderRow.domain false) (Rows.channelOrderSpec.post enc Try.prog Try.f6 false true false false) := by
  refine returnsInHanded_of_change_sized (C := Try.checked) own started (by kernel_rfl) Try.func6
    (ChangeSpec.witness6 (enc := enc) (C := Try.checked) false ⟨#[], #[.agg #[.int .i64 0, .int .i64 0, .int .i64 0, .int .i64 0, .int .i64 0], .slice none 0 0], []⟩ 8 (by kernel_rfl) (by kernel_rfl) (by kernel_rfl) (by kernel_rfl)) ?_
  intro W base args ds gs before hval0 hW hcnd hsz0 _
  have hval : ∀ (j : Nat) t v, Try.f6.params[j]? = some t → args[j]? = some v → Value.okWide Try.prog W .any base t v := hval0
  have hsz : (DataW.weightsEach Try.prog (Try.f6.params.toList ++ Rows.channelOrderSpec.plain.varTypes Try.prog) (ds ++ gs)).all (· ≤ reachBytes) = true := hsz0
  have hW' := hW
  obtain ⟨p, q, hA0, hV, rfl, hfz, hnd⟩ := hW
  have hA : DataW.TrodAll enc Try.prog W 0 (fun _ => true) true Try.f6.params.toList args.toList ds p := hA0
  rw [Try.params6] at hA hval hsz
  obtain ⟨v0, vs0, d0, ds0, p0, q0, hargs, rfl, rfl, h0, r0⟩ := trodAll_cons hA
  obtain ⟨v1, vs1, d1, ds1, p1, q1, rfl, rfl, rfl, h1, r1⟩ := trodAll_cons r0
  obtain ⟨rfl, rfl, rfl⟩ := trodAll_nil r1
  obtain rfl : args = #[v0, v1] := by cases args; simp_all
  obtain ⟨rfl, rfl⟩ := trodVars_none hV
  have sz1 : ∀ x ∈ d1.weights Try.prog 24, x ≤ reachBytes := fun x hx => by simpa using List.all_eq_true.1 hsz _ (DataW.weights_mem_each (j := 1) rfl rfl x hx)
  have k0 := h0
  have lt0 : ∀ x ∈ p0, x.block < W.heap.size := by obtain ⟨m, hm⟩ := k0; exact DataW.trod_lt m _ _ _ hm
  obtain ⟨c0, rfl, w0⟩ := open_ch (hval 0 23 v0 rfl rfl) h0
  have k1 := h1
  have lt1 : ∀ x ∈ p1, x.block < W.heap.size := by obtain ⟨m, hm⟩ := k1; exact DataW.trod_lt m _ _ _ hm
  obtain ⟨a1, len1, cap1, bss1, rfl, w1⟩ := open_rowsS Try.underlying24 Try.underlying27 Try.underlying5 (by kernel_rfl) (by kernel_rfl) (by kernel_rfl) (by kernel_rfl) (hval 1 24 v1 rfl rfl) h1 sz1
  clear hA0 hval0
  refine (walk c0.id c0.fr c0.dst c0.cap c0.size a1 len1 cap1 bss1 W w0 w1).mono fun e W' ⟨he, bel⟩ => ?_
  subst he
  exact ⟨_, rfl, _, _, _, [], _, [], hW', trodAll_mk1 (shut_bool Try.underlying4 _), (trodAll_cons_mk (Below.trod laidOut (by kernel_rfl) (of_decide_eq_true (by kernel_rfl)) k0 bel lt0) (trodAll_cons_mk (Below.trod laidOut (by kernel_rfl) (of_decide_eq_true (by kernel_rfl)) k1 bel lt1) trodAll_mk0)), rfl, bel.frame _, fun h => by cases h⟩

theorem over : Rows.channelOrderRow.holds Try.pinned (OpenSpec.ofChange Rows.channelOrderSpec) :=
  OpenClaim.holds_of_wide 6 Try.f6 rfl rfl rfl rfl rfl rfl rfl ⟨rfl, rfl, rfl, rfl, rfl⟩ rfl rfl rfl rfl rfl (by kernel_rfl) Try.func6 (by kernel_rfl)
    (of_decide_eq_true (by kernel_rfl)) (by unfold Func.isWrapper; first | (rw [if_pos (by decide +kernel)]; kernel_rfl) | (rw [if_neg (by decide +kernel)]; exact ⟨rfl, rfl⟩))
    (fun os started H enc _ => lifted os started H enc)

theorem proved : Rows.ChannelOrderSaid := over
end Go.Proofs.Ytkaobafgecoomaa.channelOrder
