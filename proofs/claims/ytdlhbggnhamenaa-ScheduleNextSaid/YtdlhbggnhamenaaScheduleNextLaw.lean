/- For any windows the law ScheduleNext of citadellaw09 returns true: from tick to tick a window has one left less, and behind its last one comes the next window's first one, with all of its own left (windows, at most 40). Conditions: none beyond those that the statement itself prints. -/
import Derived.Test.YtdlhbggnhamenaaRows
import Derived.Test.YtdlhbggnhamenaaSchE
import Derived.Test.YtdlhbggnhamenaaWin
import Derived.WalkKit
import Derived.ProofKit
import Derived.OpenShut
import Derived.ShutString
import Derived.ChangeOld
import Derived.Below
namespace Go.Proofs.Ytdlhbggnhamenaa.scheduleNext
open Go.ChangeShapes Go.WideShapes Go.ChangeAt Go.RowKit
open Go.ChangeMaps (open_string shut_string)
set_option linter.unusedVariables false
set_option linter.unusedSimpArgs false

theorem own : ownKnob Try.prog.godebug = none := by kernel_rfl
theorem laidOut : laidOutB Try.prog = true := by kernel_rfl

/-- What was told of the tick ahead of tick k. -/
def Prev (l : List Reg) (k : Nat) (p : Int × Int × Int × Int) : Prop :=
  (k = 0 ∧ p = (-1, 0, 0, 1)) ∨ (0 < k ∧ ∃ i, Stands l ((k : Int) - 1) i ∧ p = slotW l ((k : Int) - 1) i)
theorem prev_succ {l : List Reg} {k i : Nat} (hi : Stands l (k : Int) i) : Prev l (k + 1) (slotW l (k : Int) i) :=
  .inr ⟨Nat.succ_pos k, i, by rw [show ((k + 1 : Nat) : Int) - 1 = (k : Int) from by push_cast; omega]; exact hi, by rw [show ((k + 1 : Nat) : Int) - 1 = (k : Int) from by push_cast; omega]⟩
theorem prev_next {l : List Reg} (hm : mayW l = true) {k i : Nat} (hi : Stands l (k : Int) i) {p0 p1 p2 p3 : Int} (hp : Prev l k (p0, p1, p2, p3)) :
    (p3 > 1 ∧ slotW l (k : Int) i = (p0, p1, p2, p3 - 1)) ∨ (¬ p3 > 1 ∧ p0 + 1 = (i : Int) ∧ slotW l (k : Int) i = ((i : Int), (rat l i).2, (k : Int), (rat l i).1)) := by
  have hs := sumW_succ hi.1
  rcases hp with ⟨rfl, hp⟩ | ⟨hk, j, hj, hp⟩
  · simp only [Prod.mk.injEq] at hp
    obtain ⟨rfl, rfl, rfl, rfl⟩ := hp
    have h0 := stands_zero hm
    obtain rfl : i = 0 := stands_unique (may_ok hm) hi h0
    refine .inr ⟨by omega, rfl, ?_⟩
    unfold slotW
    rw [hs]
    simp [sumW_nil]
  · simp only [slotW, Prod.mk.injEq] at hp
    obtain ⟨rfl, rfl, rfl, rfl⟩ := hp
    have hk2 : (k : Int) - 1 + 1 < sumW l := by
      have := hi.2.2
      have := (sumW_take_le (may_ok hm) (i + 1)).2
      omega
    have hlt := hj.2.2
    rcases stands_next (may_ok hm) hj hk2 with ⟨h1, h2⟩ | ⟨h1, h2⟩
    · rw [show (k : Int) - 1 + 1 = (k : Int) from by omega] at h1 h2
      obtain rfl : i = j := stands_unique (may_ok hm) hi h2
      refine .inl ⟨by omega, ?_⟩
      unfold slotW
      congr 3
      omega
    · rw [show (k : Int) - 1 + 1 = (k : Int) from by omega] at h1 h2
      obtain rfl : i = j + 1 := stands_unique (may_ok hm) hi h2
      refine .inr ⟨by omega, by push_cast; rfl, ?_⟩
      unfold slotW
      rw [hs, ← h1]
      congr 3
      omega
theorem prev_end {l : List Reg} (hm : mayW l = true) {k : Nat} (hk : (k : Int) = sumW l) {p0 p1 p2 p3 : Int} (hp : Prev l k (p0, p1, p2, p3)) : p0 = (l.length : Int) - 1 ∧ p3 = 1 := by
  have := may_pos hm
  rcases hp with ⟨rfl, hp⟩ | ⟨h0, j, hj, hp⟩
  · omega
  · simp only [slotW, Prod.mk.injEq] at hp
    obtain ⟨rfl, rfl, rfl, rfl⟩ := hp
    rw [hk] at hj ⊢
    have hl := stands_last hm hj
    rw [hl, List.take_length]
    omega
set_option maxRecDepth 1000000 in
set_option maxHeartbeats 4000000 in
theorem walk (a0 : Option Addr) (len0 cap0 : Nat) (l0 : List Reg) (w : World) (w0 : RdG w w.heap.size a0 len0 l0 ∧ len0 ≤ cap0 ∧ cap0 ≤ 9223372036854775807) :
    Calls Try.prog 6 #[.slice a0 len0 cap0] w fun e w' => e = .returned (.bool true) ∧ Below w.heap.size w w' := by
  obtain ⟨r0, hcap, hcap'⟩ := w0
  have R := Lib.hid r0
  have HC : Hid (len0 ≤ 9223372036854775807) := Nat.le_trans hcap hcap'
  clear r0 hcap hcap'
  have B := Lib.hid (Below.refl w.heap.size w)
  by_cases h40 : 40 < len0
  · have h40I : (len0 : Int) > 40 := by omega
    clear h40
    go_enter Try.func6, Try.ntmps6
    go_wp2_with fail
    refine (awake _).mono ?_
    rintro e w9 ⟨rfl, hb⟩
    replace B := Lib.hid (B.out.trans (hb.mono B.out.size))
    clear hb
    go_wp2_with fail
    go_ret
    exact ⟨rfl, B.out⟩
  have h40I : ¬ (len0 : Int) > 40 := by omega
  clear h40
  go_enter Try.func6, Try.ntmps6
  go_wp2_with fail
  refine (Sch.may a0 len0 cap0 l0 w R.out HC.out).mono ?_
  rintro e w1 ⟨rfl, hb⟩
  replace B := Lib.hid (B.out.trans (hb.mono B.out.size))
  clear hb
  cases hm : mayW l0
  · clear hm
    go_wp2_with fail
    refine (awake _).mono ?_
    rintro e w9 ⟨rfl, hb⟩
    replace B := Lib.hid (B.out.trans (hb.mono B.out.size))
    clear hb
    go_wp2_with fail
    go_ret
    exact ⟨rfl, B.out⟩
  have HM := Lib.hid hm
  have HF : Hid (frameW l0 = sumW l0) := frameW_may hm
  have HP := Lib.hid (may_pos hm)
  obtain ⟨N, hN⟩ : ∃ N : Nat, sumW l0 = (N : Int) := ⟨(sumW l0).toNat, by have := may_pos hm; omega⟩
  have HN := Lib.hid hN
  clear hm hN
  have B1 := Lib.hid (B.out.alloc B.out.size (.cells #[.int .i64 (-1), .int .i64 0, .int .i64 0, .int .i64 1] 24))
  have X3 : Hid (Blk 24 (w1.alloc (.cells #[.int .i64 (-1), .int .i64 0, .int .i64 0, .int .i64 1] 24)) w1.heap.size [-1, 0, 0, 1]) := Blk.new 24 w1 [-1, 0, 0, 1]
  have HG : Hid (w.heap.size ≤ w1.heap.size) := B.out.size
  go_wp2_with fail
  refine (Sch.frame a0 len0 cap0 l0 _ ((R.out.below B1.out).more B1.out.size) HC.out).mono ?_
  generalize w1.alloc (.cells #[.int .i64 (-1), .int .i64 0, .int .i64 0, .int .i64 1] 24) = w2 at *
  rw [HF.out, HN.out]
  rintro e w3 ⟨rfl, hb⟩
  replace X3 := Lib.hid (X3.out.to hb)
  replace B := Lib.hid (B1.out.trans (hb.mono B1.out.size))
  clear hb B1
  generalize w1.heap.size = g3 at *
  go_wp2_with fail
  go_loopw [5, 6, 7] (fun s5 _ _ wr => ∃ k : Nat, k ≤ N ∧ s5 = .int .i64 (k : Int) ∧ Below w.heap.size w wr ∧ ∃ p0 p1 p2 p3, Blk 24 wr g3 [p0, p1, p2, p3] ∧ Prev l0 k (p0, p1, p2, p3)) (fun s5 _ _ _ => N - (intOf s5).toNat)
  case atStart => exact ⟨0, Nat.zero_le _, rfl, B.out, _, _, _, _, X3.out, .inl ⟨rfl, rfl⟩⟩
  case round =>
    obtain ⟨k, hk, rfl, hb, p0, p1, p2, p3, hx3, hprev⟩ := hrel
    replace B := Lib.hid hb
    replace X3 := Lib.hid hx3
    have HPV := Lib.hid hprev
    clear hb hx3 hprev
    by_cases hlt : k < N
    · have HLT : Hid (k < N) := hlt
      have hkI : (k : Int) < (N : Int) := by omega
      have hwk : IntKind.i64.wrap ((k : Int) + 1) = (k : Int) + 1 := by have := HP.out; have := HN.out; rw [IntKind.wrap_i64]; omega
      rcases at_cases l0 (k : Int) with ho | ⟨_, _, hm, i, hi, ha⟩
      · exfalso
        have := HF.out
        have := HN.out
        omega
      have HA := Lib.hid ha
      have HI := Lib.hid hi
      have hin : i < len0 := by rw [← R.out.1]; exact hi.1
      have HIN := Lib.hid hin
      have hiI : ¬ (i : Int) ≥ (len0 : Int) := by omega
      have hi0 : ¬ (i : Int) < 0 := by omega
      have HCS := Lib.hid (prev_next hm hi HPV.out)
      have HSU := Lib.hid (prev_succ hi)
      clear hk hlt hm hi ha hin
      go_wp2_with fail
      refine (Sch.stand a0 len0 cap0 l0 (k : Int) wr ((R.out.below B.out).more B.out.size) HC.out).mono ?_
      rw [HA.out]
      rintro e w4 ⟨rfl, hb⟩
      replace X3 := Lib.hid (X3.out.to hb)
      replace B := Lib.hid (B.out.trans (hb.mono B.out.size))
      clear hb
      rcases HCS.out with ⟨hp3, hsl⟩ | ⟨hp3, hp0, hsl⟩
      · have HE : Hid (p0 = (i : Int) ∧ p3 ≤ 65) := by
          show _ ∧ _
          have h1 := HPV.out
          rcases h1 with ⟨_, h1⟩ | ⟨_, j, hj, h1⟩
          · simp only [Prod.mk.injEq] at h1; omega
          · simp only [slotW, Prod.mk.injEq] at h1 hsl
            have := (sumW_take_le (may_ok HM.out) (j + 1)).2
            have := HP.out
            omega
        rw [hsl]
        rw [hsl] at HSU
        have hwl : IntKind.i64.wrap (p3 - 1) = p3 - 1 := by have := HE.out; rw [IntKind.wrap_i64]; omega
        obtain rfl := HE.out.1
        clear hsl HCS
        unfold slotV
        dsimp only
        have BW := Lib.hid ((Below.refl w4.heap.size w4).alloc (Nat.le_refl _) (.cells #[.int .i64 (i : Int), .int .i64 p1, .int .i64 p2, .int .i64 (p3 - 1)] 24))
        have X6 : Hid (Blk 24 (w4.alloc (.cells #[.int .i64 (i : Int), .int .i64 p1, .int .i64 p2, .int .i64 (p3 - 1)] 24)) w4.heap.size [(i : Int), p1, p2, p3 - 1]) := Blk.new 24 w4 [(i : Int), p1, p2, p3 - 1]
        have HNE : Hid (g3 < w4.heap.size) := X3.out.lt
        replace X3 := Lib.hid (X3.out.to BW.out)
        replace B := Lib.hid (B.out.alloc B.out.size (.cells #[.int .i64 (i : Int), .int .i64 p1, .int .i64 p2, .int .i64 (p3 - 1)] 24))
        go_upto_region 9 with (fail)
        generalize w4.alloc (.cells #[.int .i64 (i : Int), .int .i64 p1, .int .i64 p2, .int .i64 (p3 - 1)] 24) = w5 at *
        clear BW
        generalize w4.heap.size = g6 at *
        have hne : g3 ≠ g6 := Nat.ne_of_lt HNE.out
        have hne' : g6 ≠ g3 := Ne.symm hne
        have hgd := slot_guard
        have heq := slot_eq
        have c0 := X3.out.at 0 rfl
        have c1 := X3.out.at 1 rfl
        have c2 := X3.out.at 2 rfl
        have c3 := X3.out.at 3 rfl
        have f0 := X3.out.fz 0
        have f1 := X3.out.fz 1
        have f2 := X3.out.fz 2
        have f3 := X3.out.fz 3
        have d0 := X6.out.at 0 rfl
        have d1 := X6.out.at 1 rfl
        have d2 := X6.out.at 2 rfl
        have d3 := X6.out.at 3 rfl
        go_wp2_with fail
        go_roundw
        case rel => exact ⟨k + 1, HLT.out, by go_num, below_set4 (B.out.setCell (p := ⟨g3, 3, none⟩) HG.out _) HG.out _ _ _ _, _, _, _, _, (X3.out.set 3 (p3 - 1)).set4 _ _ _ _, HSU.out⟩
        case measure => have := HLT.out; simp [intOf]; omega
      · have hw0 : IntKind.i64.wrap (p0 + 1) = (i : Int) := by have := HP.out; have h1 := HIN.out; have h2 := R.out.1; rw [IntKind.wrap_i64]; omega
        rw [hsl]
        rw [hsl] at HSU
        clear hsl HCS hp0
        unfold slotV
        dsimp only
        obtain ⟨b, o, rfl, hbo, hc⟩ := ((R.out.below B.out).more B.out.size).2 (by have := HIN.out; omega)
        have e0 := (hc i HIN.out).1
        have e1 := (hc i HIN.out).2
        have hinI : (i : Int) < (len0 : Int) := by have := HIN.out; omega
        have BW := Lib.hid ((Below.refl w4.heap.size w4).alloc (Nat.le_refl _) (.cells #[.int .i64 (i : Int), .int .i64 (rat l0 i).2, .int .i64 (k : Int), .int .i64 (rat l0 i).1] 24))
        have X6 : Hid (Blk 24 (w4.alloc (.cells #[.int .i64 (i : Int), .int .i64 (rat l0 i).2, .int .i64 (k : Int), .int .i64 (rat l0 i).1] 24)) w4.heap.size [(i : Int), (rat l0 i).2, (k : Int), (rat l0 i).1]) := Blk.new 24 w4 [(i : Int), (rat l0 i).2, (k : Int), (rat l0 i).1]
        have HNE : Hid (g3 < w4.heap.size) := X3.out.lt
        replace X3 := Lib.hid (X3.out.to BW.out)
        replace B := Lib.hid (B.out.alloc B.out.size (.cells #[.int .i64 (i : Int), .int .i64 (rat l0 i).2, .int .i64 (k : Int), .int .i64 (rat l0 i).1] 24))
        have e0 := Below.kept BW.out e0
        have e1 := Below.kept BW.out e1
        clear hc
        go_upto_region 9 with (fail)
        generalize w4.alloc (.cells #[.int .i64 (i : Int), .int .i64 (rat l0 i).2, .int .i64 (k : Int), .int .i64 (rat l0 i).1] 24) = w5 at *
        clear BW
        generalize w4.heap.size = g6 at *
        have hne : g3 ≠ g6 := Nat.ne_of_lt HNE.out
        have hne' : g6 ≠ g3 := Ne.symm hne
        have c0 := X3.out.at 0 rfl
        have c1 := X3.out.at 1 rfl
        have c2 := X3.out.at 2 rfl
        have c3 := X3.out.at 3 rfl
        have f0 := X3.out.fz 0
        have f1 := X3.out.fz 1
        have f2 := X3.out.fz 2
        have f3 := X3.out.fz 3
        have d0 := X6.out.at 0 rfl
        have d1 := X6.out.at 1 rfl
        have d2 := X6.out.at 2 rfl
        have d3 := X6.out.at 3 rfl
        go_wp2_with fail
        go_quiet (fail)
        go_wp2_with fail
        go_roundw
        case rel => exact ⟨k + 1, HLT.out, by go_num, below_set4 (below_drewN B.out _) HG.out _ _ _ _, _, _, _, _, (X3.out.drewN _).set4 _ _ _ _, HSU.out⟩
        case measure => have := HLT.out; simp [intOf]; omega
    · obtain rfl : k = N := by omega
      have hkI : ¬ (k : Int) < (k : Int) := by omega
      obtain ⟨h0, h3⟩ := prev_end HM.out HN.out.symm HPV.out
      rw [R.out.1] at h0
      subst h0; subst h3
      have hwn : IntKind.i64.wrap ((len0 : Int) - 1) = (len0 : Int) - 1 := by have := HP.out; have := R.out.1; rw [IntKind.wrap_i64]; omega
      have c0 := X3.out.at 0 rfl
      have c3 := X3.out.at 3 rfl
      clear hk hlt HPV
      go_wp2_with fail
      refine (awake _).mono ?_
      rintro e w9 ⟨rfl, hb⟩
      replace B := Lib.hid (B.out.trans (hb.mono B.out.size))
      clear hb
      go_wp2_with fail
      go_ret
      exact ⟨rfl, B.out⟩

set_option maxRecDepth 100000 in
theorem lifted (os : Os) (started : os.Started) (H : Type) (enc : TypeId × Value → H) :
    ReturnsInHanded {} Try.checked os 6 .any (Rows.scheduleNextSpec.pre6 enc Try.prog Try.f6 Rows.scheduleNextRow.domain false) (Rows.scheduleNextSpec.post enc Try.prog Try.f6 false true false false) := by
  refine returnsInHanded_of_change (C := Try.checked) own started (by kernel_rfl) Try.func6
    (ChangeSpec.witness6 (enc := enc) (C := Try.checked) false ⟨#[], #[.slice none 0 0], []⟩ 8 (by kernel_rfl) (by kernel_rfl) (by kernel_rfl) (by kernel_rfl)) ?_
  intro W base args ds gs before hval0 hW hcnd _
  have hval : ∀ (j : Nat) t v, Try.f6.params[j]? = some t → args[j]? = some v → Value.okWide Try.prog W .any base t v := hval0
  have hW' := hW
  obtain ⟨p, q, hA0, hV, rfl, hfz, hnd⟩ := hW
  have hA : DataW.TrodAll enc Try.prog W 0 (fun _ => true) true Try.f6.params.toList args.toList ds p := hA0
  rw [Try.params6] at hA hval
  obtain ⟨v0, vs0, d0, ds0, p0, q0, hargs, rfl, rfl, h0, r0⟩ := trodAll_cons hA
  obtain ⟨rfl, rfl, rfl⟩ := trodAll_nil r0
  obtain rfl : args = #[v0] := by cases args; simp_all
  obtain ⟨rfl, rfl⟩ := trodVars_none hV
  have k0 := h0
  have lt0 : ∀ x ∈ p0, x.block < W.heap.size := by obtain ⟨m, hm⟩ := k0; exact DataW.trod_lt m _ _ _ hm
  obtain ⟨a0, len0, cap0, l0, rfl, w0⟩ := open_wins (hval 0 22 v0 rfl rfl) h0
  clear hA0 hval0
  refine (walk a0 len0 cap0 l0 W w0).mono fun e W' ⟨he, bel⟩ => ?_
  subst he
  exact ⟨_, rfl, _, _, _, [], _, [], hW', trodAll_mk1 (shut_bool Try.underlying4 _), (trodAll_cons_mk (Below.trod laidOut (by kernel_rfl) (of_decide_eq_true (by kernel_rfl)) k0 bel lt0) trodAll_mk0), rfl, bel.frame _, fun h => by cases h⟩

theorem over : Rows.scheduleNextRow.holds Try.pinned (OpenSpec.ofChange Rows.scheduleNextSpec) :=
  OpenClaim.holds_of_wide 6 Try.f6 rfl rfl rfl rfl rfl rfl rfl ⟨rfl, rfl, rfl, rfl, rfl⟩ rfl rfl rfl rfl rfl (by kernel_rfl) Try.func6 (by kernel_rfl)
    (of_decide_eq_true (by kernel_rfl)) (by unfold Func.isWrapper; first | (rw [if_pos (by decide +kernel)]; kernel_rfl) | (rw [if_neg (by decide +kernel)]; exact ⟨rfl, rfl⟩))
    (fun os started H enc _ => lifted os started H enc)

theorem proved : Rows.ScheduleNextSaid := over
end Go.Proofs.Ytdlhbggnhamenaa.scheduleNext
