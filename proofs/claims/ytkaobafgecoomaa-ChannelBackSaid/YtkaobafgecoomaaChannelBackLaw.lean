/- For any channel and any message the law ChannelBack of citadellaw10 returns true: a message that is put into an empty queue is taken, and leaves it empty (messages of at most 100 bytes). Conditions: none beyond those that the statement itself prints. -/
import Derived.Test.YtkaobafgecoomaaRows
import Derived.Test.YtkaobafgecoomaaChG
import Derived.WalkKit
import Derived.ProofKit
import Derived.OpenShut
import Derived.ShutString
import Derived.ChangeOld
import Derived.Below
namespace Go.Proofs.Ytkaobafgecoomaa.channelBack
open Go.ChangeShapes Go.WideShapes Go.ChangeAt Go.RowKit
open Go.ChangeMaps (open_string shut_string)
set_option linter.unusedVariables false
set_option linter.unusedSimpArgs false

theorem own : ownKnob Try.prog.godebug = none := by kernel_rfl
theorem laidOut : laidOutB Try.prog = true := by kernel_rfl

theorem may_nil {c : Ch} (h : mayC c = true) : mayQ c [] = true := by
  have := mayC_iff.1 h
  rw [mayQ_iff]
  exact ⟨h, by simp only [List.length_nil]; omega, by simp⟩
theorem put_nil {c : Ch} {m : List UInt8} (h : mayC c = true) : putM c [] m = [m] := by
  have := mayC_iff.1 h
  unfold putM
  split <;> simp
theorem errP_nil {c : Ch} {m : List UInt8} (h : mayC c = true) (hm : (m.length : Int) ≤ c.size) : errP c [] m = 0 := by
  unfold errP longM
  rw [if_pos (may_nil h), decide_eq_false (by omega)]; rfl
theorem errT_one {c : Ch} {m : List UInt8} (h : mayC c = true) (hm : (m.length : Int) ≤ c.size) : errT c [m] = 0 := by
  have := putM_may (m := m) (may_nil h) (by unfold longM; exact decide_eq_false (by omega))
  rw [put_nil h] at this
  unfold errT
  rw [if_pos this, if_neg (by simp)]
set_option maxRecDepth 1000000 in
set_option maxHeartbeats 4000000 in
theorem walk (ca0 cb0 cd0 ce0 cs0 : Int) (a1 : Option Addr) (len1 cap1 : Nat) (z1 : List Int) (w : World) (w0 : ChWf ⟨ca0, cb0, cd0, ce0, cs0⟩) (w1 : IsRow .u8 w a1 len1 cap1 z1) :
    Calls Try.prog 8 #[.agg #[.int .i64 ca0, .int .i64 cb0, .int .i64 cd0, .int .i64 ce0, .int .i64 cs0], .slice a1 len1 cap1] w fun e w' => e = .returned (.bool true) ∧ Below w.heap.size w w' := by
  obtain ⟨r1, hcap1, hcap1'⟩ := w1.rd
  generalize bytesIn (z1.take len1) = msg at r1
  have R0 := Lib.hid r1
  have HML := Lib.hid r1.1
  have hb1 := (Below.refl w.heap.size w).alloc (Nat.le_refl _) (.cells #[.int .i64 ca0, .int .i64 cb0, .int .i64 cd0, .int .i64 ce0, .int .i64 cs0] 23)
  have B := Lib.hid hb1
  have C := Lib.hid (Cx.new w ca0 cb0 cd0 ce0 cs0 23)
  obtain ⟨x0, x1, x2, x3, x4, _⟩ := C.out
  clear r1 w1 hcap1 hcap1' hb1 w0
  go_enter Try.func8, Try.ntmps8
  go_wp2_with fail
  generalize w.alloc (.cells #[.int .i64 ca0, .int .i64 cb0, .int .i64 cd0, .int .i64 ce0, .int .i64 cs0] 23) = w1 at *
  refine (wNew ca0 cb0 cd0 ce0 cs0 w1).mono ?_
  rintro x w2 ⟨rfl, hb⟩
  obtain ⟨X, hX⟩ : ∃ X, newC ⟨ca0, cb0, cd0, ce0, cs0⟩ = X := ⟨_, rfl⟩
  obtain ⟨pa, pb, pd, pe, ps⟩ := X
  obtain ⟨E, hE⟩ : ∃ E, newE ⟨ca0, cb0, cd0, ce0, cs0⟩ = E := ⟨_, rfl⟩
  rw [hX, hE]
  simp only [quA]
  have hb5 := (Below.refl w2.heap.size w2).alloc (Nat.le_refl _) (.cells #[.int .i64 pa, .int .i64 pb, .int .i64 pd, .int .i64 pe, .int .i64 ps, .slice none 0 0] 26)
  have hb45 := hb.trans (hb5.mono hb.size)
  replace C := Lib.hid (C.out.to hb45)
  replace B := Lib.hid (B.out.trans (hb45.mono B.out.size))
  have T5 := Lib.hid (Qx.new w2 pa pb pd pe ps (.slice none 0 0) 26)
  have HX := Lib.hid hX
  have HE := Lib.hid hE
  clear hb hb5 hb45 x0 x1 x2 x3 x4 hX hE
  go_upto_region 2 with (fail)
  generalize w2.alloc (.cells #[.int .i64 pa, .int .i64 pb, .int .i64 pd, .int .i64 pe, .int .i64 ps, .slice none 0 0] 26) = w3 at *
  obtain ⟨x0, x1, x2, x3, x4, _⟩ := C.out
  by_cases h100 : 100 < len1
  · have hI : (len1 : Int) > 100 := by omega
    clear h100
    go_wp2_with fail
    refine (awake w3).mono ?_
    rintro x w9 ⟨rfl, hb⟩
    have B9 := Lib.hid (B.out.trans (hb.mono B.out.size))
    clear hb
    go_wp2_with fail
    go_ret
    exact ⟨rfl, B9.out⟩
  have hI : ¬ (len1 : Int) > 100 := by omega
  have H100 : Hid (len1 ≤ 100) := Nat.not_lt.1 h100
  clear h100
  cases hm : mayC ⟨ca0, cb0, cd0, ce0, cs0⟩
  · have h2 := HE.out
    unfold newE at h2
    rw [hm] at h2
    simp only [Bool.false_eq_true, if_false] at h2
    subst h2
    clear hm
    go_wp2_with fail
    refine (awake w3).mono ?_
    rintro x w9 ⟨rfl, hb⟩
    have B9 := Lib.hid (B.out.trans (hb.mono B.out.size))
    clear hb
    go_wp2_with fail
    go_ret
    exact ⟨rfl, B9.out⟩
  have HM := Lib.hid hm
  have h1 := HX.out
  have h2 := HE.out
  unfold newC at h1
  unfold newE at h2
  rw [hm] at h1 h2
  simp only [if_true, Ch.mk.injEq] at h1 h2
  obtain ⟨rfl, rfl, rfl, rfl, rfl⟩ := h1
  subst h2
  clear hm
  by_cases hl : (len1 : Int) > cs0
  ·
    go_wp2_with fail
    refine (awake w3).mono ?_
    rintro x w9 ⟨rfl, hb⟩
    have B9 := Lib.hid (B.out.trans (hb.mono B.out.size))
    clear hb
    go_wp2_with fail
    go_ret
    exact ⟨rfl, B9.out⟩
  have HL : Hid ((msg.length : Int) ≤ cs0) := by show _ ≤ _; rw [HML.out]; omega
  obtain ⟨y0, y1, y2, y3, y4, y5⟩ := T5.out.six
  go_wp2_with fail
  refine (wPut ca0 cb0 cd0 ce0 cs0 none a1 0 0 len1 cap1 [] msg w3 (RdS.nil _ _ _) (Nat.le_refl _) (by decide) ((R0.out.below B.out).more B.out.size)).mono ?_
  rintro x w4 hP
  obtain ⟨A4, n4, k4, rfl, ho, hk, hk', hb⟩ := hP.get (errP_nil HM.out HL.out)
  rw [put_nil HM.out] at ho
  have hb4 := (Below.refl w4.heap.size w4).alloc (Nat.le_refl _) (.cells #[.int .i64 ca0, .int .i64 cb0, .int .i64 cd0, .int .i64 ce0, .int .i64 cs0, .slice A4 n4 k4] 26)
  have hb34 := hb.trans (hb4.mono hb.size)
  replace B := Lib.hid (B.out.trans (hb34.mono B.out.size))
  replace T5 := Lib.hid (T5.out.to hb34)
  have T7 := Lib.hid (Qx.new w4 ca0 cb0 cd0 ce0 cs0 (.slice A4 n4 k4) 26)
  have O4 := Lib.hid (ho.to hb4)
  have HK4 := Lib.hid hk
  have HN4 : Hid (n4 ≤ 140737488355328) := by (show _ ≤ _); have := ho.1; simp at this; omega
  clear hP ho hk hk' hb hb4 hb34 x0 x1 x2 x3 x4 y0 y1 y2 y3 y4 y5 hI hl
  go_upto_region 5 with (fail)
  generalize w4.alloc (.cells #[.int .i64 ca0, .int .i64 cb0, .int .i64 cd0, .int .i64 ce0, .int .i64 cs0, .slice A4 n4 k4] 26) = w5 at *
  obtain ⟨y0, y1, y2, y3, y4, y5⟩ := T7.out.six
  go_wp2_with fail
  refine (wTake ca0 cb0 cd0 ce0 cs0 A4 n4 k4 [msg] w5 O4.out.full HK4.out HN4.out).mono ?_
  rintro x w6 hT
  obtain ⟨Am, nm, km, A6, n6, k6, rfl, hmm, ho, hk, hk', hb⟩ := hT.get (errT_one HM.out HL.out)
  have hb6 := (Below.refl w6.heap.size w6).alloc (Nat.le_refl _) (.cells #[.int .i64 ca0, .int .i64 cb0, .int .i64 cd0, .int .i64 ce0, .int .i64 cs0, .slice A6 n6 k6] 26)
  have hb56 := hb.trans (hb6.mono hb.size)
  replace B := Lib.hid (B.out.trans (hb56.mono B.out.size))
  replace T5 := Lib.hid (T5.out.to hb56)
  have T9 := Lib.hid (Qx.new w6 ca0 cb0 cd0 ce0 cs0 (.slice A6 n6 k6) 26)
  have M : Hid (Rd (w6.alloc (.cells #[.int .i64 ca0, .int .i64 cb0, .int .i64 cd0, .int .i64 ce0, .int .i64 cs0, .slice A6 n6 k6] 26)) (w6.alloc (.cells #[.int .i64 ca0, .int .i64 cb0, .int .i64 cd0, .int .i64 ce0, .int .i64 cs0, .slice A6 n6 k6] 26)).heap.size Am nm msg) := hmm.1.to hb6
  have O6 := Lib.hid (ho.to hb6)
  have HN6 : Hid (n6 = 0) := by show _ = _; have := ho.1; simpa using this.symm
  clear hT hmm ho hk hk' hb hb6 hb56 y0 y1 y2 y3 y4 y5
  go_upto_region 6 with (fail)
  generalize w6.alloc (.cells #[.int .i64 ca0, .int .i64 cb0, .int .i64 cd0, .int .i64 ce0, .int .i64 cs0, .slice A6 n6 k6] 26) = w7 at *
  obtain ⟨y0, y1, y2, y3, y4, y5⟩ := T9.out.six
  obtain ⟨z0, z1, z2, z3, z4, z5⟩ := T5.out.six
  have hc1 := M.out.str (c := km)
  have hc2 := (R0.out.below B.out).str (c := cap1)
  generalize strOfNums (numsOf msg) = str at *
  go_wp2_with fail
  refine (wSameQ ca0 cb0 cd0 ce0 cs0 ca0 cb0 cd0 ce0 cs0 A6 none n6 0 k6 0 [] [] w7 O6.out.full (RdS.nil _ _ _) (by rw [HN6.out]; decide)).mono ?_
  rintro x w8 ⟨rfl, hb⟩
  rw [show (eqC ⟨ca0, cb0, cd0, ce0, cs0⟩ ⟨ca0, cb0, cd0, ce0, cs0⟩ && decide (([] : List (List UInt8)) = [])) = true from by simp [eqC]]
  replace B := Lib.hid (B.out.trans (hb.mono B.out.size))
  clear hb hc1 hc2 y0 y1 y2 y3 y4 y5 z0 z1 z2 z3 z4 z5
  go_wp2_with fail
  refine (awake w8).mono ?_
  rintro x w9 ⟨rfl, hb⟩
  replace B := Lib.hid (B.out.trans (hb.mono B.out.size))
  clear hb
  go_wp2_with fail
  go_ret
  exact ⟨rfl, B.out⟩

set_option maxRecDepth 100000 in
theorem lifted (os : Os) (started : os.Started) (H : Type) (enc : TypeId × Value → H) :
    ReturnsInHanded {} Try.checked os 8 .any (Rows.channelBackSpec.pre6 enc Try.prog Try.f8 Rows.channelBackRow.domain false) (Rows.channelBackSpec.post enc Try.prog Try.f8 false true false false) := by
  refine returnsInHanded_of_change (C := Try.checked) own started (by kernel_rfl) Try.func8
    (ChangeSpec.witness6 (enc := enc) (C := Try.checked) false ⟨#[], #[.agg #[.int .i64 0, .int .i64 0, .int .i64 0, .int .i64 0, .int .i64 0], .slice none 0 0], []⟩ 8 (by kernel_rfl) (by kernel_rfl) (by kernel_rfl) (by kernel_rfl)) ?_
  intro W base args ds gs before hval0 hW hcnd _
  have hval : ∀ (j : Nat) t v, Try.f8.params[j]? = some t → args[j]? = some v → Value.okWide Try.prog W .any base t v := hval0
  have hW' := hW
  obtain ⟨p, q, hA0, hV, rfl, hfz, hnd⟩ := hW
  have hA : DataW.TrodAll enc Try.prog W 0 (fun _ => true) true Try.f8.params.toList args.toList ds p := hA0
  rw [Try.params8] at hA hval
  obtain ⟨v0, vs0, d0, ds0, p0, q0, hargs, rfl, rfl, h0, r0⟩ := trodAll_cons hA
  obtain ⟨v1, vs1, d1, ds1, p1, q1, rfl, rfl, rfl, h1, r1⟩ := trodAll_cons r0
  obtain ⟨rfl, rfl, rfl⟩ := trodAll_nil r1
  obtain rfl : args = #[v0, v1] := by cases args; simp_all
  obtain ⟨rfl, rfl⟩ := trodVars_none hV
  have k0 := h0
  have lt0 : ∀ x ∈ p0, x.block < W.heap.size := by obtain ⟨m, hm⟩ := k0; exact DataW.trod_lt m _ _ _ hm
  obtain ⟨c0, rfl, w0⟩ := open_ch (hval 0 23 v0 rfl rfl) h0
  obtain ⟨a1, len1, cap1, rfl⟩ := okWide_slice Try.underlying27 (hval 1 27 v1 rfl rfl)
  have k1 := h1
  have lt1 : ∀ x ∈ p1, x.block < W.heap.size := by obtain ⟨m, hm⟩ := k1; exact DataW.trod_lt m _ _ _ hm
  obtain ⟨z1, w1⟩ : ∃ zs, IsRow .u8 W a1 len1 cap1 zs := by
    obtain ⟨fuel, hf⟩ := h1
    rcases open_ints Try.underlying27 Try.underlying5 (by kernel_rfl) hf with ⟨hcs, _⟩ | ⟨x, l, c, zs, hcs, _, hl, hm, hz, _, hcell, hwz⟩
    · simp [Value.cells] at hcs
      obtain ⟨rfl, rfl, rfl⟩ := hcs
      exact ⟨[], .inl ⟨rfl, rfl, rfl, rfl⟩⟩
    · simp [Value.cells] at hcs
      obtain ⟨rfl, rfl, rfl⟩ := hcs
      exact ⟨zs, .inr ⟨_, rfl, hl, hm, by simpa using hz, hcell, hwz⟩⟩
  clear hA0 hval0
  refine (walk c0.id c0.fr c0.dst c0.cap c0.size a1 len1 cap1 z1 W w0 w1).mono fun e W' ⟨he, bel⟩ => ?_
  subst he
  exact ⟨_, rfl, _, _, _, [], _, [], hW', trodAll_mk1 (shut_bool Try.underlying4 _), (trodAll_cons_mk (Below.trod laidOut (by kernel_rfl) (of_decide_eq_true (by kernel_rfl)) k0 bel lt0) (trodAll_cons_mk (Below.trod laidOut (by kernel_rfl) (of_decide_eq_true (by kernel_rfl)) k1 bel lt1) trodAll_mk0)), rfl, bel.frame _, fun h => by cases h⟩

theorem over : Rows.channelBackRow.holds Try.pinned (OpenSpec.ofChange Rows.channelBackSpec) :=
  OpenClaim.holds_of_wide 8 Try.f8 rfl rfl rfl rfl rfl rfl rfl ⟨rfl, rfl, rfl, rfl, rfl⟩ rfl rfl rfl rfl rfl (by kernel_rfl) Try.func8 (by kernel_rfl)
    (of_decide_eq_true (by kernel_rfl)) (by unfold Func.isWrapper; first | (rw [if_pos (by decide +kernel)]; kernel_rfl) | (rw [if_neg (by decide +kernel)]; exact ⟨rfl, rfl⟩))
    (fun os started H enc _ => lifted os started H enc)

theorem proved : Rows.ChannelBackSaid := over
end Go.Proofs.Ytkaobafgecoomaa.channelBack
