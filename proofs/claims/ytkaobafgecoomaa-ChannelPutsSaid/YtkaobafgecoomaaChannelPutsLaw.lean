/- For any queue and any message the law ChannelPuts of citadellaw10 returns true: what Put of channel makes of the queue is as the document says, and what was handed in stays (queues of at most 20 messages and 400 in all, messages of at most 100 bytes). Conditions: none beyond those that the statement itself prints. -/
import Derived.Test.YtkaobafgecoomaaRows
import Derived.Test.YtkaobafgecoomaaChG
import Derived.SizedLaws
import Derived.WalkKit
import Derived.ProofKit
import Derived.OpenShut
import Derived.ShutString
import Derived.ChangeOld
import Derived.Below
namespace Go.Proofs.Ytkaobafgecoomaa.channelPuts
open Go.ChangeShapes Go.WideShapes Go.ChangeAt Go.RowKit
open Go.ChangeMaps (open_string shut_string)
set_option linter.unusedVariables false
set_option linter.unusedSimpArgs false

theorem own : ownKnob Try.prog.godebug = none := by kernel_rfl
theorem laidOut : laidOutB Try.prog = true := by kernel_rfl


set_option maxRecDepth 1000000 in
set_option maxHeartbeats 4000000 in
theorem walk (ca0 cb0 cd0 ce0 cs0 : Int) (a0 : Option Addr) (len0 cap0 : Nat) (bss0 : List (List UInt8)) (a1 : Option Addr) (len1 cap1 : Nat) (z1 : List Int) (w : World) (w0 : RdS w w.heap.size a0 len0 bss0 ∧ len0 ≤ cap0 ∧ cap0 * 24 ≤ 140737488351232 ∧ ∀ bs ∈ bss0, bs.length ≤ 140737488351232) (w1 : IsRow .u8 w a1 len1 cap1 z1) :
    Calls Try.prog 3 #[.agg #[.int .i64 ca0, .int .i64 cb0, .int .i64 cd0, .int .i64 ce0, .int .i64 cs0, .slice a0 len0 cap0], .slice a1 len1 cap1] w fun e w' => e = .returned (.bool true) ∧ Below w.heap.size w w' := by
  obtain ⟨s0, hcap, hcap24, hlens⟩ := w0
  obtain ⟨r1, hcap1, hcap1'⟩ := w1.rd
  generalize bytesIn (z1.take len1) = msg at r1
  have S0 := Lib.hid s0
  have R0 := Lib.hid r1
  have HL0 := Lib.hid hlens
  have HN0 : Hid (len0 ≤ 140737488355328) := by (show _ ≤ _); omega
  have HML := Lib.hid r1.1
  have HLL := Lib.hid s0.1
  have hb1 := (Below.refl w.heap.size w).alloc (Nat.le_refl _) (.cells #[.int .i64 ca0, .int .i64 cb0, .int .i64 cd0, .int .i64 ce0, .int .i64 cs0, .slice a0 len0 cap0] 26)
  have B := Lib.hid hb1
  have Q := Lib.hid (Qx.new w ca0 cb0 cd0 ce0 cs0 (.slice a0 len0 cap0) 26)
  have HCAP := Lib.hid hcap
  obtain ⟨x0, x1, x2, x3, x4, x5⟩ := Q.out.six
  clear s0 r1 hcap24 hlens w1 hcap1 hcap1' hb1 hcap
  go_enter Try.func3, Try.ntmps3
  go_wp2_with fail
  generalize w.alloc (.cells #[.int .i64 ca0, .int .i64 cb0, .int .i64 cd0, .int .i64 ce0, .int .i64 cs0, .slice a0 len0 cap0] 26) = w1 at *
  refine (lGreat ca0 cb0 cd0 ce0 cs0 a0 len0 cap0 bss0 w1 ((S0.out.belowX B.out).moreX B.out.size) HN0.out (fun m hm => by have := HL0.out m hm; omega)).mono ?_
  rintro x w2 ⟨rfl, hb⟩
  replace Q := Lib.hid (Q.out.to hb)
  replace B := Lib.hid (B.out.trans (hb.mono B.out.size))
  clear hb x0 x1 x2 x3 x4 x5
  obtain ⟨x0, x1, x2, x3, x4, x5⟩ := Q.out.six
  cases hbig : bigQ bss0
  rotate_left 1
  · go_wp2_with fail
    go_ret
    exact ⟨rfl, B.out⟩
  have HSM := Lib.hid (bigQ_small hbig)
  clear hbig
  by_cases h100 : 100 < len1
  · have hI : (len1 : Int) > 100 := by omega
    go_wp2_with fail
    go_ret
    exact ⟨rfl, B.out⟩
  have hI : ¬ (len1 : Int) > 100 := by omega
  have H100 : Hid (len1 ≤ 100) := Nat.not_lt.1 h100
  have HN20 : Hid (len0 ≤ 20) := by (show _ ≤ _); rw [← HLL.out]; exact HSM.out.1
  clear h100
  go_wp2_with fail
  refine (lCopied ca0 cb0 cd0 ce0 cs0 a0 len0 cap0 bss0 w2 ((S0.out.belowX B.out).moreX B.out.size) HN20.out HSM.out.2).mono ?_
  rintro x w3 ⟨A3, k3, rfl, ho, hk, hk', hb⟩
  simp only [quA]
  have hb4 := (Below.refl w3.heap.size w3).alloc (Nat.le_refl _) (.cells #[.int .i64 ca0, .int .i64 cb0, .int .i64 cd0, .int .i64 ce0, .int .i64 cs0, .slice A3 len0 k3] 26)
  have hb34 := hb.trans (hb4.mono hb.size)
  replace Q := Lib.hid (Q.out.to hb34)
  replace B := Lib.hid (B.out.trans (hb34.mono B.out.size))
  have IN := Lib.hid (ho.to hb4)
  have T5 := Lib.hid (Qx.new w3 ca0 cb0 cd0 ce0 cs0 (.slice A3 len0 k3) 26)
  have HK3 := Lib.hid hk
  clear ho hk hk' hb hb4 hb34 x0 x1 x2 x3 x4 x5 hI
  obtain ⟨x0, x1, x2, x3, x4, x5⟩ := Q.out.six
  obtain ⟨t0, t1, t2, t3, t4, t5⟩ := T5.out.six
  go_upto_region 4 with (fail)
  generalize w3.alloc (.cells #[.int .i64 ca0, .int .i64 cb0, .int .i64 cd0, .int .i64 ce0, .int .i64 cs0, .slice A3 len0 k3] 26) = w4 at *
  have R4 := Lib.hid (((R0.out.below B.out).more B.out.size).grow (.cells #[] 5))
  have OO := Lib.hid (own_top (w := w4) (B := w4.heap.size) [] 5 (Nat.le_refl _) (by simp) (by decide))
  have BO := Lib.hid ((Below.refl w4.heap.size w4).alloc (Nat.le_refl _) (.cells #[] 5))
  have hz5 : ∀ W, Below w4.heap.size w4 W → Qx W w.heap.size ⟨ca0, cb0, cd0, ce0, cs0⟩ (.slice a0 len0 cap0) ∧ Qx W w3.heap.size ⟨ca0, cb0, cd0, ce0, cs0⟩ (.slice A3 len0 k3) := fun W hW => ⟨Q.out.to hW, T5.out.to hW⟩
  have HZ5 := Lib.hid hz5
  clear x0 x1 x2 x3 x4 x5 t0 t1 t2 t3 t4 t5 hz5
  go_wp2_with (first
    | (at_builtin; refine wpList_pushAll isU8 rfl _ _ rfl rfl (bs := []) rfl OO.out R4.out BO.out BO.out.size (by have := H100.out; simp; omega) ?_; intro v5 w5 hown hb5 hs5; rw [List.length_nil, Nat.zero_add, List.nil_append] at hown; obtain ⟨A5, c5, rfl⟩ := own_slice hown; obtain ⟨⟨x0, x1, x2, x3, x4, x5, _⟩, ⟨t0, t1, t2, t3, t4, t5, _⟩⟩ := HZ5.out w5 hb5)
    | fail)
  have M := Lib.hid (Rd.of_own hown)
  replace IN := Lib.hid (IN.out.to hb5)
  replace Q := Lib.hid (Q.out.to hb5)
  replace T5 := Lib.hid (T5.out.to hb5)
  replace B := Lib.hid (B.out.trans (hb5.mono B.out.size))
  clear hown hb5 hs5 OO BO R4 HZ5 x0 x1 x2 x3 x4 x5 t0 t1 t2 t3 t4 t5
  obtain ⟨X, hX⟩ : ∃ X, putC ⟨ca0, cb0, cd0, ce0, cs0⟩ bss0 msg = X := ⟨_, rfl⟩
  obtain ⟨pa, pb, pd, pe, ps⟩ := X
  obtain ⟨L, hL⟩ : ∃ L, putL ⟨ca0, cb0, cd0, ce0, cs0⟩ bss0 msg = L := ⟨_, rfl⟩
  obtain ⟨E, hE⟩ : ∃ E, errP ⟨ca0, cb0, cd0, ce0, cs0⟩ bss0 msg = E := ⟨_, rfl⟩
  have HX := Lib.hid hX
  have HLE := Lib.hid hL
  have HE := Lib.hid hE
  have HLN : Hid (L.length ≤ 21) := by (show _ ≤ _); rw [← hL]; have := putL_len ⟨ca0, cb0, cd0, ce0, cs0⟩ bss0 msg; have := HN20.out; have := HLL.out; omega
  have HLM : Hid (∀ x ∈ L, x.length ≤ 400) := by (show ∀ x ∈ _, _); rw [← hL]; exact putL_mem HSM.out.2 (by rw [HML.out]; have := H100.out; omega)
  clear hX hL hE
  have BP := Lib.hid (Below.refl w5.heap.size w5)
  refine (wPut ca0 cb0 cd0 ce0 cs0 A3 A5 len0 k3 len1 c5 bss0 msg w5 (IN.out.copy HLL.out) (Nat.le_trans (Nat.le_succ _) HK3.out) HN0.out M.out).mono ?_
  rintro x w6 ⟨v, rfl, A6, n6, k6, rfl, hO, h6, h6', hb⟩
  rw [HX.out, HE.out]
  rw [HLE.out] at hO
  simp only [quA]
  have hb6 := (Below.refl w6.heap.size w6).alloc (Nat.le_refl _) (.cells #[.int .i64 pa, .int .i64 pb, .int .i64 pd, .int .i64 pe, .int .i64 ps, .slice A6 n6 k6] 26)
  replace BP := Lib.hid (BP.out.trans (hb.trans (hb6.mono hb.size)))
  have O6 := Lib.hid (hO.to hb6)
  have T7 := Lib.hid (Qx.new w6 pa pb pd pe ps (.slice A6 n6 k6) 26)
  have HN6 : Hid (L.length = n6) := by (show _ = _); have := hO.1; rwa [List.length_map] at this
  clear hO h6 h6' hb hb6
  go_upto_region 6 with (fail)
  generalize w6.alloc (.cells #[.int .i64 pa, .int .i64 pb, .int .i64 pd, .int .i64 pe, .int .i64 ps, .slice A6 n6 k6] 26) = w7 at *
  obtain ⟨x0, x1, x2, x3, x4, x5⟩ := (Q.out.to BP.out).six
  go_wp2_with fail
  refine (rPut ca0 cb0 cd0 ce0 cs0 a0 a1 len0 cap0 len1 cap1 bss0 msg w7 ((S0.out.belowX (B.out.trans (BP.out.mono B.out.size))).moreX (Nat.le_trans B.out.size BP.out.size)) HCAP.out HN0.out ((R0.out.below (B.out.trans (BP.out.mono B.out.size))).more (Nat.le_trans B.out.size BP.out.size))).mono ?_
  rintro x w8 ⟨v, rfl, A8, n8, k8, rfl, hO, h8, h8', hb⟩
  rw [HX.out, HE.out]
  rw [HLE.out] at hO
  simp only [quA]
  have hb8 := (Below.refl w8.heap.size w8).alloc (Nat.le_refl _) (.cells #[.int .i64 pa, .int .i64 pb, .int .i64 pd, .int .i64 pe, .int .i64 ps, .slice A8 n8 k8] 26)
  have hb78 := hb.trans (hb8.mono hb.size)
  replace BP := Lib.hid (BP.out.trans (hb78.mono BP.out.size))
  replace O6 := Lib.hid (O6.out.to hb78)
  have O8 := Lib.hid (hO.to hb8)
  replace T7 := Lib.hid (T7.out.to hb78)
  have T9 := Lib.hid (Qx.new w8 pa pb pd pe ps (.slice A8 n8 k8) 26)
  have HN8 : Hid (L.length = n8) := by (show _ = _); have := hO.1; rwa [List.length_map] at this
  clear hO h8 h8' hb hb8 hb78 x0 x1 x2 x3 x4 x5
  go_upto_region 7 with (fail)
  generalize w8.alloc (.cells #[.int .i64 pa, .int .i64 pb, .int .i64 pd, .int .i64 pe, .int .i64 ps, .slice A8 n8 k8] 26) = w9 at *
  obtain ⟨y0, y1, y2, y3, y4, y5⟩ := T7.out.six
  obtain ⟨z0, z1, z2, z3, z4, z5⟩ := T9.out.six
  go_wp2_with fail
  refine (rSameQ pa pb pd pe ps pa pb pd pe ps A6 A8 n6 n8 k6 k8 L L w9 O6.out.full O8.out.full (by have := HN6.out; have := HLN.out; omega)).mono ?_
  rintro x w10 ⟨rfl, hb⟩
  rw [show (eqC ⟨pa, pb, pd, pe, ps⟩ ⟨pa, pb, pd, pe, ps⟩ && decide (L = L)) = true from by simp [eqC]]
  replace BP := Lib.hid (BP.out.trans (hb.mono BP.out.size))
  replace O6 := Lib.hid (O6.out.to hb)
  replace T7 := Lib.hid (T7.out.to hb)
  clear hb y0 y1 y2 y3 y4 y5 z0 z1 z2 z3 z4 z5 T9 O8
  obtain ⟨y0, y1, y2, y3, y4, y5⟩ := T7.out.six
  go_wp2_with fail
  refine (lSpoil pa pb pd pe ps A6 n6 k6 w5.heap.size (L.map fullR) w10 O6.out BP.out.size (by have := HN6.out; have := HLN.out; omega) (fun j hj => by have := fulls_shown HN6.out HLM.out j hj; omega)).mono ?_
  rintro x w11 ⟨rfl, hD⟩
  replace BP := Lib.hid (hD.1.below BP.out BP.out.size (fun b h => h))
  clear hD y0 y1 y2 y3 y4 y5 T7 O6
  obtain ⟨x0, x1, x2, x3, x4, x5⟩ := (Q.out.to BP.out).six
  obtain ⟨t0, t1, t2, t3, t4, t5⟩ := (T5.out.to BP.out).six
  go_wp2_with fail
  refine (lStays ca0 cb0 cd0 ce0 cs0 A3 a0 len0 k3 cap0 _ bss0 w11 (IN.out.to BP.out) HK3.out ((S0.out.belowX (B.out.trans (BP.out.mono B.out.size))).moreX (Nat.le_trans B.out.size BP.out.size)) HN20.out HSM.out.2).mono ?_
  rintro x w12 ⟨rfl, hb⟩
  replace BP := Lib.hid (BP.out.trans (hb.mono BP.out.size))
  clear hb x0 x1 x2 x3 x4 x5 t0 t1 t2 t3 t4 t5
  have hc1 := (M.out.to BP.out).str (c := c5)
  have hc2 := (R0.out.below (B.out.trans (BP.out.mono B.out.size))).str (c := cap1)
  generalize strOfNums (numsOf msg) = str at *
  go_wp2_with fail
  refine (awake w12).mono ?_
  rintro x w13 ⟨rfl, hb⟩
  have BF := Lib.hid (B.out.trans (BP.out.mono B.out.size))
  replace BF := Lib.hid (BF.out.trans (hb.mono BF.out.size))
  clear hb hc1 hc2
  go_wp2_with fail
  go_ret
  exact ⟨rfl, BF.out⟩

set_option maxRecDepth 100000 in
theorem lifted (os : Os) (started : os.Started) (H : Type) (enc : TypeId × Value → H) :
    ReturnsInHanded {} Try.checked os 3 .any (Rows.channelPutsSpec.pre6 enc Try.prog Try.f3 Rows.channelPutsRow.domain false) (Rows.channelPutsSpec.post enc Try.prog Try.f3 false true false false) := by
  refine returnsInHanded_of_change_sized (C := Try.checked) own started (by kernel_rfl) Try.func3
    (ChangeSpec.witness6 (enc := enc) (C := Try.checked) false ⟨#[], #[.agg #[.int .i64 0, .int .i64 0, .int .i64 0, .int .i64 0, .int .i64 0, .slice none 0 0], .slice none 0 0], []⟩ 8 (by kernel_rfl) (by kernel_rfl) (by kernel_rfl) (by kernel_rfl)) ?_
  intro W base args ds gs before hval0 hW hcnd hsz0 _
  have hval : ∀ (j : Nat) t v, Try.f3.params[j]? = some t → args[j]? = some v → Value.okWide Try.prog W .any base t v := hval0
  have hsz : (DataW.weightsEach Try.prog (Try.f3.params.toList ++ Rows.channelPutsSpec.plain.varTypes Try.prog) (ds ++ gs)).all (· ≤ reachBytes) = true := hsz0
  have hW' := hW
  obtain ⟨p, q, hA0, hV, rfl, hfz, hnd⟩ := hW
  have hA : DataW.TrodAll enc Try.prog W 0 (fun _ => true) true Try.f3.params.toList args.toList ds p := hA0
  rw [Try.params3] at hA hval hsz
  obtain ⟨v0, vs0, d0, ds0, p0, q0, hargs, rfl, rfl, h0, r0⟩ := trodAll_cons hA
  obtain ⟨v1, vs1, d1, ds1, p1, q1, rfl, rfl, rfl, h1, r1⟩ := trodAll_cons r0
  obtain ⟨rfl, rfl, rfl⟩ := trodAll_nil r1
  obtain rfl : args = #[v0, v1] := by cases args; simp_all
  obtain ⟨rfl, rfl⟩ := trodVars_none hV
  have sz0 : ∀ x ∈ d0.weights Try.prog 26, x ≤ reachBytes := fun x hx => by simpa using List.all_eq_true.1 hsz _ (DataW.weights_mem_each (j := 0) rfl rfl x hx)
  have k0 := h0
  have lt0 : ∀ x ∈ p0, x.block < W.heap.size := by obtain ⟨m, hm⟩ := k0; exact DataW.trod_lt m _ _ _ hm
  obtain ⟨c0, a0, len0, cap0, bss0, rfl, _, w0⟩ := open_queue (hval 0 26 v0 rfl rfl) h0 sz0
  obtain ⟨a1, len1, cap1, rfl⟩ := okWide_slice Try.underlying27 (hval 1 27 v1 rfl rfl)
  have k1 := h1
  have lt1 : ∀ x ∈ p1, x.block < W.heap.size := by obtain ⟨m, hm⟩ := k1; exact DataW.trod_lt m _ _ _ hm
  obtain ⟨z1, w1⟩ : ∃ zs, IsRow .u8 W a1 len1 cap1 zs := by
    obtain ⟨fuel, hf⟩ := h1
    rcases open_ints Try.underlying27 Try.underlying5 (by kernel_rfl) hf with ⟨hcs, _⟩ | ⟨x, l, c, zs, hcs, _, hl, hm, hz, _, hcell, hwz⟩
    · simp [Value.cells] at hcs
      obtain ⟨rfl, rfl, rfl⟩ := hcs
      exact ⟨[], .inl ⟨rfl, rfl, rfl, rfl⟩⟩
    · simp [Value.cells] at hcs
      obtain ⟨rfl, rfl, rfl⟩ := hcs
      exact ⟨zs, .inr ⟨_, rfl, hl, hm, by simpa using hz, hcell, hwz⟩⟩
  clear hA0 hval0
  refine (walk c0.id c0.fr c0.dst c0.cap c0.size a0 len0 cap0 bss0 a1 len1 cap1 z1 W w0 w1).mono fun e W' ⟨he, bel⟩ => ?_
  subst he
  exact ⟨_, rfl, _, _, _, [], _, [], hW', trodAll_mk1 (shut_bool Try.underlying4 _), (trodAll_cons_mk (Below.trod laidOut (by kernel_rfl) (of_decide_eq_true (by kernel_rfl)) k0 bel lt0) (trodAll_cons_mk (Below.trod laidOut (by kernel_rfl) (of_decide_eq_true (by kernel_rfl)) k1 bel lt1) trodAll_mk0)), rfl, bel.frame _, fun h => by cases h⟩

theorem over : Rows.channelPutsRow.holds Try.pinned (OpenSpec.ofChange Rows.channelPutsSpec) :=
  OpenClaim.holds_of_wide 3 Try.f3 rfl rfl rfl rfl rfl rfl rfl ⟨rfl, rfl, rfl, rfl, rfl⟩ rfl rfl rfl rfl rfl (by kernel_rfl) Try.func3 (by kernel_rfl)
    (of_decide_eq_true (by kernel_rfl)) (by unfold Func.isWrapper; first | (rw [if_pos (by decide +kernel)]; kernel_rfl) | (rw [if_neg (by decide +kernel)]; exact ⟨rfl, rfl⟩))
    (fun os started H enc _ => lifted os started H enc)

theorem proved : Rows.ChannelPutsSaid := over
end Go.Proofs.Ytkaobafgecoomaa.channelPuts
