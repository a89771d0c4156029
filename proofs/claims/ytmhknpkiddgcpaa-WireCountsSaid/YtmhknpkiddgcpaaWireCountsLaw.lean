/- For any number, any most, any at most 100 bytes the law WireCounts of citadellaw05 returns true: wire's reader takes a count just if it is from 0 to the most, and no more than the bytes behind it. Conditions: none beyond those that the statement itself prints. -/
import Derived.Test.YtmhknpkiddgcpaaRows
import Derived.Test.YtmhknpkiddgcpaaWireAwake
import Derived.Test.YtmhknpkiddgcpaaNumW
import Derived.WalkKit
import Derived.ProofKit
import Derived.OpenShut
import Derived.ShutString
import Derived.ChangeOld
import Derived.Below
namespace Go.Proofs.Ytmhknpkiddgcpaa.wireCounts
open Go.ChangeShapes Go.WideShapes Go.ChangeAt Go.RowKit
open Go.ChangeMaps (open_string shut_string)
set_option linter.unusedVariables false
set_option linter.unusedSimpArgs false

theorem own : ownKnob Try.prog.godebug = none := by kernel_rfl
theorem laidOut : laidOutB Try.prog = true := by kernel_rfl

theorem numOf_enc8 {y : Nat} (hy : y < 18446744073709551616) : numOf (enc y 8) = y := by
  have h := num_enc y 8
  rw [Nat.mod_eq_of_lt (by omega)] at h
  unfold numOf
  rw [enc_len, h]
  simp
theorem wrap_u64N {n : Int} (h1 : -9223372036854775808 ≤ n) (h2 : n ≤ 9223372036854775807) : wrap64 (u64N n : Int) = n := by
  rw [← u64N_eq]
  unfold wrap64
  omega
theorem count_state {n most : Int} {bs : List UInt8} (h1 : -9223372036854775808 ≤ n) (h2 : n ≤ 9223372036854775807) (hb : bs.length ≤ 100) :
    countS (newRS (enc (u64N n) 8 ++ bs)) most = ⟨bs, if n < 0 ∨ most < n ∨ (bs.length : Int) < n then 50 else 0⟩ ∧ countV (newRS (enc (u64N n) 8 ++ bs)) most = if n < 0 ∨ most < n ∨ (bs.length : Int) < n then 0 else n := by
  have hl : (enc (u64N n) 8).length = 8 := enc_len _ _
  have e0 : newRS (enc (u64N n) 8 ++ bs) = ⟨enc (u64N n) 8 ++ bs, 0⟩ := by unfold newRS; rw [if_neg (by rw [List.length_append, hl]; omega)]
  have hok : (⟨enc (u64N n) 8 ++ bs, 0⟩ : RS).ok 8 = true := by
    unfold RS.ok
    rw [decide_eq_true rfl, decide_eq_true (by rw [List.length_append, hl]; omega)]; rfl
  have e1 : (⟨enc (u64N n) 8 ++ bs, 0⟩ : RS).next 8 = ⟨bs, 0⟩ := by
    unfold RS.next
    rw [if_pos hok]
    simp only [RS.mk.injEq, and_true]
    exact List.drop_left' hl
  have e2 : intV ⟨enc (u64N n) 8 ++ bs, 0⟩ = n := by
    unfold intV RS.numb
    rw [if_pos hok]
    show wrap64 ((numOf ((enc (u64N n) 8 ++ bs).take 8) : Nat) : Int) = n
    rw [List.take_left' hl, numOf_enc8 (u64N_lt n), wrap_u64N h1 h2]
  have e3 : countS ⟨enc (u64N n) 8 ++ bs, 0⟩ most = ⟨bs, if n < 0 ∨ most < n ∨ (bs.length : Int) < n then 50 else 0⟩ := by
    unfold countS
    rw [e1, e2]
    simp only [true_and]
    split <;> rfl
  rw [e0]
  refine ⟨e3, ?_⟩
  unfold countV
  rw [e3, e2]
  split <;> simp_all
set_option maxRecDepth 100000 in
set_option maxHeartbeats 4000000 in
theorem walk (a0 : Int) (a1 : Int) (a2 : Option Addr) (len2 cap2 : Nat) (z2 : List Int) (w : World) (w0 : (Lit.int .i64 a0).wf = true) (w1 : (Lit.int .i64 a1).wf = true) (w2 : IsRow .u8 w a2 len2 cap2 z2) :
    Calls Try.prog 10 #[.int .i64 a0, .int .i64 a1, .slice a2 len2 cap2] w fun e w' => e = .returned (.bool true) ∧ Below w.heap.size w w' := by
  obtain ⟨ha0, ha0'⟩ := wf_i64 w0
  obtain ⟨hm1, hm2⟩ := wf_i64 w1
  obtain ⟨r2, hcap2, hcap2'⟩ := w2.rd
  generalize bytesIn (z2.take len2) = bs at r2
  clear w0 w1 w2
  have R := Lib.hid r2
  clear r2
  have h64 : IntKind.u64.wrap a0 = (u64N a0 : Int) := by rw [← u64N_eq]; simp only [IntKind.wrap_u64]
  have HU := Lib.hid (u64N_lt a0)
  go_enter Try.func10, Try.ntmps10
  go_wp2_with fail
  refine (awake w).mono ?_
  rintro e w1 ⟨rfl, hb⟩
  have B := Lib.hid hb
  replace R := Lib.hid (R.out.to hb)
  clear hb
  by_cases hout : 100 < len2
  · go_wp2_with fail
    go_ret
    exact ⟨rfl, B.out⟩
  have hl2 : len2 ≤ 100 := by omega
  have HC := Lib.hid (count_state (n := a0) (most := a1) (bs := bs) ha0 ha0' (by rw [R.out.1]; omega))
  have HMM := Lib.hid (⟨hm1, hm2⟩ : -9223372036854775808 ≤ a1 ∧ a1 ≤ 9223372036854775807)
  have HBL := Lib.hid R.out.1
  rw [HBL.out] at HC
  clear ha0 ha0' hm1 hm2
  go_wp2_with fail
  refine (wPut64 (u64N a0) w1 HU.out).mono ?_
  rintro e w2 ⟨A2, n2, c2, rfl, hown2, hb⟩
  obtain rfl : n2 = 8 := (Rd.of_own hown2).1.symm.trans (enc_len _ _)
  have U := Lib.hid (Rd.of_own hown2)
  clear hown2
  replace R := Lib.hid (R.out.to hb)
  replace B := Lib.hid (B.out.trans (hb.mono B.out.size))
  clear hb
  go_wp2_with fail
  refine (wCat2 A2 a2 8 len2 c2 cap2 (enc (u64N a0) 8) bs w2 U.out R.out (by omega)).mono ?_
  rintro e w3 ⟨A3, n3, c3, rfl, hown3, hb⟩
  have M := Lib.hid (Rd.of_own hown3)
  obtain ⟨hcp3, hcp3'⟩ := own_cap hown3
  have hn3 : n3 ≤ 108 := by rw [← M.out.1, List.length_append, enc_len, HBL.out]; omega
  clear hown3 U
  replace B := Lib.hid (B.out.trans (hb.mono B.out.size))
  clear hb
  go_wp2_with fail
  refine (pNew A3 n3 c3 _ w3 M.out hcp3 hcp3' (by omega)).mono ?_
  rintro e w4 ⟨g, F, rfl, hp, hF, hb⟩
  have P := Lib.hid hp
  have HF : Hid (∀ k, F k → w.heap.size ≤ k) := fun k h => Nat.le_trans B.out.size (hF k h)
  replace B := Lib.hid (B.out.trans (hb.mono B.out.size))
  clear hp hF hb M
  go_wp2_with fail
  refine (pCount g F _ a1 w4 P.out HMM.out).mono ?_
  rw [HC.out.1, HC.out.2]
  rintro e w5 ⟨rfl, F2, hp, hs, hk⟩
  replace P := Lib.hid hp
  replace B := Lib.hid (Keep.below B.out hk B.out.size HF.out)
  clear hp hs hk HC HF
  by_cases hbad : a0 < 0 ∨ a1 < a0 ∨ (len2 : Int) < a0
  · rw [if_pos hbad] at P
    rw [if_pos hbad]
    have HL0 : Hid (leftV ⟨bs, 50⟩ = 0) := rfl
    by_cases c0 : a0 < 0
    · clear hbad
      go_wp2_with fail
      refine (pLeft g F2 ⟨bs, 50⟩ w5 P.out).mono ?_
      rw [HL0.out]
      rintro e w6 ⟨rfl, hb⟩
      replace P := Lib.hid (P.out.below hb)
      replace B := Lib.hid (B.out.trans (hb.mono B.out.size))
      clear hb
      go_wp2_with fail
      refine (pErr g F2 ⟨bs, 50⟩ w6 P.out).mono ?_
      rintro e w7 ⟨rfl, hb⟩
      replace B := Lib.hid (B.out.trans (hb.mono B.out.size))
      clear hb P
      go_wp2_with fail
      go_ret
      exact ⟨rfl, B.out⟩
    by_cases c1 : a1 < a0
    · clear hbad
      go_wp2_with fail
      refine (pLeft g F2 ⟨bs, 50⟩ w5 P.out).mono ?_
      rw [HL0.out]
      rintro e w6 ⟨rfl, hb⟩
      replace P := Lib.hid (P.out.below hb)
      replace B := Lib.hid (B.out.trans (hb.mono B.out.size))
      clear hb
      go_wp2_with fail
      refine (pErr g F2 ⟨bs, 50⟩ w6 P.out).mono ?_
      rintro e w7 ⟨rfl, hb⟩
      replace B := Lib.hid (B.out.trans (hb.mono B.out.size))
      clear hb P
      go_wp2_with fail
      go_ret
      exact ⟨rfl, B.out⟩
    have c2 : (len2 : Int) < a0 := by omega
    clear hbad
    go_wp2_with fail
    refine (pLeft g F2 ⟨bs, 50⟩ w5 P.out).mono ?_
    rw [HL0.out]
    rintro e w6 ⟨rfl, hb⟩
    replace P := Lib.hid (P.out.below hb)
    replace B := Lib.hid (B.out.trans (hb.mono B.out.size))
    clear hb
    go_wp2_with fail
    refine (pErr g F2 ⟨bs, 50⟩ w6 P.out).mono ?_
    rintro e w7 ⟨rfl, hb⟩
    replace B := Lib.hid (B.out.trans (hb.mono B.out.size))
    clear hb P
    go_wp2_with fail
    go_ret
    exact ⟨rfl, B.out⟩
  · rw [if_neg hbad] at P
    rw [if_neg hbad]
    have HL0 : Hid (leftV ⟨bs, 0⟩ = len2) := by (show _ = _); unfold leftV; rw [if_pos rfl]; exact HBL.out
    have c0 : ¬ a0 < 0 := fun h => hbad (.inl h)
    have c1 : ¬ a1 < a0 := fun h => hbad (.inr (.inl h))
    have c2 : ¬ (len2 : Int) < a0 := fun h => hbad (.inr (.inr h))
    clear hbad
    go_wp2_with fail
    refine (pLeft g F2 ⟨bs, 0⟩ w5 P.out).mono ?_
    rw [HL0.out]
    rintro e w6 ⟨rfl, hb⟩
    replace P := Lib.hid (P.out.below hb)
    replace B := Lib.hid (B.out.trans (hb.mono B.out.size))
    clear hb
    go_wp2_with fail
    refine (pErr g F2 ⟨bs, 0⟩ w6 P.out).mono ?_
    rintro e w7 ⟨rfl, hb⟩
    replace B := Lib.hid (B.out.trans (hb.mono B.out.size))
    clear hb P
    go_wp2_with fail
    go_ret
    exact ⟨rfl, B.out⟩

set_option maxRecDepth 100000 in
theorem lifted (os : Os) (started : os.Started) (H : Type) (enc : TypeId × Value → H) :
    ReturnsInHanded {} Try.checked os 10 .any (Rows.wireCountsSpec.pre6 enc Try.prog Try.f10 Rows.wireCountsRow.domain false) (Rows.wireCountsSpec.post enc Try.prog Try.f10 false true false false) := by
  refine returnsInHanded_of_change (C := Try.checked) own started (by kernel_rfl) Try.func10
    (ChangeSpec.witness6 (enc := enc) (C := Try.checked) false ⟨#[], #[.int .i64 0, .int .i64 0, .slice none 0 0], []⟩ 8 (by kernel_rfl) (by kernel_rfl) (by kernel_rfl) (by kernel_rfl)) ?_
  intro W base args ds gs before hval0 hW hcnd _
  have hval : ∀ (j : Nat) t v, Try.f10.params[j]? = some t → args[j]? = some v → Value.okWide Try.prog W .any base t v := hval0
  have hW' := hW
  obtain ⟨p, q, hA0, hV, rfl, hfz, hnd⟩ := hW
  have hA : DataW.TrodAll enc Try.prog W 0 (fun _ => true) true Try.f10.params.toList args.toList ds p := hA0
  rw [Try.params10] at hA hval
  obtain ⟨v0, vs0, d0, ds0, p0, q0, hargs, rfl, rfl, h0, r0⟩ := trodAll_cons hA
  obtain ⟨v1, vs1, d1, ds1, p1, q1, rfl, rfl, rfl, h1, r1⟩ := trodAll_cons r0
  obtain ⟨v2, vs2, d2, ds2, p2, q2, rfl, rfl, rfl, h2, r2⟩ := trodAll_cons r1
  obtain ⟨rfl, rfl, rfl⟩ := trodAll_nil r2
  obtain rfl : args = #[v0, v1, v2] := by cases args; simp_all
  obtain ⟨rfl, rfl⟩ := trodVars_none hV
  obtain ⟨a0, rfl, rfl, rfl, w0⟩ := open_int Try.underlying3 (hval 0 3 v0 rfl rfl) h0
  obtain ⟨a1, rfl, rfl, rfl, w1⟩ := open_int Try.underlying3 (hval 1 3 v1 rfl rfl) h1
  obtain ⟨a2, len2, cap2, rfl⟩ := okWide_slice Try.underlying26 (hval 2 26 v2 rfl rfl)
  have k2 := h2
  have lt2 : ∀ x ∈ p2, x.block < W.heap.size := by obtain ⟨m, hm⟩ := k2; exact DataW.trod_lt m _ _ _ hm
  obtain ⟨z2, w2⟩ : ∃ zs, IsRow .u8 W a2 len2 cap2 zs := by
    obtain ⟨fuel, hf⟩ := h2
    rcases open_ints Try.underlying26 Try.underlying5 (by kernel_rfl) hf with ⟨hcs, _⟩ | ⟨x, l, c, zs, hcs, _, hl, hm, hz, _, hcell, hwz⟩
    · simp [Value.cells] at hcs
      obtain ⟨rfl, rfl, rfl⟩ := hcs
      exact ⟨[], .inl ⟨rfl, rfl, rfl, rfl⟩⟩
    · simp [Value.cells] at hcs
      obtain ⟨rfl, rfl, rfl⟩ := hcs
      exact ⟨zs, .inr ⟨_, rfl, hl, hm, by simpa using hz, hcell, hwz⟩⟩
  clear hA0 hval0
  refine (walk a0 a1 a2 len2 cap2 z2 W w0 w1 w2).mono fun e W' ⟨he, bel⟩ => ?_
  subst he
  exact ⟨_, rfl, _, _, _, [], _, [], hW', trodAll_mk1 (shut_bool Try.underlying4 _), (trodAll_cons_mk (shut_int Try.underlying3 w0) (trodAll_cons_mk (shut_int Try.underlying3 w1) (trodAll_cons_mk (Below.trod laidOut (by kernel_rfl) (of_decide_eq_true (by kernel_rfl)) k2 bel lt2) trodAll_mk0))), rfl, bel.frame _, fun h => by cases h⟩

theorem over : Rows.wireCountsRow.holds Try.pinned (OpenSpec.ofChange Rows.wireCountsSpec) :=
  OpenClaim.holds_of_wide 10 Try.f10 rfl rfl rfl rfl rfl rfl rfl ⟨rfl, rfl, rfl, rfl, rfl⟩ rfl rfl rfl rfl rfl (by kernel_rfl) Try.func10 (by kernel_rfl)
    (of_decide_eq_true (by kernel_rfl)) (by unfold Func.isWrapper; first | (rw [if_pos (by decide +kernel)]; kernel_rfl) | (rw [if_neg (by decide +kernel)]; exact ⟨rfl, rfl⟩))
    (fun os started H enc _ => lifted os started H enc)

theorem proved : Rows.WireCountsSaid := over
end Go.Proofs.Ytmhknpkiddgcpaa.wireCounts
