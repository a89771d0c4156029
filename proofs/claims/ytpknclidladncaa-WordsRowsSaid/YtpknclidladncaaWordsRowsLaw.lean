/- For every number x, every n, every row of bytes and every place, the law WordsRows of citadellaw01 returns true: the rows, the numbers of rows and the numbers at a place are what the document's own functions give. Conditions: none beyond those that the statement itself prints. -/
import Derived.Test.YtpknclidladncaaRows
import Derived.Test.YtpknclidladncaaNumW
import Derived.WalkKit
import Derived.ProofKit
import Derived.OpenShut
import Derived.ShutString
import Derived.ChangeOld
import Derived.Below
namespace Go.Proofs.Ytpknclidladncaa.wordsRows
open Go.ChangeShapes Go.WideShapes Go.ChangeAt Go.RowKit
open Go.ChangeMaps (open_string shut_string)
set_option linter.unusedVariables false

theorem own : ownKnob Try.prog.godebug = none := by kernel_rfl
theorem laidOut : laidOutB Try.prog = true := by kernel_rfl

/-- Two rows that read the same, compared. -/
theorem eqq {A A' : Option Addr} {n m c d : Nat} {xs ys : List UInt8} {w : World} (h : xs = ys) (ha : Rd w w.heap.size A n xs) (hb : Rd w w.heap.size A' m ys) (hn : n ≤ 140737488355328) (hm : m ≤ 140737488355328) :
    Calls Try.prog 11 #[.slice A n c, .slice A' m d] w fun e w' => RetQ w (.bool true) e w' :=
  refSameT A A' n m c d _ xs ys w h ha hb hn hm
set_option maxRecDepth 100000 in
set_option maxHeartbeats 2000000 in
theorem walk (a0 : Int) (a1 : Int) (a2 : Option Addr) (len2 cap2 : Nat) (z2 : List Int) (a3 : Int) (w : World) (w0 : (Lit.int .u64 a0).wf = true) (w1 : (Lit.int .i64 a1).wf = true) (w2 : IsRow .u8 w a2 len2 cap2 z2) (w3 : (Lit.int .i64 a3).wf = true) :
    Calls Try.prog 3 #[.int .u64 a0, .int .i64 a1, .slice a2 len2 cap2, .int .i64 a3] w fun e w' => e = .returned (.bool true) ∧ Below w.heap.size w w' := by
  obtain ⟨x, rfl, hx⟩ := wf_u64 w0
  obtain ⟨hn1, hn2⟩ := wf_i64 w1
  obtain ⟨hp1, hp2⟩ := wf_i64 w3
  obtain ⟨r2, hcap, hcap2⟩ := w2.rd
  generalize bytesIn (z2.take len2) = bs at r2
  clear w0 w1 w2 w3
  by_cases hbig : 1000 < len2
  · go_enter Try.func3, Try.ntmps3
    go_wp2
    go_ret
    exact ⟨rfl, Below.refl _ _⟩
  · have R0 := Lib.hid r2
    clear r2
    go_enter Try.func3, Try.ntmps3
    go_wp2_with fail
    refine (refCopy a2 len2 cap2 bs w R0.out (by omega)).mono ?_
    rintro e w1 ⟨A1, n1, c1, rfl, hown1, hbel1⟩
    obtain ⟨hc1, hc1'⟩ := own_cap hown1
    have M1 := Lib.hid (Rd.of_own hown1)
    have R1 := Lib.hid (R0.out.to hbel1)
    have hn1 : n1 ≤ 1000 := by rw [← M1.out.1, R0.out.1]; omega
    clear hown1
    go_wp2_with fail
    have hcases : (a1 < 1 ∨ 8 < a1) ∨ ∃ n : Nat, a1 = (n : Int) ∧ 1 ≤ n ∧ n ≤ 8 := by
      by_cases h : a1 < 1 ∨ 8 < a1
      · exact .inl h
      · exact .inr ⟨a1.toNat, by omega, by omega, by omega⟩
    rcases hcases with hno | ⟨n, rfl, hn1', hn8⟩
    · refine (wRowNo x a1 w1 hno).mono ?_
      rintro e wX ⟨A2, n2, c2, rfl, hown2, hbel2⟩
      obtain rfl : n2 = 0 := (Rd.of_own hown2).1.symm
      have MX := Lib.hid (M1.out.to hbel2)
      have RX := Lib.hid (R1.out.to hbel2)
      have HW := Lib.hid (hbel1.trans (hbel2.mono hbel1.size))
      clear hown2 hbel2 hbel1 M1 R1
      rcases hno with hno | hno
      all_goals
        go_wp2_with fail
        refine (wNumber A1 n1 c1 _ bs wX MX.out (by omega)).mono ?_
        rintro e w' ⟨rfl, rfl⟩
        go_wp2_with fail
        refine (refNumber a2 len2 cap2 _ bs wX RX.out (by omega)).mono ?_
        rintro e w' ⟨rfl, rfl⟩
        go_wp2_with fail
        refine (wLoad32 A1 n1 c1 _ a3 bs wX MX.out hc1 hc1' hp1 hp2).mono ?_
        rintro e w' ⟨rfl, rfl⟩
        go_wp2_with fail
        refine (refLoad a2 len2 cap2 _ a3 4 bs wX RX.out hcap hcap2 hp1 hp2 (by decide) (by decide)).mono ?_
        rintro e w' ⟨rfl, rfl⟩
        go_wp2_with fail
        refine (wLoad64 A1 n1 c1 _ a3 bs wX MX.out hc1 hc1' hp1 hp2).mono ?_
        rintro e w' ⟨rfl, rfl⟩
        go_wp2_with fail
        refine (refLoad a2 len2 cap2 _ a3 8 bs wX RX.out hcap hcap2 hp1 hp2 (by decide) (by decide)).mono ?_
        rintro e w' ⟨rfl, rfl⟩
        have hl4 := loadOf_lt bs a3 4
        generalize loadOf bs a3 4 = l4 at *
        generalize loadOk bs a3 4 = k4
        generalize loadOf bs a3 8 = l8
        generalize loadOk bs a3 8 = k8
        go_wp2_with fail
        refine (eqq rfl MX.out RX.out (by omega) (by omega)).mono ?_
        rintro e wY ⟨rfl, hq⟩
        have HY : Hid (Below w.heap.size w wY) := by obtain ⟨q, rfl⟩ := hq; exact below_drewN HW.out q
        clear hq HW MX RX
        go_wp2_with fail
        rw [show ((x : Int) % 4294967296) = ((x % 4294967296 : Nat) : Int) from by omega]
        refine (wPut32 (x % 4294967296) wY (by omega)).mono ?_
        rintro e w4 ⟨A4, n4, c4, rfl, hown4, hbel4⟩
        have Q4 := Lib.hid (Rd.of_own hown4)
        clear hown4
        go_wp2_with fail
        refine (refPut x 4 w4 hx (by decide)).mono ?_
        rintro e w5 ⟨A5, n5, c5, rfl, hown5, hbel5⟩
        have Q5 := Lib.hid (Q4.out.to hbel5)
        have P5 := Lib.hid (Rd.of_own hown5)
        have hn4 : n4 ≤ 8 := by rw [← Q5.out.1, enc_len]; decide
        have hn5 : n5 ≤ 8 := by rw [← P5.out.1, enc_len]; decide
        clear hown5
        go_wp2_with fail
        refine (eqq (enc_mod32 x) Q5.out P5.out (by omega) (by omega)).mono ?_
        rintro e wZ ⟨rfl, hq⟩
        have HZ : Hid (Below w.heap.size w wZ) := by
          obtain ⟨q, rfl⟩ := hq
          exact below_drewN ((HY.out.trans (hbel4.mono HY.out.size)).trans (hbel5.mono (Nat.le_trans HY.out.size hbel4.size))) q
        clear hq hbel4 hbel5 Q4 Q5 P5 HY
        go_wp2_with fail
        refine (wPut64 x wZ hx).mono ?_
        rintro e w6 ⟨A6, n6, c6, rfl, hown6, hbel6⟩
        have Q6 := Lib.hid (Rd.of_own hown6)
        clear hown6
        go_wp2_with fail
        refine (refPut x 8 w6 hx (by decide)).mono ?_
        rintro e w7 ⟨A7, n7, c7, rfl, hown7, hbel7⟩
        have Q7 := Lib.hid (Q6.out.to hbel7)
        have P7 := Lib.hid (Rd.of_own hown7)
        have hn6 : n6 ≤ 8 := by rw [← Q7.out.1, enc_len]; decide
        have hn7 : n7 ≤ 8 := by rw [← P7.out.1, enc_len]; decide
        clear hown7
        go_wp2_with fail
        refine (eqq rfl Q7.out P7.out (by omega) (by omega)).mono ?_
        rintro e wV ⟨rfl, hq⟩
        have HV : Hid (Below w.heap.size w wV) := by
          obtain ⟨q, rfl⟩ := hq
          exact below_drewN ((HZ.out.trans (hbel6.mono HZ.out.size)).trans (hbel7.mono (Nat.le_trans HZ.out.size hbel6.size))) q
        clear hq hbel6 hbel7 Q6 Q7 P7 HZ
        go_wp2_with fail
        go_ret
        exact ⟨rfl, HV.out⟩
    · refine (wRow x n w1 hx hn1' hn8).mono ?_
      rintro e w2 ⟨A2, n2, c2, rfl, hown2, hbel2⟩
      have M2 := Lib.hid (M1.out.to hbel2)
      have R2 := Lib.hid (R1.out.to hbel2)
      have Q2 := Lib.hid (Rd.of_own hown2)
      clear hown2
      go_wp2_with fail
      refine (refPut x n w2 hx hn8).mono ?_
      rintro e w3 ⟨A3, n3, c3, rfl, hown3, hbel3⟩
      have M3 := Lib.hid (M2.out.to hbel3)
      have R3 := Lib.hid (R2.out.to hbel3)
      have Q3 := Lib.hid (Q2.out.to hbel3)
      have P3 := Lib.hid (Rd.of_own hown3)
      have hn2 : n2 ≤ 8 := by rw [← Q3.out.1, enc_len]; exact hn8
      have hn3 : n3 ≤ 8 := by rw [← P3.out.1, enc_len]; exact hn8
      clear hown3
      go_wp2_with fail
      refine (eqq rfl Q3.out P3.out (by omega) (by omega)).mono ?_
      rintro e wX ⟨rfl, hq⟩
      have MX : Hid (Rd wX wX.heap.size A1 n1 bs) := by obtain ⟨q, rfl⟩ := hq; exact M3.out
      have RX : Hid (Rd wX wX.heap.size a2 len2 bs) := by obtain ⟨q, rfl⟩ := hq; exact R3.out
      have HW : Hid (Below w.heap.size w wX) := by
        obtain ⟨q, rfl⟩ := hq
        exact below_drewN ((hbel1.trans (hbel2.mono hbel1.size)).trans (hbel3.mono (Nat.le_trans hbel1.size hbel2.size))) q
      clear hq hbel1 hbel2 hbel3 M1 M2 M3 R1 R2 R3 Q2 Q3 P3
      go_wp2_with fail
      refine (wNumber A1 n1 c1 _ bs wX MX.out (by omega)).mono ?_
      rintro e w' ⟨rfl, rfl⟩
      go_wp2_with fail
      refine (refNumber a2 len2 cap2 _ bs wX RX.out (by omega)).mono ?_
      rintro e w' ⟨rfl, rfl⟩
      go_wp2_with fail
      refine (wLoad32 A1 n1 c1 _ a3 bs wX MX.out hc1 hc1' hp1 hp2).mono ?_
      rintro e w' ⟨rfl, rfl⟩
      go_wp2_with fail
      refine (refLoad a2 len2 cap2 _ a3 4 bs wX RX.out hcap hcap2 hp1 hp2 (by decide) (by decide)).mono ?_
      rintro e w' ⟨rfl, rfl⟩
      go_wp2_with fail
      refine (wLoad64 A1 n1 c1 _ a3 bs wX MX.out hc1 hc1' hp1 hp2).mono ?_
      rintro e w' ⟨rfl, rfl⟩
      go_wp2_with fail
      refine (refLoad a2 len2 cap2 _ a3 8 bs wX RX.out hcap hcap2 hp1 hp2 (by decide) (by decide)).mono ?_
      rintro e w' ⟨rfl, rfl⟩
      have hl4 := loadOf_lt bs a3 4
      generalize loadOf bs a3 4 = l4 at *
      generalize loadOk bs a3 4 = k4
      generalize loadOf bs a3 8 = l8
      generalize loadOk bs a3 8 = k8
      go_wp2_with fail
      refine (eqq rfl MX.out RX.out (by omega) (by omega)).mono ?_
      rintro e wY ⟨rfl, hq⟩
      have HY : Hid (Below w.heap.size w wY) := by obtain ⟨q, rfl⟩ := hq; exact below_drewN HW.out q
      clear hq HW MX RX
      go_wp2_with fail
      rw [show ((x : Int) % 4294967296) = ((x % 4294967296 : Nat) : Int) from by omega]
      refine (wPut32 (x % 4294967296) wY (by omega)).mono ?_
      rintro e w4 ⟨A4, n4, c4, rfl, hown4, hbel4⟩
      have Q4 := Lib.hid (Rd.of_own hown4)
      clear hown4
      go_wp2_with fail
      refine (refPut x 4 w4 hx (by decide)).mono ?_
      rintro e w5 ⟨A5, n5, c5, rfl, hown5, hbel5⟩
      have Q5 := Lib.hid (Q4.out.to hbel5)
      have P5 := Lib.hid (Rd.of_own hown5)
      have hn4 : n4 ≤ 8 := by rw [← Q5.out.1, enc_len]; decide
      have hn5 : n5 ≤ 8 := by rw [← P5.out.1, enc_len]; decide
      clear hown5
      go_wp2_with fail
      refine (eqq (enc_mod32 x) Q5.out P5.out (by omega) (by omega)).mono ?_
      rintro e wZ ⟨rfl, hq⟩
      have HZ : Hid (Below w.heap.size w wZ) := by
        obtain ⟨q, rfl⟩ := hq
        exact below_drewN ((HY.out.trans (hbel4.mono HY.out.size)).trans (hbel5.mono (Nat.le_trans HY.out.size hbel4.size))) q
      clear hq hbel4 hbel5 Q4 Q5 P5 HY
      go_wp2_with fail
      refine (wPut64 x wZ hx).mono ?_
      rintro e w6 ⟨A6, n6, c6, rfl, hown6, hbel6⟩
      have Q6 := Lib.hid (Rd.of_own hown6)
      clear hown6
      go_wp2_with fail
      refine (refPut x 8 w6 hx (by decide)).mono ?_
      rintro e w7 ⟨A7, n7, c7, rfl, hown7, hbel7⟩
      have Q7 := Lib.hid (Q6.out.to hbel7)
      have P7 := Lib.hid (Rd.of_own hown7)
      have hn6 : n6 ≤ 8 := by rw [← Q7.out.1, enc_len]; decide
      have hn7 : n7 ≤ 8 := by rw [← P7.out.1, enc_len]; decide
      clear hown7
      go_wp2_with fail
      refine (eqq rfl Q7.out P7.out (by omega) (by omega)).mono ?_
      rintro e wV ⟨rfl, hq⟩
      have HV : Hid (Below w.heap.size w wV) := by
        obtain ⟨q, rfl⟩ := hq
        exact below_drewN ((HZ.out.trans (hbel6.mono HZ.out.size)).trans (hbel7.mono (Nat.le_trans HZ.out.size hbel6.size))) q
      clear hq hbel6 hbel7 Q6 Q7 P7 HZ
      go_wp2_with fail
      go_ret
      exact ⟨rfl, HV.out⟩

set_option maxRecDepth 100000 in
theorem lifted (os : Os) (started : os.Started) (H : Type) (enc : TypeId × Value → H) :
    ReturnsInHanded {} Try.checked os 3 .any (Rows.wordsRowsSpec.pre6 enc Try.prog Try.f3 Rows.wordsRowsRow.domain false) (Rows.wordsRowsSpec.post enc Try.prog Try.f3 false true false false) := by
  refine returnsInHanded_of_change (C := Try.checked) own started (by kernel_rfl) Try.func3
    (ChangeSpec.witness6 (enc := enc) (C := Try.checked) false ⟨#[], #[.int .u64 0, .int .i64 0, .slice none 0 0, .int .i64 0], []⟩ 8 (by kernel_rfl) (by kernel_rfl) (by kernel_rfl) (by kernel_rfl)) ?_
  intro W base args ds gs before hval0 hW hcnd _
  have hval : ∀ (j : Nat) t v, Try.f3.params[j]? = some t → args[j]? = some v → Value.okWide Try.prog W .any base t v := hval0
  have hW' := hW
  obtain ⟨p, q, hA0, hV, rfl, hfz, hnd⟩ := hW
  have hA : DataW.TrodAll enc Try.prog W 0 (fun _ => true) true Try.f3.params.toList args.toList ds p := hA0
  rw [Try.params3] at hA hval
  obtain ⟨v0, vs0, d0, ds0, p0, q0, hargs, rfl, rfl, h0, r0⟩ := trodAll_cons hA
  obtain ⟨v1, vs1, d1, ds1, p1, q1, rfl, rfl, rfl, h1, r1⟩ := trodAll_cons r0
  obtain ⟨v2, vs2, d2, ds2, p2, q2, rfl, rfl, rfl, h2, r2⟩ := trodAll_cons r1
  obtain ⟨v3, vs3, d3, ds3, p3, q3, rfl, rfl, rfl, h3, r3⟩ := trodAll_cons r2
  obtain ⟨rfl, rfl, rfl⟩ := trodAll_nil r3
  obtain rfl : args = #[v0, v1, v2, v3] := by cases args; simp_all
  obtain ⟨rfl, rfl⟩ := trodVars_none hV
  obtain ⟨a0, rfl, rfl, rfl, w0⟩ := open_int Try.underlying22 (hval 0 22 v0 rfl rfl) h0
  obtain ⟨a1, rfl, rfl, rfl, w1⟩ := open_int Try.underlying3 (hval 1 3 v1 rfl rfl) h1
  obtain ⟨a2, len2, cap2, rfl⟩ := okWide_slice Try.underlying23 (hval 2 23 v2 rfl rfl)
  have k2 := h2
  have lt2 : ∀ x ∈ p2, x.block < W.heap.size := by obtain ⟨m, hm⟩ := k2; exact DataW.trod_lt m _ _ _ hm
  obtain ⟨z2, w2⟩ : ∃ zs, IsRow .u8 W a2 len2 cap2 zs := by
    obtain ⟨fuel, hf⟩ := h2
    rcases open_ints Try.underlying23 Try.underlying5 (by kernel_rfl) hf with ⟨hcs, _⟩ | ⟨x, l, c, zs, hcs, _, hl, hm, hz, _, hcell, hwz⟩
    · simp [Value.cells] at hcs
      obtain ⟨rfl, rfl, rfl⟩ := hcs
      exact ⟨[], .inl ⟨rfl, rfl, rfl, rfl⟩⟩
    · simp [Value.cells] at hcs
      obtain ⟨rfl, rfl, rfl⟩ := hcs
      exact ⟨zs, .inr ⟨_, rfl, hl, hm, by simpa using hz, hcell, hwz⟩⟩
  obtain ⟨a3, rfl, rfl, rfl, w3⟩ := open_int Try.underlying3 (hval 3 3 v3 rfl rfl) h3
  clear hA0 hval0
  refine (walk a0 a1 a2 len2 cap2 z2 a3 W w0 w1 w2 w3).mono fun e W' ⟨he, bel⟩ => ?_
  subst he
  exact ⟨_, rfl, _, _, _, [], _, [], hW', trodAll_mk1 (shut_bool Try.underlying4 _), (trodAll_cons_mk (shut_int Try.underlying22 w0) (trodAll_cons_mk (shut_int Try.underlying3 w1) (trodAll_cons_mk (Below.trod laidOut (by kernel_rfl) (of_decide_eq_true (by kernel_rfl)) k2 bel lt2) (trodAll_cons_mk (shut_int Try.underlying3 w3) trodAll_mk0)))), rfl, bel.frame _, fun h => by cases h⟩

theorem over : Rows.wordsRowsRow.holds Try.pinned (OpenSpec.ofChange Rows.wordsRowsSpec) :=
  OpenClaim.holds_of_wide 3 Try.f3 rfl rfl rfl rfl rfl rfl rfl ⟨rfl, rfl, rfl, rfl, rfl⟩ rfl rfl rfl rfl rfl (by kernel_rfl) Try.func3 (by kernel_rfl)
    (of_decide_eq_true (by kernel_rfl)) (by unfold Func.isWrapper; first | (rw [if_pos (by decide +kernel)]; kernel_rfl) | (rw [if_neg (by decide +kernel)]; exact ⟨rfl, rfl⟩))
    (fun os started H enc _ => lifted os started H enc)


theorem proved : Rows.WordsRowsSaid := over
end Go.Proofs.Ytpknclidladncaa.wordsRows
