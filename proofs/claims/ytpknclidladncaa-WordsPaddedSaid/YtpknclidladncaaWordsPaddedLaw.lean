/- For every row of bytes and every n the law WordsPadded of citadellaw01 returns true: a padded row begins with the row, has noughts behind it, and has as many bytes as were asked for, or as it had; padded once more it is the same. Conditions: none beyond those that the statement itself prints. -/
import Derived.Test.YtpknclidladncaaRows
import Derived.Test.YtpknclidladncaaAwake
import Derived.WalkKit
import Derived.ProofKit
import Derived.OpenShut
import Derived.ShutString
import Derived.ChangeOld
import Derived.Below
namespace Go.Proofs.Ytpknclidladncaa.wordsPadded
open Go.ChangeShapes Go.WideShapes Go.ChangeAt Go.RowKit
open Go.ChangeMaps (open_string shut_string)
set_option linter.unusedVariables false

theorem own : ownKnob Try.prog.godebug = none := by kernel_rfl
theorem laidOut : laidOutB Try.prog = true := by kernel_rfl

theorem padTo_len (bs : List UInt8) (k : Int) : (padTo bs k).length = bs.length + ((min k 65536).toNat - bs.length) := by simp [padTo]
theorem padTo_idem (bs : List UInt8) (k : Int) : padTo (padTo bs k) k = padTo bs k := by
  have h := padTo_len bs k
  rw [padTo.eq_1 (padTo bs k), h]
  rw [show (min k 65536).toNat - (bs.length + ((min k 65536).toNat - bs.length)) = 0 from by omega]
  simp
theorem padTo_take (bs : List UInt8) (k : Int) : (padTo bs k).take bs.length = bs := by simp [padTo]
theorem padTo_zero {bs : List UInt8} {k : Int} {i : Nat} (h : bs.length ≤ i) (hi : i < (padTo bs k).length) : nth (padTo bs k) i = 0 := by
  rw [nth_of_lt hi]
  simp only [padTo, List.getElem_append_right h, List.getElem_replicate]
  rfl
theorem rd_take {w : World} {B n : Nat} {b o : Nat} {bs : List UInt8} (h : Rd w B (some ⟨b, o, none⟩) n bs) {k : Nat} (hk : k ≤ n) : Rd w B (some ⟨b, o, none⟩) k (bs.take k) := by
  have := h.cut (l := 0) (k := k) (by omega) hk
  simpa using this
theorem own_form {w : World} {B : Nat} {T : TypeId} {A : Option Addr} {n c : Nat} {xs : List Value} (h : w.ownsRow B T 1 (.slice A n c) n xs) : (A = none ∧ n = 0 ∧ c = 0) ∨ ∃ g, A = some ⟨g, 0, none⟩ := by
  rcases h.2 with ⟨h, h0⟩ | ⟨g, cap, cur, hv, hg, _⟩
  · injection h with h1 h2 h3; exact .inl ⟨h1, h2, h3⟩
  · injection hv with h1; exact .inr ⟨g, h1⟩
def ZeroRel (lo n : Nat) (i : Value) : Prop := ∃ k : Nat, lo ≤ k ∧ k ≤ n ∧ i = .int .i64 (k : Int)
set_option maxRecDepth 100000 in
set_option maxHeartbeats 2000000 in
theorem walk (a0 : Option Addr) (len0 cap0 : Nat) (z0 : List Int) (a1 : Int) (w : World) (w0 : IsRow .u8 w a0 len0 cap0 z0) (w1 : (Lit.int .i64 a1).wf = true) :
    Calls Try.prog 8 #[.slice a0 len0 cap0, .int .i64 a1] w fun e w' => e = .returned (.bool true) ∧ Below w.heap.size w w' := by
  obtain ⟨hk1, hk2⟩ := wf_i64 w1
  obtain ⟨r0, hcap, hcap'⟩ := w0.rd
  generalize bytesIn (z0.take len0) = bs at r0
  clear w0 w1
  have R0 := Lib.hid r0
  clear r0
  by_cases hout : 200 < len0 ∨ 500 < a1
  · go_enter Try.func8, Try.ntmps8
    go_wp2_with fail
    refine (awake w).mono ?_
    rintro e w1 ⟨rfl, hbel1⟩
    have B1 := Lib.hid hbel1
    clear hbel1
    by_cases h1 : 200 < len0
    · go_wp2_with fail
      go_ret
      exact ⟨rfl, B1.out⟩
    · have h2 : 500 < a1 := by omega
      go_wp2_with fail
      go_ret
      exact ⟨rfl, B1.out⟩
  · have h1 : len0 ≤ 200 := by omega
    have h2 : a1 ≤ 500 := by omega
    clear hout
    go_enter Try.func8, Try.ntmps8
    go_wp2_with fail
    refine (awake w).mono ?_
    rintro e w1 ⟨rfl, hbel1⟩
    have R1 := Lib.hid (R0.out.to hbel1)
    have B1 := Lib.hid hbel1
    clear hbel1
    go_wp2_with fail
    refine (wPadded a0 len0 cap0 a1 bs w1 R1.out (by omega) hk1 hk2).mono ?_
    rintro e w2 ⟨A2, n2, c2, rfl, hown2, hbel2⟩
    have R2 := Lib.hid (R1.out.to hbel2)
    have B2 := Lib.hid (B1.out.trans (hbel2.mono B1.out.size))
    have X2 := Lib.hid (Rd.of_own hown2)
    have HF := Lib.hid (own_form hown2)
    obtain ⟨hc2, hc2'⟩ := own_cap hown2
    clear hown2 hbel2 R1 B1
    have HN : Hid (n2 = len0 + ((min a1 65536).toNat - len0)) := by
      have e := X2.out.1; rw [padTo_len, R0.out.1] at e; exact e.symm
    have hn2 : n2 ≤ 500 := by have := HN.out; omega
    have hn2' : len0 ≤ n2 := by have := HN.out; omega
    have hcase : (a1 ≤ len0 ∧ n2 = len0) ∨ (len0 < a1 ∧ (n2 : Int) = a1) := by have := HN.out; omega
    clear HN
    have HT : n2 = len0 ∨ len0 ≤ n2 := by omega
    rcases HF.out with ⟨rfl, rfl, rfl⟩ | ⟨g, rfl⟩
    · obtain rfl : len0 = 0 := by omega
      have hb0 : bs = [] := List.eq_nil_of_length_eq_zero R2.out.1
      have T2 := Lib.hid (Rd.nil w2 w2.heap.size none)
      have H0 := Lib.hid hb0
      have ha : a1 ≤ 0 := by omega
      have ha' : ¬ (0 : Int) < a1 := by omega
      clear hcase HT hb0 hn2' hn2
      go_wp2_with fail
      have S1 := wSame none a0 0 0 0 cap0 _ [] bs w2 T2.out R2.out
      rw [show decide ([] = bs) = true from by rw [H0.out]; rfl] at S1
      refine S1.mono ?_
      clear S1
      rintro e w' ⟨rfl, rfl⟩
      go_wp2_with fail
      refine (wPadded none 0 0 a1 _ w2 X2.out (by omega) hk1 hk2).mono ?_
      rintro e w3 ⟨A3, n3, c3, rfl, hown3, hbel3⟩
      rw [padTo_idem] at hown3
      have X3 := Lib.hid (X2.out.to hbel3)
      have Y3 := Lib.hid (Rd.of_own hown3)
      have B3 := Lib.hid (B2.out.trans (hbel3.mono B2.out.size))
      clear hown3 hbel3
      go_wp2_with fail
      have S2 := wSame A3 none n3 0 c3 0 _ (padTo bs a1) (padTo bs a1) w3 Y3.out X3.out
      rw [show decide (padTo bs a1 = padTo bs a1) = true from by simp] at S2
      refine S2.mono ?_
      clear S2
      rintro e w' ⟨rfl, rfl⟩
      go_wp2_with fail
      go_rounds 1
      go_ret
      exact ⟨rfl, B3.out⟩
    · have T2 : Hid (Rd w2 w2.heap.size (some ⟨g, 0, none⟩) len0 bs) := by
        have h := rd_take X2.out hn2'
        rw [← R0.out.1, padTo_take, R0.out.1] at h
        exact h
      rcases hcase with ⟨ha, rfl⟩ | ⟨ha, rfl⟩
      · have ha' : ¬ ((n2 : Int) < a1) := by omega
        go_wp2_with fail
        have S1 := wSame (some ⟨g, 0, none⟩) a0 n2 n2 c2 cap0 _ bs bs w2 T2.out R2.out
        rw [show decide (bs = bs) = true from by simp] at S1
        refine S1.mono ?_
        clear S1
        rintro e w' ⟨rfl, rfl⟩
        go_wp2_with fail
        refine (wPadded (some ⟨g, 0, none⟩) n2 c2 a1 _ w2 X2.out (by omega) hk1 hk2).mono ?_
        rintro e w3 ⟨A3, n3, c3, rfl, hown3, hbel3⟩
        rw [padTo_idem] at hown3
        have X3 := Lib.hid (X2.out.to hbel3)
        have Y3 := Lib.hid (Rd.of_own hown3)
        have B3 := Lib.hid (B2.out.trans (hbel3.mono B2.out.size))
        clear hown3 hbel3
        go_wp2_with fail
        have S2 := wSame A3 (some ⟨g, 0, none⟩) n3 n2 c3 c2 _ (padTo bs a1) (padTo bs a1) w3 Y3.out X3.out
        rw [show decide (padTo bs a1 = padTo bs a1) = true from by simp] at S2
        refine S2.mono ?_
        clear S2
        rintro e w' ⟨rfl, rfl⟩
        go_wp2_with fail
        go_loop [7] (fun i => ZeroRel n2 n2 i) (fun i => n2 - (intOf i).toNat)
        case atStart => exact ⟨n2, Nat.le_refl _, Nat.le_refl _, rfl⟩
        case round =>
          obtain ⟨k, hk, hk', rfl⟩ := hrel
          by_cases hlt : k < n2
          · have hcell : w3.cell? ⟨g, 0 + k, none⟩ = some (.int .u8 0) := by
              obtain ⟨b, o, e, _, hc⟩ := X3.out.2 (by omega)
              simp only [Option.some.injEq, Addr.mk.injEq, and_true] at e
              obtain ⟨rfl, rfl⟩ := e
              rw [hc k hlt, padTo_zero (by rw [R2.out.1]; exact hk) (by rw [X3.out.1]; exact hlt)]
              rfl
            rw [Nat.zero_add] at hcell
            go_wp2_with fail
            go_round
            case rel => exact ⟨k + 1, by omega, by omega, by go_num⟩
            case measure => simp [intOf]; omega
          · obtain rfl : k = n2 := by omega
            go_wp2_with fail
            go_ret
            exact ⟨rfl, B3.out⟩
      · have hnl : len0 < n2 := by omega
        go_wp2_with fail
        have S1 := wSame (some ⟨g, 0, none⟩) a0 len0 len0 c2 cap0 _ bs bs w2 T2.out R2.out
        rw [show decide (bs = bs) = true from by simp] at S1
        refine S1.mono ?_
        clear S1
        rintro e w' ⟨rfl, rfl⟩
        go_wp2_with fail
        refine (wPadded (some ⟨g, 0, none⟩) n2 c2 (n2 : Int) _ w2 X2.out (by omega) hk1 hk2).mono ?_
        rintro e w3 ⟨A3, n3, c3, rfl, hown3, hbel3⟩
        rw [padTo_idem] at hown3
        have X3 := Lib.hid (X2.out.to hbel3)
        have Y3 := Lib.hid (Rd.of_own hown3)
        have B3 := Lib.hid (B2.out.trans (hbel3.mono B2.out.size))
        clear hown3 hbel3
        go_wp2_with fail
        have S2 := wSame A3 (some ⟨g, 0, none⟩) n3 n2 c3 c2 _ (padTo bs (n2 : Int)) (padTo bs (n2 : Int)) w3 Y3.out X3.out
        rw [show decide (padTo bs (n2 : Int) = padTo bs (n2 : Int)) = true from by simp] at S2
        refine S2.mono ?_
        clear S2
        rintro e w' ⟨rfl, rfl⟩
        go_wp2_with fail
        go_loop [7] (fun i => ZeroRel len0 n2 i) (fun i => n2 - (intOf i).toNat)
        case atStart => exact ⟨len0, Nat.le_refl _, hn2', rfl⟩
        case round =>
          obtain ⟨k, hk, hk', rfl⟩ := hrel
          by_cases hlt : k < n2
          · have hcell : w3.cell? ⟨g, 0 + k, none⟩ = some (.int .u8 0) := by
              obtain ⟨b, o, e, _, hc⟩ := X3.out.2 (by omega)
              simp only [Option.some.injEq, Addr.mk.injEq, and_true] at e
              obtain ⟨rfl, rfl⟩ := e
              rw [hc k hlt, padTo_zero (by rw [R2.out.1]; exact hk) (by rw [X3.out.1]; exact hlt)]
              rfl
            rw [Nat.zero_add] at hcell
            go_wp2_with fail
            go_round
            case rel => exact ⟨k + 1, by omega, by omega, by go_num⟩
            case measure => simp [intOf]; omega
          · obtain rfl : k = n2 := by omega
            go_wp2_with fail
            go_ret
            exact ⟨rfl, B3.out⟩

set_option maxRecDepth 100000 in
theorem lifted (os : Os) (started : os.Started) (H : Type) (enc : TypeId × Value → H) :
    ReturnsInHanded {} Try.checked os 8 .any (Rows.wordsPaddedSpec.pre6 enc Try.prog Try.f8 Rows.wordsPaddedRow.domain false) (Rows.wordsPaddedSpec.post enc Try.prog Try.f8 false true false false) := by
  refine returnsInHanded_of_change (C := Try.checked) own started (by kernel_rfl) Try.func8
    (ChangeSpec.witness6 (enc := enc) (C := Try.checked) false ⟨#[], #[.slice none 0 0, .int .i64 0], []⟩ 8 (by kernel_rfl) (by kernel_rfl) (by kernel_rfl) (by kernel_rfl)) ?_
  intro W base args ds gs before hval0 hW hcnd _
  have hval : ∀ (j : Nat) t v, Try.f8.params[j]? = some t → args[j]? = some v → Value.okWide Try.prog W .any base t v := hval0
  have hW' := hW
  obtain ⟨p, q, hA0, hV, rfl, hfz, hnd⟩ := hW
  have hA : DataW.TrodAll enc Try.prog W 0 (fun _ => true) true Try.f8.params.toList args.toList ds p := hA0
  rw [Try.params8] at hA hval
  obtain ⟨v0, vs0, d0, ds0, p0, q0, hargs, rfl, rfl, h0, r0⟩ := trodAll_cons hA
  obtain ⟨v1, vs1, d1, ds1, p1, q1, rfl, rfl, rfl, h1, r1⟩ := trodAll_cons r0
  obtain ⟨rfl, rfl, rfl⟩ := trodAll_nil r1
  obtain rfl : args = #[v0, v1] := by cases args; simp_all
  obtain ⟨rfl, rfl⟩ := trodVars_none hV
  obtain ⟨a0, len0, cap0, rfl⟩ := okWide_slice Try.underlying23 (hval 0 23 v0 rfl rfl)
  have k0 := h0
  have lt0 : ∀ x ∈ p0, x.block < W.heap.size := by obtain ⟨m, hm⟩ := k0; exact DataW.trod_lt m _ _ _ hm
  obtain ⟨z0, w0⟩ : ∃ zs, IsRow .u8 W a0 len0 cap0 zs := by
    obtain ⟨fuel, hf⟩ := h0
    rcases open_ints Try.underlying23 Try.underlying5 (by kernel_rfl) hf with ⟨hcs, _⟩ | ⟨x, l, c, zs, hcs, _, hl, hm, hz, _, hcell, hwz⟩
    · simp [Value.cells] at hcs
      obtain ⟨rfl, rfl, rfl⟩ := hcs
      exact ⟨[], .inl ⟨rfl, rfl, rfl, rfl⟩⟩
    · simp [Value.cells] at hcs
      obtain ⟨rfl, rfl, rfl⟩ := hcs
      exact ⟨zs, .inr ⟨_, rfl, hl, hm, by simpa using hz, hcell, hwz⟩⟩
  obtain ⟨a1, rfl, rfl, rfl, w1⟩ := open_int Try.underlying3 (hval 1 3 v1 rfl rfl) h1
  clear hA0 hval0
  refine (walk a0 len0 cap0 z0 a1 W w0 w1).mono fun e W' ⟨he, bel⟩ => ?_
  subst he
  exact ⟨_, rfl, _, _, _, [], _, [], hW', trodAll_mk1 (shut_bool Try.underlying4 _), (trodAll_cons_mk (Below.trod laidOut (by kernel_rfl) (of_decide_eq_true (by kernel_rfl)) k0 bel lt0) (trodAll_cons_mk (shut_int Try.underlying3 w1) trodAll_mk0)), rfl, bel.frame _, fun h => by cases h⟩

theorem over : Rows.wordsPaddedRow.holds Try.pinned (OpenSpec.ofChange Rows.wordsPaddedSpec) :=
  OpenClaim.holds_of_wide 8 Try.f8 rfl rfl rfl rfl rfl rfl rfl ⟨rfl, rfl, rfl, rfl, rfl⟩ rfl rfl rfl rfl rfl (by kernel_rfl) Try.func8 (by kernel_rfl)
    (of_decide_eq_true (by kernel_rfl)) (by unfold Func.isWrapper; first | (rw [if_pos (by decide +kernel)]; kernel_rfl) | (rw [if_neg (by decide +kernel)]; exact ⟨rfl, rfl⟩))
    (fun os started H enc _ => lifted os started H enc)


theorem proved : Rows.WordsPaddedSaid := over
end Go.Proofs.Ytpknclidladncaa.wordsPadded
