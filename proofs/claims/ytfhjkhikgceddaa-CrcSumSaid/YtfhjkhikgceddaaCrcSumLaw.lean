/- For any number and any row of at most 5000 bytes the law CrcSum of citadellaw02 returns true: Sum and Add of crc are the chapter's, and the row stays as it was. Conditions: none beyond those that the statement itself prints. -/
import Derived.Test.YtfhjkhikgceddaaRows
import Derived.Test.YtfhjkhikgceddaaCrcW
import Derived.WalkKit
import Derived.ProofKit
import Derived.OpenShut
import Derived.ShutString
import Derived.ChangeOld
import Derived.Below
namespace Go.Proofs.Ytfhjkhikgceddaa.crcSum
open Go.ChangeShapes Go.WideShapes Go.ChangeAt Go.RowKit
open Go.ChangeMaps (open_string shut_string)
set_option linter.unusedVariables false

theorem own : ownKnob Try.prog.godebug = none := by kernel_rfl
theorem laidOut : laidOutB Try.prog = true := by kernel_rfl

set_option maxRecDepth 100000 in
set_option maxHeartbeats 2000000 in
theorem walk (a0 : Int) (a1 : Option Addr) (len1 cap1 : Nat) (z1 : List Int) (w : World) (w0 : (Lit.int .u32 a0).wf = true) (w1 : IsRow .u8 w a1 len1 cap1 z1) :
    Calls Try.prog 3 #[.int .u32 a0, .slice a1 len1 cap1] w fun e w' => e = .returned (.bool true) ∧ Below w.heap.size w w' := by
  obtain ⟨x, rfl, hx⟩ := wf_u32 w0
  obtain ⟨r1, hcap1, hcap1'⟩ := w1.rd
  generalize bytesIn (z1.take len1) = xs at r1
  clear w0 w1
  have R1 := Lib.hid r1
  clear r1
  by_cases hl : 5000 < len1
  · go_enter Try.func3, Try.ntmps3
    go_wp2_with fail
    go_ret
    exact ⟨rfl, Below.refl _ _⟩
  · go_enter Try.func3, Try.ntmps3
    go_wp2_with fail
    refine (refCopy a1 len1 cap1 xs w R1.out (by omega)).mono ?_
    rintro e w1 ⟨A1, n1, c1, rfl, hown1, hbel1⟩
    have M1 := Lib.hid (Rd.of_own hown1)
    have B1 := Lib.hid hbel1
    have P1 := Lib.hid (R1.out.to hbel1)
    obtain rfl : n1 = len1 := by rw [← M1.out.1, R1.out.1]
    clear hown1 hbel1
    go_wp2_with fail
    refine (wSum A1 n1 c1 xs w1 M1.out (by omega)).mono ?_
    rintro e w2 ⟨rfl, hbel2⟩
    have M2 := Lib.hid (M1.out.to hbel2)
    have B2 := Lib.hid (B1.out.trans (hbel2.mono B1.out.size))
    have P2 := Lib.hid (P1.out.to hbel2)
    clear hbel2 M1 P1 B1
    go_wp2_with fail
    refine (refSum a1 n1 cap1 _ xs w2 P2.out (by omega)).mono ?_
    rintro e w' ⟨rfl, rfl⟩
    generalize crcSum xs = s
    go_wp2_with fail
    refine (wAdd A1 n1 c1 x xs w2 M2.out (by omega) hx).mono ?_
    rintro e w3 ⟨rfl, hbel3⟩
    have M3 := Lib.hid (M2.out.to hbel3)
    have B3 := Lib.hid (B2.out.trans (hbel3.mono B2.out.size))
    have P3 := Lib.hid (P2.out.to hbel3)
    clear hbel3 M2 P2 B2
    go_wp2_with fail
    refine (refAdd a1 n1 cap1 _ x xs w3 P3.out (by omega) hx).mono ?_
    rintro e w' ⟨rfl, rfl⟩
    generalize crcAdd x xs = s2
    go_wp2_with fail
    refine (refSameT A1 a1 n1 n1 c1 cap1 _ xs xs w3 rfl M3.out P3.out (by omega) (by omega)).mono ?_
    rintro e w4 ⟨rfl, q, rfl⟩
    go_wp2_with fail
    go_ret
    exact ⟨rfl, below_drewN B3.out q⟩

set_option maxRecDepth 100000 in
theorem lifted (os : Os) (started : os.Started) (H : Type) (enc : TypeId × Value → H) :
    ReturnsInHanded {} Try.checked os 3 .any (Rows.crcSumSpec.pre6 enc Try.prog Try.f3 Rows.crcSumRow.domain false) (Rows.crcSumSpec.post enc Try.prog Try.f3 false true false false) := by
  refine returnsInHanded_of_change (C := Try.checked) own started (by kernel_rfl) Try.func3
    (ChangeSpec.witness6 (enc := enc) (C := Try.checked) false ⟨#[], #[.int .u32 0, .slice none 0 0], []⟩ 8 (by kernel_rfl) (by kernel_rfl) (by kernel_rfl) (by kernel_rfl)) ?_
  intro W base args ds gs before hval0 hW hcnd _
  have hval : ∀ (j : Nat) t v, Try.f3.params[j]? = some t → args[j]? = some v → Value.okWide Try.prog W .any base t v := hval0
  have hW' := hW
  obtain ⟨p, q, hA0, hV, rfl, hfz, hnd⟩ := hW
  have hA : DataW.TrodAll enc Try.prog W 0 (fun _ => true) true Try.f3.params.toList args.toList ds p := hA0
  rw [Try.params3] at hA hval
  obtain ⟨v0, vs0, d0, ds0, p0, q0, hargs, rfl, rfl, h0, r0⟩ := trodAll_cons hA
  obtain ⟨v1, vs1, d1, ds1, p1, q1, rfl, rfl, rfl, h1, r1⟩ := trodAll_cons r0
  obtain ⟨rfl, rfl, rfl⟩ := trodAll_nil r1
  obtain rfl : args = #[v0, v1] := by cases args; simp_all
  obtain ⟨rfl, rfl⟩ := trodVars_none hV
  obtain ⟨a0, rfl, rfl, rfl, w0⟩ := open_int Try.underlying22 (hval 0 22 v0 rfl rfl) h0
  obtain ⟨a1, len1, cap1, rfl⟩ := okWide_slice Try.underlying23 (hval 1 23 v1 rfl rfl)
  have k1 := h1
  have lt1 : ∀ x ∈ p1, x.block < W.heap.size := by obtain ⟨m, hm⟩ := k1; exact DataW.trod_lt m _ _ _ hm
  obtain ⟨z1, w1⟩ : ∃ zs, IsRow .u8 W a1 len1 cap1 zs := by
    obtain ⟨fuel, hf⟩ := h1
    rcases open_ints Try.underlying23 Try.underlying5 (by kernel_rfl) hf with ⟨hcs, _⟩ | ⟨x, l, c, zs, hcs, _, hl, hm, hz, _, hcell, hwz⟩
    · simp [Value.cells] at hcs
      obtain ⟨rfl, rfl, rfl⟩ := hcs
      exact ⟨[], .inl ⟨rfl, rfl, rfl, rfl⟩⟩
    · simp [Value.cells] at hcs
      obtain ⟨rfl, rfl, rfl⟩ := hcs
      exact ⟨zs, .inr ⟨_, rfl, hl, hm, by simpa using hz, hcell, hwz⟩⟩
  clear hA0 hval0
  refine (walk a0 a1 len1 cap1 z1 W w0 w1).mono fun e W' ⟨he, bel⟩ => ?_
  subst he
  exact ⟨_, rfl, _, _, _, [], _, [], hW', trodAll_mk1 (shut_bool Try.underlying4 _), (trodAll_cons_mk (shut_int Try.underlying22 w0) (trodAll_cons_mk (Below.trod laidOut (by kernel_rfl) (of_decide_eq_true (by kernel_rfl)) k1 bel lt1) trodAll_mk0)), rfl, bel.frame _, fun h => by cases h⟩

theorem over : Rows.crcSumRow.holds Try.pinned (OpenSpec.ofChange Rows.crcSumSpec) :=
  OpenClaim.holds_of_wide 3 Try.f3 rfl rfl rfl rfl rfl rfl rfl ⟨rfl, rfl, rfl, rfl, rfl⟩ rfl rfl rfl rfl rfl (by kernel_rfl) Try.func3 (by kernel_rfl)
    (of_decide_eq_true (by kernel_rfl)) (by unfold Func.isWrapper; first | (rw [if_pos (by decide +kernel)]; kernel_rfl) | (rw [if_neg (by decide +kernel)]; exact ⟨rfl, rfl⟩))
    (fun os started H enc _ => lifted os started H enc)


theorem proved : Rows.CrcSumSaid := over
end Go.Proofs.Ytfhjkhikgceddaa.crcSum
