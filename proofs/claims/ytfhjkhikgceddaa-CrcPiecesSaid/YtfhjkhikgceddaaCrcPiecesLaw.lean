/- For any row of at most 2000 bytes and any place at which it is cut the law CrcPieces of citadellaw02 returns true: the sum of bytes in pieces is Add, piece by piece, and byte by byte. Conditions: none beyond those that the statement itself prints. -/
import Derived.Test.YtfhjkhikgceddaaRows
import Derived.Test.YtfhjkhikgceddaaCrcAwake
import Derived.Test.YtfhjkhikgceddaaSlice
import Derived.WalkKit
import Derived.ProofKit
import Derived.OpenShut
import Derived.ShutString
import Derived.ChangeOld
import Derived.Below
namespace Go.Proofs.Ytfhjkhikgceddaa.crcPieces
open Go.ChangeShapes Go.WideShapes Go.ChangeAt Go.RowKit
open Go.ChangeMaps (open_string shut_string)
set_option linter.unusedVariables false

theorem own : ownKnob Try.prog.godebug = none := by kernel_rfl
theorem laidOut : laidOutB Try.prog = true := by kernel_rfl

def PieceRel (n : Nat) (w : World) (bs : List UInt8) (x i : Value) (wr : World) : Prop :=
  ∃ k : Nat, k ≤ n ∧ i = .int .i64 (k : Int) ∧ x = .int .u32 ((crcSum (bs.take k) : Nat) : Int) ∧ Below w.heap.size w wr
theorem piece (bs : List UInt8) (k : Nat) : crcAdd (crcSum (bs.take k)) ((bs.take (k + 1)).drop k) = crcSum (bs.take (k + 1)) := by
  have e : bs.take (k + 1) = bs.take k ++ (bs.take (k + 1)).drop k := by
    have h := (List.take_append_drop k (bs.take (k + 1))).symm
    rwa [List.take_take, Nat.min_eq_left (by omega)] at h
  unfold crcSum
  rw [← crcAdd_append, ← e]
theorem whole (bs : List UInt8) (k : Nat) : crcAdd (crcSum (bs.take k)) (bs.drop k) = crcSum bs := by
  unfold crcSum
  rw [← crcAdd_append, List.take_append_drop]
set_option maxRecDepth 100000 in
set_option maxHeartbeats 2000000 in
theorem walk (a0 : Option Addr) (len0 cap0 : Nat) (z0 : List Int) (a1 : Int) (w : World) (w0 : IsRow .u8 w a0 len0 cap0 z0) (w1 : (Lit.int .i64 a1).wf = true) :
    Calls Try.prog 5 #[.slice a0 len0 cap0, .int .i64 a1] w fun e w' => e = .returned (.bool true) ∧ Below w.heap.size w w' := by
  obtain ⟨r0, hcap0, hcap0'⟩ := w0.rd
  obtain ⟨hn1, hn2⟩ := wf_i64 w1
  generalize bytesIn (z0.take len0) = xs at r0
  clear w0 w1
  have R := Lib.hid r0
  clear r0
  by_cases hout : 2000 < len0 ∨ a1 < 0 ∨ (len0 : Int) < a1
  · go_enter Try.func5, Try.ntmps5
    go_wp2_with fail
    refine (awake w).mono ?_
    rintro e w1 ⟨rfl, hb⟩
    have B := Lib.hid hb
    clear hb
    by_cases h1 : 2000 < len0
    · go_wp2_with fail
      go_ret
      exact ⟨rfl, B.out⟩
    by_cases h2 : a1 < 0
    · go_wp2_with fail
      go_ret
      exact ⟨rfl, B.out⟩
    have h3 : (len0 : Int) < a1 := by omega
    go_wp2_with fail
    go_ret
    exact ⟨rfl, B.out⟩
  obtain ⟨m, rfl⟩ := Int.eq_ofNat_of_zero_le (show 0 ≤ a1 by omega)
  have hl : len0 ≤ 2000 := by omega
  have hm : m ≤ len0 := by omega
  have hmI : (m : Int) ≤ (len0 : Int) := by omega
  clear hout hn1 hn2
  have s0 := slice_h isU8 a0 hm hcap0 .i64
  obtain ⟨A9, c9, s1, hr9, hc9, hc9'⟩ := slice_l isU8 a0 hm hcap0
  replace s1 := s1 .i64
  have HR9 := Lib.hid hr9
  have S0 := Lib.hid s0
  have S1 := Lib.hid s1
  clear hr9 s0 s1
  have hdm : decide (len0 < m) = false := decide_eq_false (by omega)
  go_enter Try.func5, Try.ntmps5
  go_wp2_with fail
  refine (awake w).mono ?_
  rintro e w1 ⟨rfl, hb⟩
  have BW := Lib.hid hb
  replace R := Lib.hid (R.out.to hb)
  clear hb
  go_wp2_with fail
  go_loopw [5, 6] (fun x i wr => PieceRel len0 w1 xs x i wr) (fun _ i _ => len0 - (intOf i).toNat)
  case atStart => exact ⟨0, Nat.zero_le _, rfl, by rw [List.take_zero, ex_nil]; rfl, Below.refl _ _⟩
  case round =>
    obtain ⟨k, hk, rfl, rfl, hb⟩ := hrel
    have R' := Lib.hid (R.out.to hb)
    have B := Lib.hid hb
    clear hb
    by_cases hlt : k < len0
    · obtain ⟨A8, c8, s8, hr8, hc8, hc8'⟩ := slice_lh isU8 a0 (l := k) (h := k + 1) (by omega) (by omega) hcap0
      replace s8 := s8 .i64 .i64
      rw [show k + 1 - k = 1 from by omega] at s8 hr8
      have e1 : ((k + 1 : Nat) : Int) = (k : Int) + 1 := by omega
      rw [e1] at s8
      clear e1
      have R8 := Lib.hid (hr8 _ _ _ R'.out)
      have HP := Lib.hid (piece xs k)
      have p1 := crcSum_lt (xs.take k)
      clear hr8
      go_wp2_with fail
      refine (wAdd A8 1 c8 (crcSum (xs.take k)) _ wr R8.out (by decide) p1).mono ?_
      rintro e w2 ⟨rfl, hb⟩
      rw [HP.out]
      replace B := Lib.hid (B.out.trans (hb.mono B.out.size))
      clear hb
      clear R8 R' HP p1 s8
      generalize hu : crcSum (xs.take (k + 1)) = u at *
      have HU := Lib.hid hu
      clear hu
      go_wp2_with fail
      go_roundw
      case rel => exact ⟨k + 1, by omega, by go_num, by rw [HU.out], B.out⟩
      case measure => simp [intOf]; omega
    · obtain rfl : k = len0 := by omega
      have e0 : xs.take k = xs := List.take_of_length_le (by rw [R.out.1]; exact Nat.le_refl _)
      rw [e0]
      clear e0
      have s0 := S0.out
      have s1 := S1.out
      have HW := Lib.hid (whole xs m)
      have R9 := Lib.hid (HR9.out _ _ _ R'.out)
      have RF := Lib.hid (R'.out.front (k := m) hm)
      have p1 := Lib.hid (crcSum_lt (xs.take m))
      have Q0 := Lib.hid (fun w h => wSum a0 m cap0 (xs.take m) w h (by omega))
      have Q1 := Lib.hid (fun w h => wAdd A9 (k - m) c9 (crcSum (xs.take m)) (xs.drop m) w h (by omega) p1.out)
      have Q2 := Lib.hid (fun w h => wSum a0 k cap0 xs w h (by omega))
      rw [HW.out] at Q1
      replace RF := Lib.hid RF.out.drew'
      replace R9 := Lib.hid R9.out.drew'
      replace R' := Lib.hid R'.out.drew'
      replace B := Lib.hid B.out.drew
      clear HW p1 HR9 R S0 S1
      generalize crcSum (xs.take m) = u1 at *
      generalize crcSum xs = u2 at *
      go_wp2_with fail
      go_region_held (fun _ => True) (trivial) (first
        | (go_at_call_of 10 m; refine (Q0.out _ RF.out).mono ?_; rintro e w4 ⟨rfl, hb⟩; replace R9 := Lib.hid (R9.out.to hb); replace R' := Lib.hid (R'.out.to hb); replace B := Lib.hid (B.out.trans (hb.mono B.out.size)); clear hb)
        | (go_at_call 12; refine (Q1.out _ R9.out).mono ?_; rintro e w5 ⟨rfl, hb⟩; replace R' := Lib.hid (R'.out.to hb); replace B := Lib.hid (B.out.trans (hb.mono B.out.size)); clear hb)
        | (go_at_call 10; refine (Q2.out _ R'.out).mono ?_; rintro e w6 ⟨rfl, hb⟩; replace R' := Lib.hid (R'.out.to hb); replace B := Lib.hid (B.out.trans (hb.mono B.out.size)); clear hb))
      all_goals go_wp2
      all_goals go_ret
      all_goals exact ⟨rfl, BW.out.trans (B.out.mono BW.out.size)⟩

set_option maxRecDepth 100000 in
theorem lifted (os : Os) (started : os.Started) (H : Type) (enc : TypeId × Value → H) :
    ReturnsInHanded {} Try.checked os 5 .any (Rows.crcPiecesSpec.pre6 enc Try.prog Try.f5 Rows.crcPiecesRow.domain false) (Rows.crcPiecesSpec.post enc Try.prog Try.f5 false true false false) := by
  refine returnsInHanded_of_change (C := Try.checked) own started (by kernel_rfl) Try.func5
    (ChangeSpec.witness6 (enc := enc) (C := Try.checked) false ⟨#[], #[.slice none 0 0, .int .i64 0], []⟩ 8 (by kernel_rfl) (by kernel_rfl) (by kernel_rfl) (by kernel_rfl)) ?_
  intro W base args ds gs before hval0 hW hcnd _
  have hval : ∀ (j : Nat) t v, Try.f5.params[j]? = some t → args[j]? = some v → Value.okWide Try.prog W .any base t v := hval0
  have hW' := hW
  obtain ⟨p, q, hA0, hV, rfl, hfz, hnd⟩ := hW
  have hA : DataW.TrodAll enc Try.prog W 0 (fun _ => true) true Try.f5.params.toList args.toList ds p := hA0
  rw [Try.params5] at hA hval
  obtain ⟨v0, vs0, d0, ds0, p0, q0, hargs, rfl, rfl, h0, r0⟩ := trodAll_cons hA
  obtain ⟨v1, vs1, d1, ds1, p1, q1, rfl, rfl, rfl, h1, r1⟩ := trodAll_cons r0
  obtain ⟨rfl, rfl, rfl⟩ := trodAll_nil r1
  obtain rfl : args = #[v0, v1] := by cases args; simp_all
  obtain ⟨rfl, rfl⟩ := trodVars_none hV
  obtain ⟨a0, len0, cap0, rfl⟩ := okWide_slice Try.underlying23 (hval 0 23 v0 rfl rfl)
  have k0 := h0
  have lt0 : ∀ x ∈ p0, x.block < W.heap.size := by obtain ⟨m, hm⟩ := k0; exact DataW.trod_lt m _ _ _ hm
  obtain ⟨z0, w0⟩ : ∃ zs, IsRow .u8 W a0 len0 cap0 zs := by
    obtain ⟨fuel, hf⟩ := h0
    rcases open_ints Try.underlying23 Try.underlying5 (by kernel_rfl) hf with ⟨hcs, _⟩ | ⟨x, l, c, zs, hcs, _, hl, hm, hz, _, hcell, hwz⟩
    · simp [Value.cells] at hcs
      obtain ⟨rfl, rfl, rfl⟩ := hcs
      exact ⟨[], .inl ⟨rfl, rfl, rfl, rfl⟩⟩
    · simp [Value.cells] at hcs
      obtain ⟨rfl, rfl, rfl⟩ := hcs
      exact ⟨zs, .inr ⟨_, rfl, hl, hm, by simpa using hz, hcell, hwz⟩⟩
  obtain ⟨a1, rfl, rfl, rfl, w1⟩ := open_int Try.underlying3 (hval 1 3 v1 rfl rfl) h1
  clear hA0 hval0
  refine (walk a0 len0 cap0 z0 a1 W w0 w1).mono fun e W' ⟨he, bel⟩ => ?_
  subst he
  exact ⟨_, rfl, _, _, _, [], _, [], hW', trodAll_mk1 (shut_bool Try.underlying4 _), (trodAll_cons_mk (Below.trod laidOut (by kernel_rfl) (of_decide_eq_true (by kernel_rfl)) k0 bel lt0) (trodAll_cons_mk (shut_int Try.underlying3 w1) trodAll_mk0)), rfl, bel.frame _, fun h => by cases h⟩

theorem over : Rows.crcPiecesRow.holds Try.pinned (OpenSpec.ofChange Rows.crcPiecesSpec) :=
  OpenClaim.holds_of_wide 5 Try.f5 rfl rfl rfl rfl rfl rfl rfl ⟨rfl, rfl, rfl, rfl, rfl⟩ rfl rfl rfl rfl rfl (by kernel_rfl) Try.func5 (by kernel_rfl)
    (of_decide_eq_true (by kernel_rfl)) (by unfold Func.isWrapper; first | (rw [if_pos (by decide +kernel)]; kernel_rfl) | (rw [if_neg (by decide +kernel)]; exact ⟨rfl, rfl⟩))
    (fun os started H enc _ => lifted os started H enc)


theorem proved : Rows.CrcPiecesSaid := over
end Go.Proofs.Ytfhjkhikgceddaa.crcPieces
