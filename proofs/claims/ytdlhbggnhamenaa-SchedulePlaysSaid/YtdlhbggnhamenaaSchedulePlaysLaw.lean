/- For any windows and any tick the law SchedulePlays of citadellaw09 returns true: whether windows may be, their frame, where the tick stands, is as the document says, and they stay as they were (windows, at most 40). Conditions: none beyond those that the statement itself prints. -/
import Derived.Test.YtdlhbggnhamenaaRows
import Derived.Test.YtdlhbggnhamenaaSchE
import Derived.Test.YtdlhbggnhamenaaSchD
import Derived.Test.YtdlhbggnhamenaaWin
import Derived.WalkKit
import Derived.ProofKit
import Derived.OpenShut
import Derived.ShutString
import Derived.ChangeOld
import Derived.Below
namespace Go.Proofs.Ytdlhbggnhamenaa.schedulePlays
open Go.ChangeShapes Go.WideShapes Go.ChangeAt Go.RowKit
open Go.ChangeMaps (open_string shut_string)
set_option linter.unusedVariables false
set_option linter.unusedSimpArgs false

theorem own : ownKnob Try.prog.godebug = none := by kernel_rfl
theorem laidOut : laidOutB Try.prog = true := by kernel_rfl


set_option maxRecDepth 1000000 in
set_option maxHeartbeats 4000000 in
theorem walk (a0 : Option Addr) (len0 cap0 : Nat) (l0 : List Reg) (a1 : Int) (w : World) (w0 : RdG w w.heap.size a0 len0 l0 ∧ len0 ≤ cap0 ∧ cap0 ≤ 9223372036854775807) (w1 : (Lit.int .i64 a1).wf = true) :
    Calls Try.prog 3 #[.slice a0 len0 cap0, .int .i64 a1] w fun e w' => e = .returned (.bool true) ∧ Below w.heap.size w w' := by
  obtain ⟨r0, hcap, hcap'⟩ := w0
  have R := Lib.hid r0
  have HC : Hid (len0 ≤ 9223372036854775807) := Nat.le_trans hcap hcap'
  clear r0 hcap hcap' w1
  by_cases h40 : 40 < len0
  · have h40I : (len0 : Int) > 40 := by omega
    clear h40
    go_enter Try.func3, Try.ntmps3
    go_wp2_with fail
    go_ret
    exact ⟨rfl, Below.refl _ _⟩
  have h40I : ¬ (len0 : Int) > 40 := by omega
  have HN : Hid (len0 ≤ 40) := by (show _ ≤ _); omega
  clear h40
  have R2 := Lib.hid (R.out.to ((Below.refl _ _).alloc (Nat.le_refl _) (.cells #[] 35)))
  have FR : Hid ((w.alloc (.cells #[] 35)).heap[w.heap.size]? = some (.cells #[] 35 (0, 0))) := by (show (w.heap.push _)[w.heap.size]? = _); simp
  have BF := Lib.hid ((Below.refl w.heap.size w).alloc (Nat.le_refl _) (.cells #[] 35))
  go_enter Try.func3, Try.ntmps3
  go_wp2_with (first
    | (at_builtin; refine wpList_pushP winsP rfl _ _ rfl (v := .slice (some ⟨w.heap.size, 0, none⟩) 0 0) rfl rfl (own_fresh FR.out (Nat.le_refl _)) R2.out BF.out BF.out.size (by have := HN.out; omega) ?_; intro v2 w1 hown1 hb1 hs1; rw [Nat.zero_add, List.nil_append] at hown1; obtain ⟨A2, c2, rfl⟩ := own_slice2 hown1)
    | fail)
  have B := Lib.hid hb1
  have M := Lib.hid (RdG.of_own hown1)
  clear hown1 hb1 hs1 R2 FR BF
  rcases hat : atW l0 a1 with ⟨⟨s0, s1, s2, s3⟩, s4⟩
  have HAT := Lib.hid hat
  clear hat
  refine (Sch.stand A2 len0 c2 l0 a1 w1 M.out HC.out).mono ?_
  rw [HAT.out]
  rintro e w2 ⟨rfl, hb⟩
  replace M := Lib.hid (M.out.to hb)
  replace B := Lib.hid (B.out.trans (hb.mono B.out.size))
  clear hb
  unfold slotV
  dsimp only
  have hb := (Below.refl w2.heap.size w2).alloc (Nat.le_refl _) (.cells #[.int .i64 s0, .int .i64 s1, .int .i64 s2, .int .i64 s3] 24)
  replace M := Lib.hid (M.out.to hb)
  replace B := Lib.hid (B.out.trans (hb.mono B.out.size))
  clear hb
  have X : Hid (Blk 24 (w2.alloc (.cells #[.int .i64 s0, .int .i64 s1, .int .i64 s2, .int .i64 s3] 24)) w2.heap.size [s0, s1, s2, s3]) := Blk.new 24 w2 [s0, s1, s2, s3]
  go_wp2_with fail
  refine (SchD.stand a0 len0 cap0 l0 a1 _ ((R.out.below B.out).more B.out.size) HC.out).mono ?_
  generalize w2.alloc (.cells #[.int .i64 s0, .int .i64 s1, .int .i64 s2, .int .i64 s3] 24) = w3 at *
  generalize w2.heap.size = g at *
  rw [HAT.out]
  rintro e w4 ⟨rfl, hb⟩
  replace M := Lib.hid (M.out.to hb)
  replace X := Lib.hid (X.out.to hb)
  replace B := Lib.hid (B.out.trans (hb.mono B.out.size))
  clear hb
  dsimp only
  go_wp2_with fail
  refine (Sch.may A2 len0 c2 l0 w4 M.out HC.out).mono ?_
  rintro e w5 ⟨rfl, hb⟩
  replace M := Lib.hid (M.out.to hb)
  replace X := Lib.hid (X.out.to hb)
  replace B := Lib.hid (B.out.trans (hb.mono B.out.size))
  clear hb
  go_wp2_with fail
  refine (SchD.may a0 len0 cap0 l0 w5 ((R.out.below B.out).more B.out.size) HC.out).mono ?_
  rintro e w6 ⟨rfl, hb⟩
  replace M := Lib.hid (M.out.to hb)
  replace X := Lib.hid (X.out.to hb)
  replace B := Lib.hid (B.out.trans (hb.mono B.out.size))
  clear hb
  go_wp2_with fail
  refine (Sch.frame A2 len0 c2 l0 w6 M.out HC.out).mono ?_
  rintro e w7 ⟨rfl, hb⟩
  replace M := Lib.hid (M.out.to hb)
  replace X := Lib.hid (X.out.to hb)
  replace B := Lib.hid (B.out.trans (hb.mono B.out.size))
  clear hb
  have HF := Lib.hid (wholeW_len l0)
  go_wp2_with fail
  refine (SchD.whole a0 len0 cap0 l0 w7 ((R.out.below B.out).more B.out.size) HC.out).mono ?_
  rintro e w8 ⟨A3, n3, c3, rfl, hown, hb⟩
  replace M := Lib.hid (M.out.to hb)
  replace X := Lib.hid (X.out.to hb)
  replace B := Lib.hid (B.out.trans (hb.mono B.out.size))
  clear hb
  have hn3 : frameW l0 = (n3 : Int) := by rw [← HF.out, show (wholeW l0).length = n3 by have := hown.1; simpa using this]
  rw [hn3]
  clear hown hn3 HF
  go_wp2_with fail
  go_loopw [13] (fun i wr => ∃ (k q : Nat), k ≤ len0 ∧ i = .int .i64 (k : Int) ∧ wr = w8.drewN q) (fun i _ => len0 - (intOf i).toNat)
  case atStart => exact ⟨0, 0, Nat.zero_le _, rfl, rfl⟩
  case round =>
    obtain ⟨k, q, hk, rfl, rfl⟩ := hrel
    by_cases hlt : k < len0
    · have HLT : Hid (k < len0) := hlt
      obtain ⟨b1, o1, rfl, _, hc1⟩ := M.out.2 (by omega)
      obtain ⟨b2, o2, rfl, _, hc2⟩ := ((R.out.below B.out).more B.out.size).2 (by omega)
      have x1 : w8.cell? ⟨b1, o1 + k * 2, none⟩ = some (.int .i64 (rat l0 k).1) := (hc1 k hlt).1
      have x2 : w8.cell? ⟨b1, o1 + k * 2 + 1, none⟩ = some (.int .i64 (rat l0 k).2) := (hc1 k hlt).2
      have y1 : w8.cell? ⟨b2, o2 + k * 2, none⟩ = some (.int .i64 (rat l0 k).1) := (hc2 k hlt).1
      have y2 : w8.cell? ⟨b2, o2 + k * 2 + 1, none⟩ = some (.int .i64 (rat l0 k).2) := (hc2 k hlt).2
      have hkI : (k : Int) < (len0 : Int) := by omega
      have hwk : IntKind.i64.wrap ((k : Int) + 1) = (k : Int) + 1 := by have := HN.out; rw [IntKind.wrap_i64]; omega
      have hgd := win_guard
      have heq := win_eq
      clear hc1 hc2 hlt hk
      generalize (rat l0 k).1 = z1 at *
      generalize (rat l0 k).2 = z2 at *
      go_wp2_with fail
      go_quiet (fail)
      go_wp2_with fail
      go_roundw
      case rel => exact ⟨k + 1, _, HLT.out, by go_num, rfl⟩
      case measure => have := HLT.out; simp [intOf]; omega
    · obtain rfl : k = len0 := by omega
      have hkI : ¬ (k : Int) < (k : Int) := by omega
      have hgd := slot_guard
      have heq := slot_eq
      replace X : Hid (Blk 24 (w8.drewN q) g [s0, s1, s2, s3]) := X.out.drewN q
      replace B := Lib.hid (below_drewN B.out q)
      generalize w8.drewN q = w9 at *
      have c0 := X.out.at 0 rfl
      have c1 := X.out.at 1 rfl
      have c2 := X.out.at 2 rfl
      have c3 := X.out.at 3 rfl
      clear hk hlt
      go_wp2_with fail
      refine (awake _).mono ?_
      rintro e w10 ⟨rfl, hb⟩
      go_wp2_with fail
      go_ret
      exact ⟨rfl, B.out.trans (hb.mono B.out.size)⟩

set_option maxRecDepth 100000 in
theorem lifted (os : Os) (started : os.Started) (H : Type) (enc : TypeId × Value → H) :
    ReturnsInHanded {} Try.checked os 3 .any (Rows.schedulePlaysSpec.pre6 enc Try.prog Try.f3 Rows.schedulePlaysRow.domain false) (Rows.schedulePlaysSpec.post enc Try.prog Try.f3 false true false false) := by
  refine returnsInHanded_of_change (C := Try.checked) own started (by kernel_rfl) Try.func3
    (ChangeSpec.witness6 (enc := enc) (C := Try.checked) false ⟨#[], #[.slice none 0 0, .int .i64 0], []⟩ 8 (by kernel_rfl) (by kernel_rfl) (by kernel_rfl) (by kernel_rfl)) ?_
  intro W base args ds gs before hval0 hW hcnd _
  have hval : ∀ (j : Nat) t v, Try.f3.params[j]? = some t → args[j]? = some v → Value.okWide Try.prog W .any base t v := hval0
  have hW' := hW
  obtain ⟨p, q, hA0, hV, rfl, hfz, hnd⟩ := hW
  have hA : DataW.TrodAll enc Try.prog W 0 (fun _ => true) true Try.f3.params.toList args.toList ds p := hA0
  rw [Try.params3] at hA hval
  obtain ⟨v0, vs0, d0, ds0, p0, q0, hargs, rfl, rfl, h0, r0⟩ := trodAll_cons hA
  obtain ⟨v1, vs1, d1, ds1, p1, q1, rfl, rfl, rfl, h1, r1⟩ := trodAll_cons r0
  obtain ⟨rfl, rfl, rfl⟩ := trodAll_nil r1
  obtain rfl : args = #[v0, v1] := by cases args; simp_all
  obtain ⟨rfl, rfl⟩ := trodVars_none hV
  have k0 := h0
  have lt0 : ∀ x ∈ p0, x.block < W.heap.size := by obtain ⟨m, hm⟩ := k0; exact DataW.trod_lt m _ _ _ hm
  obtain ⟨a0, len0, cap0, l0, rfl, w0⟩ := open_wins (hval 0 22 v0 rfl rfl) h0
  obtain ⟨a1, rfl, rfl, rfl, w1⟩ := open_int Try.underlying3 (hval 1 3 v1 rfl rfl) h1
  clear hA0 hval0
  refine (walk a0 len0 cap0 l0 a1 W w0 w1).mono fun e W' ⟨he, bel⟩ => ?_
  subst he
  exact ⟨_, rfl, _, _, _, [], _, [], hW', trodAll_mk1 (shut_bool Try.underlying4 _), (trodAll_cons_mk (Below.trod laidOut (by kernel_rfl) (of_decide_eq_true (by kernel_rfl)) k0 bel lt0) (trodAll_cons_mk (shut_int Try.underlying3 w1) trodAll_mk0)), rfl, bel.frame _, fun h => by cases h⟩

theorem over : Rows.schedulePlaysRow.holds Try.pinned (OpenSpec.ofChange Rows.schedulePlaysSpec) :=
  OpenClaim.holds_of_wide 3 Try.f3 rfl rfl rfl rfl rfl rfl rfl ⟨rfl, rfl, rfl, rfl, rfl⟩ rfl rfl rfl rfl rfl (by kernel_rfl) Try.func3 (by kernel_rfl)
    (of_decide_eq_true (by kernel_rfl)) (by unfold Func.isWrapper; first | (rw [if_pos (by decide +kernel)]; kernel_rfl) | (rw [if_neg (by decide +kernel)]; exact ⟨rfl, rfl⟩))
    (fun os started H enc _ => lifted os started H enc)

theorem proved : Rows.SchedulePlaysSaid := over
end Go.Proofs.Ytdlhbggnhamenaa.schedulePlays
