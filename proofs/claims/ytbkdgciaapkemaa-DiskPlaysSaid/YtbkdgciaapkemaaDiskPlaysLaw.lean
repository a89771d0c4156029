/- For any number, any acts the law DiskPlays of citadellaw06 returns true: whatever is done to a disk of the program, and to the document's, both answer and tell the same. Conditions: none beyond those that the statement itself prints. -/
import Derived.Test.YtbkdgciaapkemaaRows
import Derived.Test.YtbkdgciaapkemaaDiskPb
import Derived.Test.YtbkdgciaapkemaaDiskLf
import Derived.Test.YtbkdgciaapkemaaDiskW
import Derived.SizedLaws
import Derived.WalkKit
import Derived.ProofKit
import Derived.OpenShut
import Derived.ShutString
import Derived.ChangeOld
import Derived.Below
namespace Go.Proofs.Ytbkdgciaapkemaa.diskPlays
open Go.ChangeShapes Go.WideShapes Go.ChangeAt Go.RowKit
open Go.ChangeMaps (open_string shut_string)
set_option linter.unusedVariables false
set_option linter.unusedSimpArgs false

theorem own : ownKnob Try.prog.godebug = none := by kernel_rfl
theorem laidOut : laidOutB Try.prog = true := by kernel_rfl

/-- Behind some acts: both disks in one state, in memory of the call's own. -/
def PlayRel (w : World) (d r n : Nat) (i : Value) (wr : World) : Prop :=
  ∃ (k : Nat) (F G : Nat → Prop) (s : DS), k ≤ n ∧ i = .int .i64 (k : Int) ∧ Pair wr d F r G s ∧ (∀ j, F j ∨ G j → w.heap.size ≤ j) ∧ Below w.heap.size w wr
set_option maxRecDepth 1000000 in
set_option maxHeartbeats 4000000 in
theorem walk (a0 : Int) (a1 : Option Addr) (len1 cap1 : Nat) (l1 : List DAct) (w : World) (w0 : (Lit.int .i64 a0).wf = true) (w1 : RdA w w.heap.size a1 len1 l1 ∧ len1 ≤ cap1 ∧ cap1 * 40 ≤ 140737488351232) :
    Calls Try.prog 3 #[.int .i64 a0, .slice a1 len1 cap1] w fun e w' => e = .returned (.bool true) ∧ Below w.heap.size w w' := by
  obtain ⟨r1, hcap1, hcap1'⟩ := w1
  have R := Lib.hid r1
  have HL1 := Lib.hid r1.1
  have HLEN1 : Hid (len1 ≤ 140737488351232) := by show _ ≤ _; omega
  have HCAP : Hid (len1 ≤ cap1) := hcap1
  clear w0 r1 hcap1 hcap1'
  go_enter Try.func3, Try.ntmps3
  by_cases h1 : a0 > 12
  · by_cases h2 : a0 ≤ 1024
    · go_wp2_with fail
      go_ret
      exact ⟨rfl, Below.refl _ _⟩
    · go_wp2_with fail
      refine (lGreat a1 len1 cap1 l1 w R.out HLEN1.out).mono ?_
      rintro e w1 ⟨g, rfl, rfl, -⟩
      cases g with
      | true =>
        go_wp2_with fail
        go_ret
        exact ⟨rfl, Below.refl _ _⟩
      | false =>
        go_wp2_with fail
        refine (dNewBad a0 w (.inr (by omega))).mono ?_
        rintro e w1 ⟨rfl, rfl⟩
        have h3 : ¬ a0 < 1 := by omega
        have h4 : a0 > 1024 := by omega
        go_wp2_with fail
        go_ret
        exact ⟨rfl, Below.refl _ _⟩
  go_wp2_with fail
  refine (lGreat a1 len1 cap1 l1 w R.out HLEN1.out).mono ?_
  rintro e w1 ⟨g, rfl, rfl, hfew⟩
  cases g with
  | true =>
    go_wp2_with fail
    go_ret
    exact ⟨rfl, Below.refl _ _⟩
  | false =>
    have FEW := Lib.hid (hfew rfl)
    clear hfew
    by_cases h3 : a0 < 1
    · go_wp2_with fail
      refine (dNewBad a0 w (.inl h3)).mono ?_
      rintro e w1 ⟨rfl, rfl⟩
      go_wp2_with fail
      go_ret
      exact ⟨rfl, Below.refl _ _⟩
    obtain ⟨k0, rfl⟩ : ∃ k : Nat, a0 = (k : Int) := ⟨a0.toNat, by omega⟩
    have HK1 : Hid (1 ≤ k0) := by show _ ≤ _; omega
    have HK12 : Hid (k0 ≤ 12) := by show _ ≤ _; omega
    have h4 : ¬ (k0 : Int) > 1024 := by omega
    go_wp2_with fail
    refine (dNew k0 w HK1.out (by have := HK12.out; omega)).mono ?_
    rintro e w1 ⟨d, rfl, F, hd, hf, hb⟩
    have DK := Lib.hid hd
    have HF := Lib.hid hf
    have B1 := Lib.hid hb
    clear hd hf hb
    go_wp2_with fail
    refine (qNew k0 w1 HK1.out (by have := HK12.out; omega)).mono ?_
    rintro e w2 ⟨r, rfl, G, hd, hg, hb⟩
    have P : Hid (Pair w2 d F r G (DS.new k0)) := ⟨DK.out.to hb, hd, fun k hf hg' => by have := DK.out.lt k hf; have := hg k hg'; omega⟩
    have HN : Hid (∀ j, F j ∨ G j → w.heap.size ≤ j) := fun j hj => hj.elim (HF.out j) (fun h => Nat.le_trans B1.out.size (hg j h))
    have B2 := Lib.hid (B1.out.trans (hb.mono B1.out.size))
    clear hd hg hb DK HF B1 h1 h3 h4
    go_wp2_with fail
    go_loopw [8] (fun i wr => PlayRel w d r len1 i wr) (fun i _ => len1 - (intOf i).toNat)
    case atStart => exact ⟨0, F, G, _, Nat.zero_le _, rfl, P.out, HN.out, B2.out⟩
    case round =>
      clear P HN B2
      obtain ⟨k, F1, G1, s, hk, rfl, hp, hn, hb⟩ := hrel
      have P := Lib.hid hp
      have HN := Lib.hid hn
      have BR := Lib.hid hb
      have HK : Hid (k ≤ len1) := hk
      clear hp hn hb hk
      by_cases hlt : k < len1
      · have HLT : Hid (k < len1) := hlt
        obtain ⟨b, o, A', m', c', rfl, hrd, hact⟩ := act_at R.out hlt
        have ARG : Hid (Off A' m' (fun k => F1 k ∨ G1 k)) := hrd.off HN.out
        have HACT := Lib.hid hact
        have HM6 : Hid (m' ≤ 6000) := by show _ ≤ _; rw [← hrd.1]; exact FEW.out.2 k (by rw [HL1.out]; exact hlt)
        clear hrd
        have hkI : (k : Int) < (len1 : Int) := by omega
        have hk301 : (k : Int) < 301 := by have := FEW.out.1; rw [HL1.out] at this; omega
        generalize l1.getD k DAct.zero = act at *
        clear hact
        go_wp2_with fail
        refine (lTold d r F1 G1 s wr P.out).mono ?_
        rintro e w4 ⟨rfl, hb⟩
        have P4 := Lib.hid (P.out.to hb)
        have B4 := Lib.hid (BR.out.trans (hb.mono BR.out.size))
        obtain ⟨x0, x1, x2, ha⟩ := HACT.out w4 B4.out
        have HA := Lib.hid ha
        clear ha hb P BR
        go_wp2_with fail
        clear x0 x1 x2
        refine (lOne d r F1 G1 s act A' m' c' w4 P4.out HA.out ARG.out HM6.out).mono ?_
        rintro e w5 ⟨rfl, F5, G5, s5, hd⟩
        have DD := Lib.hid hd
        have B5 := Lib.hid (hd.keep.below B4.out B4.out.size HN.out)
        clear hd
        go_wp2_with fail
        go_roundw
        case rel => exact ⟨k + 1, F5, G5, s5, HLT.out, by go_num, DD.out.pair, fun j hj => hj.elim (fun h => (DD.out.newF j h).elim (fun h => HN.out j (.inl h)) (Nat.le_trans B4.out.size)) (fun h => (DD.out.newG j h).elim (fun h => HN.out j (.inr h)) (Nat.le_trans B4.out.size)), B5.out⟩
        case measure => have := HLT.out; simp [intOf]; omega
      · obtain rfl : k = len1 := by have := HK.out; omega
        go_wp2_with fail
        refine (lTold d r F1 G1 s wr P.out).mono ?_
        rintro e w4 ⟨rfl, hb⟩
        have BZ := Lib.hid (BR.out.trans (hb.mono BR.out.size))
        clear hb
        go_wp2_with fail
        go_ret
        exact ⟨rfl, BZ.out⟩

set_option maxRecDepth 100000 in
theorem lifted (os : Os) (started : os.Started) (H : Type) (enc : TypeId × Value → H) :
    ReturnsInHanded {} Try.checked os 3 .any (Rows.diskPlaysSpec.pre6 enc Try.prog Try.f3 Rows.diskPlaysRow.domain false) (Rows.diskPlaysSpec.post enc Try.prog Try.f3 false true false false) := by
  refine returnsInHanded_of_change_sized (C := Try.checked) own started (by kernel_rfl) Try.func3
    (ChangeSpec.witness6 (enc := enc) (C := Try.checked) false ⟨#[], #[.int .i64 0, .slice none 0 0], []⟩ 8 (by kernel_rfl) (by kernel_rfl) (by kernel_rfl) (by kernel_rfl)) ?_
  intro W base args ds gs before hval0 hW hcnd hsz0 _
  have hval : ∀ (j : Nat) t v, Try.f3.params[j]? = some t → args[j]? = some v → Value.okWide Try.prog W .any base t v := hval0
  have hsz : (DataW.weightsEach Try.prog (Try.f3.params.toList ++ Rows.diskPlaysSpec.plain.varTypes Try.prog) (ds ++ gs)).all (· ≤ reachBytes) = true := hsz0
  have hW' := hW
  obtain ⟨p, q, hA0, hV, rfl, hfz, hnd⟩ := hW
  have hA : DataW.TrodAll enc Try.prog W 0 (fun _ => true) true Try.f3.params.toList args.toList ds p := hA0
  rw [Try.params3] at hA hval hsz
  obtain ⟨v0, vs0, d0, ds0, p0, q0, hargs, rfl, rfl, h0, r0⟩ := trodAll_cons hA
  obtain ⟨v1, vs1, d1, ds1, p1, q1, rfl, rfl, rfl, h1, r1⟩ := trodAll_cons r0
  obtain ⟨rfl, rfl, rfl⟩ := trodAll_nil r1
  obtain rfl : args = #[v0, v1] := by cases args; simp_all
  obtain ⟨rfl, rfl⟩ := trodVars_none hV
  have sz1 : ∀ x ∈ d1.weights Try.prog 22, x ≤ reachBytes := fun x hx => by simpa using List.all_eq_true.1 hsz _ (DataW.weights_mem_each (j := 1) rfl rfl x hx)
  obtain ⟨a0, rfl, rfl, rfl, w0⟩ := open_int Try.underlying3 (hval 0 3 v0 rfl rfl) h0
  have k1 := h1
  have lt1 : ∀ x ∈ p1, x.block < W.heap.size := by obtain ⟨m, hm⟩ := k1; exact DataW.trod_lt m _ _ _ hm
  obtain ⟨a1, len1, cap1, l1, rfl, w1⟩ := open_acts (hval 1 22 v1 rfl rfl) h1 sz1
  clear hA0 hval0
  refine (walk a0 a1 len1 cap1 l1 W w0 w1).mono fun e W' ⟨he, bel⟩ => ?_
  subst he
  exact ⟨_, rfl, _, _, _, [], _, [], hW', trodAll_mk1 (shut_bool Try.underlying4 _), (trodAll_cons_mk (shut_int Try.underlying3 w0) (trodAll_cons_mk (Below.trod laidOut (by kernel_rfl) (of_decide_eq_true (by kernel_rfl)) k1 bel lt1) trodAll_mk0)), rfl, bel.frame _, fun h => by cases h⟩

theorem over : Rows.diskPlaysRow.holds Try.pinned (OpenSpec.ofChange Rows.diskPlaysSpec) :=
  OpenClaim.holds_of_wide 3 Try.f3 rfl rfl rfl rfl rfl rfl rfl ⟨rfl, rfl, rfl, rfl, rfl⟩ rfl rfl rfl rfl rfl (by kernel_rfl) Try.func3 (by kernel_rfl)
    (of_decide_eq_true (by kernel_rfl)) (by unfold Func.isWrapper; first | (rw [if_pos (by decide +kernel)]; kernel_rfl) | (rw [if_neg (by decide +kernel)]; exact ⟨rfl, rfl⟩))
    (fun os started H enc _ => lifted os started H enc)

theorem proved : Rows.DiskPlaysSaid := over
end Go.Proofs.Ytbkdgciaapkemaa.diskPlays
