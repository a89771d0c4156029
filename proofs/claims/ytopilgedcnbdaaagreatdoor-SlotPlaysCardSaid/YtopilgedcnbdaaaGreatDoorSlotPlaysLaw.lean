/- For any number of sectors, any acts the law SlotPlays of citadellaw15 returns true: whatever is done to the slots of a disk of the program, and of the document's, both answer the same, and have the same sectors. Conditions: none beyond those that the statement itself prints. -/
import Derived.Test.YtopilgedcnbdaaaGreatDoorTz
import Derived.Test.YtopilgedcnbdaaaGreatDoorRows
import Derived.Test.YtopilgedcnbdaaaGreatDoorTie
import Derived.Test.YtopilgedcnbdaaaGreatDoorCards
import Derived.Test.YtopilgedcnbdaaaGreatDoorShaLaid
import Derived.Test.YtopilgedcnbdaaaGreatDoorQ3
import Derived.Test.YtopilgedcnbdaaaGreatDoorQ1
import Derived.SizedLaws
import Derived.WalkKit
import Derived.ProofKit
import Derived.OpenShut
import Derived.ShutString
import Derived.ChangeOld
import Derived.Below
namespace Go.Proofs.YtopilgedcnbdaaaGreatDoor.slotPlays
set_option maxRecDepth 1000000
set_option maxHeartbeats 8000000
open Go.ChangeShapes Go.WideShapes Go.ChangeAt Go.RowKit
open Go.ChangeMaps (open_string shut_string)
set_option linter.unusedVariables false
set_option linter.unusedSimpArgs false
theorem own : ownKnob Tryz.prog.godebug = none := by kernel_rfl
theorem laidOut : laidOutB Tryz.prog = true := by kernel_rfl
def SPlayRel (w : World) (d r n : Nat) (i : Value) (wr : World) : Prop :=
 ∃ (k : Nat) (F G : Nat → Prop) (s : DS), k ≤ n ∧ i = .int .i64 (k : Int) ∧ Pair wr d F r G s ∧ 0 < s.L.length ∧ (∀ j, F j ∨ G j → w.heap.size ≤ j) ∧ Below w.heap.size w wr
theorem sact_at {w : World} {A : Option Addr} {n : Nat} {l : List SAct} (h : RdSA w w.heap.size A n l) {k : Nat} (hk : k < n) :
  ∃ b o A' m c, A = some ⟨b, o, none⟩ ∧ Rd w w.heap.size A' m (l.getD k SAct.zero).b ∧
   ∀ wr, Below w.heap.size w wr → wr.cell? ⟨b, o + k * 5, none⟩ = some (.int .i64 (l.getD k SAct.zero).kind) ∧ wr.cell? ⟨b, o + k * 5 + 1, none⟩ = some (.int .i64 (l.getD k SAct.zero).slot) ∧ wr.cell? ⟨b, o + k * 5 + 2, none⟩ = some (.int .i64 (l.getD k SAct.zero).n) ∧
    wr.cell? ⟨b, o + k * 5 + 3, none⟩ = some (.slice A' m c) ∧ wr.cell? ⟨b, o + k * 5 + 4, none⟩ = some (.bool (l.getD k SAct.zero).odd) ∧ SActOk wr wr.heap.size (l.getD k SAct.zero) A' m c := by
 obtain ⟨b, o, e, hb, hc⟩ := h.2 (by omega)
 obtain ⟨A', m, c, h1, h2⟩ := hc k hk
 exact ⟨b, o, A', m, c, e, h2.rd, fun wr hw => ⟨(hw.cell (by exact hb)).trans (h1 0 _ rfl), (hw.cell (by exact hb)).trans (h1 1 _ rfl), (hw.cell (by exact hb)).trans (h1 2 _ rfl), (hw.cell (by exact hb)).trans (h1 3 _ rfl), (hw.cell (by exact hb)).trans (h1 4 _ rfl), (h2.below hw).more hw.size⟩⟩
theorem walk (a0 : Int) (a1 : Option Addr) (len1 cap1 : Nat) (l1 : List SAct) (w : World) (hpr : Pr w) (w0 : (Lit.int .i64 a0).wf = true) (w1 : RdSA w w.heap.size a1 len1 l1 ∧ len1 ≤ cap1 ∧ cap1 * 56 ≤ 140737488351232) :
  Calls Tryz.prog 3 #[.int .i64 a0, .slice a1 len1 cap1] w fun e w' => e = .returned (.bool true) ∧ Below w.heap.size w w' := by
 obtain ⟨r1, hcap1, hcap1'⟩ := w1
 have R := qH r1
 have HL1 := qH r1.1
 have HLEN1 : Hid (len1 ≤ 140737488351232) := by show _ ≤ _; omega
 have HPW := qH hpr
 clear w0 r1 hcap1 hcap1' hpr
 go_enter Tryz.func3, Tryz.ntmps3
 by_cases h1 : a0 < 1
 ·go_wp2_with fail
  go_ret
  exact ⟨rfl, Below.refl _ _⟩
 by_cases h2 : a0 > 140
 ·go_wp2_with fail
  go_ret
  exact ⟨rfl, Below.refl _ _⟩
 go_wp2_with fail
 refine (sGreat a1 len1 cap1 l1 w R.out HLEN1.out).mono ?_
 rintro e w1 ⟨g, rfl, rfl, hfew⟩
 cases g with
 | true =>
  go_wp2_with fail
  go_ret
  exact ⟨rfl, Below.refl _ _⟩
 | false =>
  have FEW := qH (hfew rfl)
  clear hfew
  obtain ⟨k0, rfl⟩ : ∃ k : Nat, a0 = (k : Int) := ⟨a0.toNat, by omega⟩
  have HK1 : Hid (1 ≤ k0) := by show _ ≤ _; omega
  have HK12 : Hid (k0 ≤ 140) := by show _ ≤ _; omega
  go_wp2_with fail
  refine (dNew k0 w HK1.out (by have := HK12.out; omega)).mono ?_
  rintro e w1 ⟨d, rfl, F, hd, hf, hb⟩
  have DK := qH hd
  have HF := qH hf
  have B1 := qH hb
  clear hd hf hb
  go_wp2_with fail
  refine (qNew k0 w1 HK1.out (by have := HK12.out; omega)).mono ?_
  rintro e w2 ⟨r, rfl, G, hd, hg, hb⟩
  have P : Hid (Pair w2 d F r G (DS.new k0)) := ⟨DK.out.to hb, hd, fun k hf hg' => by have := DK.out.lt k hf; have := hg k hg'; omega⟩
  have HN : Hid (∀ j, F j ∨ G j → w.heap.size ≤ j) := fun j hj => hj.elim (HF.out j) (fun h => Nat.le_trans B1.out.size (hg j h))
  have B2 := qH (B1.out.trans (hb.mono B1.out.size))
  clear hd hg hb DK HF B1 h1 h2
  go_wp2_with fail
  go_loopw [8] (fun i wr => SPlayRel w d r len1 i wr) (fun i _ => len1 - (intOf i).toNat)
  case atStart => exact ⟨0, F, G, _, Nat.zero_le _, rfl, P.out, by have := HK1.out; simp [DS.new]; omega, HN.out, B2.out⟩
  case round =>
   clear P HN B2
   obtain ⟨k, F1, G1, s, hk, rfl, hp, hsl, hn, hb⟩ := hrel
   have P := qH hp
   have HSL : Hid (0 < s.L.length) := hsl
   have HN := qH hn
   have BR := qH hb
   have HK : Hid (k ≤ len1) := hk
   clear hp hn hb hk hsl
   by_cases hlt : k < len1
   ·have HLT : Hid (k < len1) := hlt
    obtain ⟨b, o, A', m', c', rfl, hrd, hact⟩ := sact_at R.out hlt
    have ARG : Hid (Off A' m' (fun k => F1 k ∨ G1 k)) := hrd.off HN.out
    have HACT := qH hact
    have HM6 : Hid (m' ≤ 6000) := by show _ ≤ _; rw [← hrd.1]; exact FEW.out.2 k (by rw [HL1.out]; exact hlt)
    clear hrd
    have hkI : (k : Int) < (len1 : Int) := by omega
    have hk301 : (k : Int) < 301 := by have := FEW.out.1; rw [HL1.out] at this; omega
    generalize l1.getD k SAct.zero = act at *
    clear hact
    obtain ⟨x0, x1, x2, x3, x4, ha⟩ := HACT.out wr BR.out
    have HA := qH ha
    clear ha
    go_wp2_with fail
    clear x0 x1 x2 x3 x4
    refine (sOne d r F1 G1 s act A' m' c' wr (HPW.out.to BR.out) P.out HSL.out HA.out ARG.out HM6.out).mono ?_
    rintro e w5 ⟨rfl, F5, G5, s5, hd, hl5⟩
    have DD := qH hd
    have HL5 := qH hl5
    have B5 := qH (hd.keep.below BR.out BR.out.size HN.out)
    clear hd hl5
    go_wp2_with fail
    refine (sSame d r F5 G5 s5 w5 DD.out.pair).mono ?_
    rintro e w6 ⟨rfl, hb⟩
    have D6 := qH (DD.out.to hb)
    have B6 := qH (B5.out.trans (hb.mono B5.out.size))
    clear hb
    go_wp2_with fail
    go_roundw
    case rel => exact ⟨k + 1, F5, G5, s5, HLT.out, by go_num, D6.out.pair, by rw [HL5.out]; exact HSL.out, fun j hj => hj.elim (fun h => (D6.out.newF j h).elim (fun h => HN.out j (.inl h)) (Nat.le_trans BR.out.size)) (fun h => (D6.out.newG j h).elim (fun h => HN.out j (.inr h)) (Nat.le_trans BR.out.size)), B6.out⟩
    case measure => have := HLT.out; simp [intOf]; omega
   ·obtain rfl : k = len1 := by have := HK.out; omega
    go_wp2_with fail
    go_ret
    exact ⟨rfl, BR.out⟩
theorem lifted (os : Os) (started : os.Started) (H : Type) (enc : TypeId × Value → H) :
  ReturnsInHanded {} Tryz.checked os 3 .any (fun w args => (Rows.slotPlaysSpec.pre enc Tryz.prog Tryz.f3 Rows.slotPlaysRow.domain false w args ∧ laidMetH Tryz.prog Rows.slotPlaysRow.laid w) ∧ sizedMet enc Tryz.prog Tryz.f3 (OpenSpec.ofChange Rows.slotPlaysSpec) false w args)
   (Rows.slotPlaysSpec.post enc Tryz.prog Tryz.f3 false true false false) := by
 refine returnsInHanded_of_change_and (C := Tryz.checked) (X := fun w _ => laidMetH Tryz.prog Rows.slotPlaysRow.laid w) (fun _ _ _ hh h => h.of_heap hh) own started (by kernel_rfl) Tryz.func3
  (ChangeSpec.witness_shaped (enc := enc) (C := Tryz.checked) (os := os) (X := fun w _ => laidMetH Tryz.prog Rows.slotPlaysRow.laid w) false (World.doorLaid Tryz.prog 400 os) #[.int .i64 0, .slice none 0 0] 8 rfl (World.shaped_of_RefB (by kernel_rfl) (by kernel_rfl)) (by kernel_rfl) (by kernel_rfl) (by kernel_rfl) (door_met os _)) ?_
 intro W base args ds gs before hval0 hW hcnd hsz0 hL _
 have hval : ∀ (j : Nat) t v, Tryz.f3.params[j]? = some t → args[j]? = some v → Value.okWide Tryz.prog W .any base t v := hval0
 have hsz : (DataW.weightsEach Tryz.prog (Tryz.f3.params.toList ++ Rows.slotPlaysSpec.plain.varTypes Tryz.prog) (ds ++ gs)).all (· ≤ reachBytes) = true := hsz0
 have hW' := hW
 obtain ⟨p, q, hA0, hV, rfl, hfz, hnd⟩ := hW
 have hA : DataW.TrodAll enc Tryz.prog W 0 (fun _ => true) true Tryz.f3.params.toList args.toList ds p := hA0
 rw [Tryz.params3] at hA hval hsz
 obtain ⟨v0, vs0, d0, ds0, p0, q0, hargs, rfl, rfl, h0, r0⟩ := trodAll_cons hA
 obtain ⟨v1, vs1, d1, ds1, p1, q1, rfl, rfl, rfl, h1, r1⟩ := trodAll_cons r0
 obtain ⟨rfl, rfl, rfl⟩ := trodAll_nil r1
 obtain rfl : args = #[v0, v1] := by cases args; simp_all
 obtain ⟨rfl, rfl⟩ := trodVars_none hV
 have sz1 : ∀ x ∈ d1.weights Tryz.prog 22, x ≤ reachBytes := fun x hx => by simpa using List.all_eq_true.1 hsz _ (DataW.weights_mem_each (j := 1) rfl rfl x hx)
 obtain ⟨a0, rfl, rfl, rfl, w0⟩ := open_int Tryz.underlying3 (hval 0 3 v0 rfl rfl) h0
 have k1 := h1
 have lt1 : ∀ x ∈ p1, x.block < W.heap.size := by obtain ⟨m, hm⟩ := k1; exact DataW.trod_lt m _ _ _ hm
 obtain ⟨a1, len1, cap1, l1, rfl, w1⟩ := open_sacts (hval 1 22 v1 rfl rfl) h1 sz1
 clear hA0 hval0
 refine (walk a0 a1 len1 cap1 l1 W (pr_of_laid hL) w0 w1).mono fun e W' ⟨he, bel⟩ => ?_
 subst he
 exact ⟨_, rfl, _, _, _, [], _, [], hW', trodAll_mk1 (shut_bool Tryz.underlying4 _), (trodAll_cons_mk (shut_int Tryz.underlying3 w0) (trodAll_cons_mk (Below.trod laidOut (by kernel_rfl) (of_decide_eq_true (by kernel_rfl)) k1 bel lt1) trodAll_mk0)), rfl, bel.frame _, fun h => by cases h⟩
theorem over : Rows.slotPlaysRow.holds Tryz.pinned (OpenSpec.ofChange Rows.slotPlaysSpec) :=
 OpenClaim.holds_of_wide 3 Tryz.f3 rfl rfl rfl rfl rfl rfl rfl ⟨rfl, rfl, rfl, rfl, rfl⟩ rfl rfl rfl rfl rfl (by kernel_rfl) Tryz.func3 (by kernel_rfl)
  (of_decide_eq_true (by kernel_rfl)) (by unfold Func.isWrapper; first | (rw [if_pos (by decide +kernel)]; kernel_rfl) | (rw [if_neg (by decide +kernel)]; exact ⟨rfl, rfl⟩))
  (fun os started H enc _ => lifted os started H enc)
theorem wants : ∀ (j : Nat) t, Tryz.f3.params[j]? = some t → Tryz.prog.wantsStandIn t = false := by
 intro j t ht
 rw [Tryz.params3] at ht
 rcases j with _ | j
 ·obtain rfl : 3 = t := by simpa using ht
  kernel_rfl
 rcases j with _ | j
 ·obtain rfl : 22 = t := by simpa using ht
  kernel_rfl
 simp at ht
theorem proved : Rows.SlotPlaysCardSaid :=
 Claim7.holds_tied_plain_at .later [] [.data] true Rows.slotPlaysCard.stood.harness Rows.slotPlaysCard.stood.looks over (fun _ h => by cases h) (by kernel_rfl) (fun _ h => by cases h) slotPlays_row_tie rfl ⟨rfl, rfl⟩ (by kernel_rfl) rfl
  (fun f fn hf hfn => by
   obtain rfl : f = 3 := Option.some.inj ((show Tryz.prog.funcNamed "citadel/citadellaw15.SlotPlays" = some 3 by kernel_rfl).symm.trans hf) |>.symm
   obtain rfl : fn = Tryz.f3 := (Option.some.inj (Tryz.func3.symm.trans hfn)).symm
   exact ⟨by kernel_rfl, wants⟩)
  (by kernel_rfl)
end Go.Proofs.YtopilgedcnbdaaaGreatDoor.slotPlays