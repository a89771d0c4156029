/- For any regions the law RegionHolder of citadellaw08 returns true: of at most 20 regions that are apart each byte is in one at most, the one that Holder of region tells; all bytes that are in some are as many as their sizes together. Conditions: none beyond those that the statement itself prints. -/
import Derived.Test.YtggnpnicmjjfbaaRows
import Derived.Test.YtggnpnicmjjfbaaRegE
import Derived.Test.YtggnpnicmjjfbaaRegN
import Derived.WalkKit
import Derived.ProofKit
import Derived.OpenShut
import Derived.ShutString
import Derived.ChangeOld
import Derived.Below
namespace Go.Proofs.Ytggnpnicmjjfbaa.regionHolder
open Go.ChangeShapes Go.WideShapes Go.ChangeAt Go.RowKit
open Go.ChangeMaps (open_string shut_string)
set_option linter.unusedVariables false
set_option linter.unusedSimpArgs false

theorem own : ownKnob Try.prog.godebug = none := by kernel_rfl
theorem laidOut : laidOutB Try.prog = true := by kernel_rfl

def SumRel (l : List Reg) (n : Nat) (w1 : World) (s3 s5 : Value) (wr : World) : Prop :=
  ∃ k : Nat, k ≤ n ∧ s5 = .int .i64 (k : Int) ∧ s3 = .int .i64 (sumR (l.take k)) ∧ wr = w1
def CntRel (l : List Reg) (w1 : World) (s4 s6 : Value) (wr : World) : Prop :=
  ∃ k : Nat, k ≤ 4096 ∧ s6 = .int .i64 (k : Int) ∧ s4 = .int .i64 (cntR l k : Int) ∧ Below w1.heap.size w1 wr
def EachRel (n : Nat) (w1 : World) (s8 : Value) (wr : World) : Prop :=
  ∃ i : Nat, i ≤ n ∧ s8 = .int .i64 (i : Int) ∧ Below w1.heap.size w1 wr
set_option maxRecDepth 1000000 in
set_option maxHeartbeats 4000000 in
theorem walk (a0 : Option Addr) (len0 cap0 : Nat) (l0 : List Reg) (w : World) (w0 : RdG w w.heap.size a0 len0 l0 ∧ len0 ≤ cap0 ∧ cap0 ≤ 9223372036854775807) :
    Calls Try.prog 5 #[.slice a0 len0 cap0] w fun e w' => e = .returned (.bool true) ∧ Below w.heap.size w w' := by
  obtain ⟨r0, hcap, hcap'⟩ := w0
  have R := Lib.hid r0
  have HC := Lib.hid hcap
  have HC' := Lib.hid hcap'
  clear r0 hcap hcap'
  have B := Lib.hid (Below.refl w.heap.size w)
  by_cases h20 : 20 < len0
  · have h20I : (len0 : Int) > 20 := by omega
    clear h20
    go_enter Try.func5, Try.ntmps5
    go_wp2_with fail
    refine (awake _).mono ?_
    rintro e w9 ⟨rfl, hb⟩
    replace B := Lib.hid (B.out.trans (hb.mono B.out.size))
    clear hb
    go_wp2_with fail
    go_ret
    exact ⟨rfl, B.out⟩
  have h20I : ¬ (len0 : Int) > 20 := by omega
  have HN : Hid (len0 ≤ 20) := by (show _ ≤ _); omega
  clear h20
  go_enter Try.func5, Try.ntmps5
  go_wp2_with fail
  refine (wAll a0 len0 cap0 l0 w R.out HC.out HC'.out).mono ?_
  rintro e w1 ⟨rfl, hb⟩
  replace B := Lib.hid hb
  clear hb
  rcases allR_range l0 with h0 | h0 | h0
  rotate_left
  · rw [h0]
    clear h0
    go_wp2_with fail
    refine (awake _).mono ?_
    rintro e w9 ⟨rfl, hb⟩
    replace B := Lib.hid (B.out.trans (hb.mono B.out.size))
    clear hb
    go_wp2_with fail
    go_ret
    exact ⟨rfl, B.out⟩
  · rw [h0]
    clear h0
    go_wp2_with fail
    refine (awake _).mono ?_
    rintro e w9 ⟨rfl, hb⟩
    replace B := Lib.hid (B.out.trans (hb.mono B.out.size))
    clear hb
    go_wp2_with fail
    go_ret
    exact ⟨rfl, B.out⟩
  have H0 := Lib.hid h0
  rw [h0]
  clear h0
  have R1 := Lib.hid (R.out.to B.out)
  have HM := Lib.hid (allR_zero.1 H0.out).1
  go_wp2_with fail
  go_loopw [3, 5] (fun s3 s5 wr => SumRel l0 len0 w1 s3 s5 wr) (fun _ s5 _ => len0 - (intOf s5).toNat)
  case atStart => exact ⟨0, Nat.zero_le _, rfl, rfl, rfl⟩
  case round =>
    obtain ⟨k, hk, rfl, rfl, rfl⟩ := hrel
    by_cases hlt : k < len0
    · obtain ⟨b, o, rfl, hbo, hc⟩ := R1.out.2 (by omega)
      have c1 := (hc k hlt).2
      have hltI : (k : Int) < (len0 : Int) := by omega
      have HK : Hid (k < len0) := hlt
      have HS := Lib.hid (sumR_succ (l := l0) (k := k) (by rw [R1.out.1]; exact hlt))
      have hs := sumR_bound (l := l0.take k) (fun x hx => HM.out x (List.mem_of_mem_take hx))
      have hm := mayR_iff.1 (HM.out _ (rat_mem (l := l0) (k := k) (by rw [R1.out.1]; exact hlt)))
      have hln : (l0.take k).length ≤ 20 := by have := HN.out; have := R1.out.1; simp; omega
      have hw : IntKind.i64.wrap (sumR (l0.take k) + (rat l0 k).2) = sumR (l0.take k) + (rat l0 k).2 := by rw [IntKind.wrap_i64]; omega
      clear hc hk hlt hbo hs hm hln
      go_wp2
      go_roundw
      case rel => exact ⟨k + 1, HK.out, by go_num, by rw [HS.out], rfl⟩
      case measure => have := HK.out; simp [intOf]; omega
    · obtain rfl : k = len0 := by omega
      have hltI : ¬ (k : Int) < (k : Int) := by omega
      clear hk hlt
      rw [List.take_of_length_le (by rw [R1.out.1]; exact Nat.le_refl _)]
      have BB := Lib.hid (Below.refl wr.heap.size wr)
      go_wp2
      generalize hsm : sumR l0 = sm
      have HSM := Lib.hid hsm
      clear hsm
      go_loopw [4, 6, 7, 8] (fun s4 s6 _ _ wr' => CntRel l0 wr s4 s6 wr') (fun _ s6 _ _ _ => 4096 - (intOf s6).toNat)
      case atStart => exact ⟨0, Nat.zero_le _, rfl, rfl, Below.refl _ _⟩
      case round =>
        obtain ⟨t, ht, rfl, rfl, hb⟩ := hrel
        have BT := Lib.hid hb
        clear hb
        by_cases htl : t < 4096
        · have htlI : (t : Int) < 4096 := by omega
          have HTL : Hid (t < 4096) := htl
          have hwt : IntKind.i64.wrap ((t : Int) + 1) = (t : Int) + 1 := by rw [IntKind.wrap_i64]; omega
          have hle := cntR_le l0 t
          have hwc : IntKind.i64.wrap ((cntR l0 t : Int) + 1) = (cntR l0 t : Int) + 1 := by rw [IntKind.wrap_i64]; omega
          clear ht htl hle
          go_wp2_with fail
          refine (wHolder a0 k cap0 l0 (t : Int) _ (R1.out.to BT.out) (Nat.le_trans HC.out HC'.out)).mono ?_
          rintro e w5 ⟨rfl, hb⟩
          replace BT := Lib.hid (BT.out.trans (hb.mono BT.out.size))
          clear hb
          obtain ⟨hv, hhv, hkey, hge⟩ : ∃ hv : Int, holdR l0 (t : Int) = hv ∧ (∀ i, i < l0.length → hasR (rat l0 i) (t : Int) = decide ((i : Int) = hv)) ∧ (cntR l0 (t + 1) : Int) = if hv ≥ 0 then (cntR l0 t : Int) + 1 else (cntR l0 t : Int) := by
            refine ⟨_, rfl, ?_⟩
            rcases idxR_cases (fun r => hasR r (t : Int)) l0 with ⟨h, hh, hp, hne, hidx⟩ | ⟨hne, hidx⟩
            · rw [show holdR l0 (t : Int) = (h : Int) from hidx]
              refine ⟨fun i hi => ?_, ?_⟩
              · by_cases e : i = h
                · subst e; rw [decide_eq_true rfl]; exact hp
                · rw [decide_eq_false (by omega)]
                  rw [Bool.eq_false_iff]
                  exact fun h2 => e (has_unique H0.out hi hh h2 hp)
              · rw [if_pos (by omega), cntR_hit (any_rat.2 ⟨h, hh, hp⟩)]; rfl
            · rw [show holdR l0 (t : Int) = -1 from hidx]
              refine ⟨fun i hi => ?_, ?_⟩
              · rw [decide_eq_false (by omega)]; exact hne i hi
              · rw [if_neg (by omega), cntR_miss]
                rw [Bool.eq_false_iff]
                intro h2
                obtain ⟨k', hk', hp'⟩ := any_rat.1 h2
                rw [hne k' hk'] at hp'; cases hp'
          rw [hhv]
          have HKEY := Lib.hid hkey
          have HGE := Lib.hid hge
          clear hhv hkey hge
          go_wp2_with fail
          go_loopw [8] (fun s8 wr => EachRel k w5 s8 wr) (fun s8 _ => k - (intOf s8).toNat)
          case atStart => exact ⟨0, Nat.zero_le _, rfl, Below.refl _ _⟩
          case round =>
            obtain ⟨i, hi, rfl, hb⟩ := hrel
            have BI := Lib.hid hb
            clear hb
            by_cases hik : i < k
            · obtain ⟨b, o, rfl, hbo, hc⟩ := ((R1.out.to BT.out).to BI.out).2 (by omega)
              have c0 := (hc i hik).1
              have c1 := (hc i hik).2
              have hikI : (i : Int) < (k : Int) := by omega
              have HIK : Hid (i < k) := hik
              have hw : IntKind.i64.wrap ((i : Int) + 1) = (i : Int) + 1 := by have := HN.out; rw [IntKind.wrap_i64]; omega
              have HQ := Lib.hid (HKEY.out i (by rw [R1.out.1]; exact hik))
              clear hc hi hik hbo
              by_cases hih : (i : Int) = hv
              · have hd : ((i : Int) == hv) = true := by simpa using hih
                rw [decide_eq_true hih] at HQ
                clear hih
                go_wp2_with fail
                refine (wHas (rat l0 i).1 (rat l0 i).2 (t : Int) _).mono ?_
                rw [show hasR ((rat l0 i).1, (rat l0 i).2) (t : Int) = true from HQ.out]
                rintro e w6 ⟨rfl, hb⟩
                replace BI := Lib.hid (BI.out.trans (hb.mono BI.out.size))
                clear hb c0 c1
                go_wp2_with fail
                go_roundw
                case rel => exact ⟨i + 1, HIK.out, by go_num, BI.out⟩
                case measure => have := HIK.out; simp [intOf]; omega
              · have hd : ((i : Int) == hv) = false := by simpa using hih
                rw [decide_eq_false hih] at HQ
                clear hih
                go_wp2_with fail
                refine (wHas (rat l0 i).1 (rat l0 i).2 (t : Int) _).mono ?_
                rw [show hasR ((rat l0 i).1, (rat l0 i).2) (t : Int) = false from HQ.out]
                rintro e w6 ⟨rfl, hb⟩
                replace BI := Lib.hid (BI.out.trans (hb.mono BI.out.size))
                clear hb c0 c1
                go_wp2_with fail
                go_roundw
                case rel => exact ⟨i + 1, HIK.out, by go_num, BI.out⟩
                case measure => have := HIK.out; simp [intOf]; omega
            · obtain rfl : i = k := by omega
              have hikI : ¬ (i : Int) < (i : Int) := by omega
              clear hi hik
              by_cases hge : hv ≥ 0
              · have HG := HGE.out
                rw [if_pos hge] at HG
                have HG' := Lib.hid HG
                clear HG
                go_wp2_with fail
                go_roundw
                case rel => exact ⟨t + 1, HTL.out, by go_num, by rw [HG'.out], BT.out.trans (BI.out.mono BT.out.size)⟩
                case measure => have := HTL.out; simp [intOf]; omega
              · have HG := HGE.out
                rw [if_neg hge] at HG
                have HG' := Lib.hid HG
                clear HG
                go_wp2_with fail
                go_roundw
                case rel => exact ⟨t + 1, HTL.out, by go_num, by rw [HG'.out], BT.out.trans (BI.out.mono BT.out.size)⟩
                case measure => have := HTL.out; simp [intOf]; omega
        · obtain rfl : t = 4096 := by omega
          have htlI : ¬ ((4096 : Nat) : Int) < 4096 := by decide
          have hsc : (sm == (cntR l0 4096 : Int)) = true := by
            have := sum_count HM.out (allR_zero.1 H0.out).2
            rw [HSM.out] at this
            simp [this]
          have hno : ∀ x : Int, x < 0 ∨ 4096 ≤ x → holdR l0 x = -1 := fun x hx => idxR_miss fun j hj => by
            have := mayR_iff.1 (HM.out _ (rat_mem hj))
            rw [Bool.eq_false_iff]
            intro hh
            have := (hasR_iff.1 hh).2
            omega
          have HN1 := Lib.hid (hno (-1) (.inl (by decide)))
          have HN2 := Lib.hid (hno 4096 (.inr (by decide)))
          clear ht htl hno
          go_wp2_with fail
          refine (wHolder a0 k cap0 l0 (-1) _ (R1.out.to BT.out) (Nat.le_trans HC.out HC'.out)).mono ?_
          rw [HN1.out]
          rintro e w5 ⟨rfl, hb⟩
          replace BT := Lib.hid (BT.out.trans (hb.mono BT.out.size))
          clear hb
          go_wp2_with fail
          refine (wHolder a0 k cap0 l0 4096 _ (R1.out.to BT.out) (Nat.le_trans HC.out HC'.out)).mono ?_
          rw [HN2.out]
          rintro e w6 ⟨rfl, hb⟩
          replace BT := Lib.hid (BT.out.trans (hb.mono BT.out.size))
          clear hb
          replace B := Lib.hid (B.out.trans (BT.out.mono B.out.size))
          go_wp2_with fail
          refine (awake _).mono ?_
          rintro e w9 ⟨rfl, hb⟩
          replace B := Lib.hid (B.out.trans (hb.mono B.out.size))
          clear hb
          go_wp2_with fail
          go_ret
          exact ⟨rfl, B.out⟩

set_option maxRecDepth 100000 in
theorem lifted (os : Os) (started : os.Started) (H : Type) (enc : TypeId × Value → H) :
    ReturnsInHanded {} Try.checked os 5 .any (Rows.regionHolderSpec.pre6 enc Try.prog Try.f5 Rows.regionHolderRow.domain false) (Rows.regionHolderSpec.post enc Try.prog Try.f5 false true false false) := by
  refine returnsInHanded_of_change (C := Try.checked) own started (by kernel_rfl) Try.func5
    (ChangeSpec.witness6 (enc := enc) (C := Try.checked) false ⟨#[], #[.slice none 0 0], []⟩ 8 (by kernel_rfl) (by kernel_rfl) (by kernel_rfl) (by kernel_rfl)) ?_
  intro W base args ds gs before hval0 hW hcnd _
  have hval : ∀ (j : Nat) t v, Try.f5.params[j]? = some t → args[j]? = some v → Value.okWide Try.prog W .any base t v := hval0
  have hW' := hW
  obtain ⟨p, q, hA0, hV, rfl, hfz, hnd⟩ := hW
  have hA : DataW.TrodAll enc Try.prog W 0 (fun _ => true) true Try.f5.params.toList args.toList ds p := hA0
  rw [Try.params5] at hA hval
  obtain ⟨v0, vs0, d0, ds0, p0, q0, hargs, rfl, rfl, h0, r0⟩ := trodAll_cons hA
  obtain ⟨rfl, rfl, rfl⟩ := trodAll_nil r0
  obtain rfl : args = #[v0] := by cases args; simp_all
  obtain ⟨rfl, rfl⟩ := trodVars_none hV
  have k0 := h0
  have lt0 : ∀ x ∈ p0, x.block < W.heap.size := by obtain ⟨m, hm⟩ := k0; exact DataW.trod_lt m _ _ _ hm
  obtain ⟨a0, len0, cap0, l0, rfl, w0⟩ := open_regs (hval 0 30 v0 rfl rfl) h0
  clear hA0 hval0
  refine (walk a0 len0 cap0 l0 W w0).mono fun e W' ⟨he, bel⟩ => ?_
  subst he
  exact ⟨_, rfl, _, _, _, [], _, [], hW', trodAll_mk1 (shut_bool Try.underlying4 _), (trodAll_cons_mk (Below.trod laidOut (by kernel_rfl) (of_decide_eq_true (by kernel_rfl)) k0 bel lt0) trodAll_mk0), rfl, bel.frame _, fun h => by cases h⟩

theorem over : Rows.regionHolderRow.holds Try.pinned (OpenSpec.ofChange Rows.regionHolderSpec) :=
  OpenClaim.holds_of_wide 5 Try.f5 rfl rfl rfl rfl rfl rfl rfl ⟨rfl, rfl, rfl, rfl, rfl⟩ rfl rfl rfl rfl rfl (by kernel_rfl) Try.func5 (by kernel_rfl)
    (of_decide_eq_true (by kernel_rfl)) (by unfold Func.isWrapper; first | (rw [if_pos (by decide +kernel)]; kernel_rfl) | (rw [if_neg (by decide +kernel)]; exact ⟨rfl, rfl⟩))
    (fun os started H enc _ => lifted os started H enc)

theorem proved : Rows.RegionHolderSaid := over
end Go.Proofs.Ytggnpnicmjjfbaa.regionHolder
