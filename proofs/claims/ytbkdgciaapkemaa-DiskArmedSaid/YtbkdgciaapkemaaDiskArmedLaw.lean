/- For any number, any acts, any count and bytes the law DiskArmed of citadellaw06 returns true: an armed disk crashes at the operation that was named, and what stays then is what a crash at that place leaves. Conditions: none beyond those that the statement itself prints. -/
import Derived.Test.YtbkdgciaapkemaaRows
import Derived.Test.YtbkdgciaapkemaaDiskLf
import Derived.SizedLaws
import Derived.WalkKit
import Derived.ProofKit
import Derived.OpenShut
import Derived.ShutString
import Derived.ChangeOld
import Derived.Below
namespace Go.Proofs.Ytbkdgciaapkemaa.diskArmed
open Go.ChangeShapes Go.WideShapes Go.ChangeAt Go.RowKit
open Go.ChangeMaps (open_string shut_string)
set_option linter.unusedVariables false
set_option linter.unusedSimpArgs false

theorem own : ownKnob Try.prog.godebug = none := by kernel_rfl
theorem laidOut : laidOutB Try.prog = true := by kernel_rfl

structure Arm (T dn : Nat) (stay : List UInt8) (sa sb : DS) : Prop where
  L : sa.L = sb.L
  ua : sa.up = true
  ub : sb.up = true
  left : sa.left + dn = T
  lt : dn < T
  st : sa.stay = stay
  lb : sb.left = 0
theorem Arm.has {T dn : Nat} {stay : List UInt8} {sa sb : DS} (h : Arm T dn stay sa sb) (i : Int) : sb.has i = sa.has i := by
  unfold DS.has
  rw [h.L]
theorem Arm.first {T dn : Nat} {stay : List UInt8} {sa sb : DS} (h : Arm T dn stay sa sb) (h2 : dn + 1 < T) (a : DAct) (hk : 0 ≤ a.kind ∧ a.kind ≤ 4) :
    (sb.act a).1 = (sa.act a).1 ∧ ((sa.act a).1 = 0 → Arm T (dn + 1) stay (sa.act a).2 (sb.act a).2) ∧ ((sa.act a).1 ≠ 0 → Arm T dn stay (sa.act a).2 (sb.act a).2) := by
  have hl := h.left
  have hlb := h.lb
  unfold DS.act
  by_cases hw : a.kind = 0 ∨ a.kind = 1 ∨ a.kind = 2
  · rw [if_pos hw, if_pos hw, write_case h.ua, write_case h.ub, h.has]
    by_cases hh : sa.has a.n = false
    · rw [if_pos hh, if_pos hh]
      exact ⟨rfl, fun e => absurd (show ((61 : Int) = 0 ∨ (2 : Int) = 0) from by first | exact .inl e | exact .inr e) (by decide), fun _ => h⟩
    · rw [if_neg hh, if_neg hh]
      by_cases h64 : (sectorB a.b).length ≠ 64
      · rw [if_pos h64, if_pos h64]
        exact ⟨rfl, fun e => absurd (show ((61 : Int) = 0 ∨ (2 : Int) = 0) from by first | exact .inl e | exact .inr e) (by decide), fun _ => h⟩
      · rw [if_neg h64, if_neg h64, if_neg (by omega), if_neg (by omega)]
        refine ⟨rfl, fun _ => ⟨?_, h.ua, h.ub, ?_, h2, h.st, ?_⟩, fun e => absurd rfl e⟩
        · show sa.L.set _ _ = sb.L.set _ _
          rw [h.L]
        · show sa.left - 1 + (dn + 1) = T
          omega
        · show sb.left - 1 = 0
          omega
  · rw [if_neg hw, if_neg hw, if_pos (by omega), if_pos (by omega), flush_case h.ua, flush_case h.ub, if_neg (by omega), if_neg (by omega)]
    refine ⟨rfl, fun _ => ⟨?_, h.ua, h.ub, ?_, h2, h.st, ?_⟩, fun e => absurd rfl e⟩
    · show fallL _ _ sa.L = fallL _ _ sb.L
      rw [h.L]
    · show sa.left - 1 + (dn + 1) = T
      omega
    · show sb.left - 1 = 0
      omega
theorem Arm.second {T dn : Nat} {stay : List UInt8} {sa sb : DS} (h : Arm T dn stay sa sb) (h1 : dn + 1 = T) (a : DAct) (hk : 0 ≤ a.kind ∧ a.kind ≤ 4) :
    (a.kind ≤ 2 → (a.n < 0 ∨ a.n ≥ (sa.L.length : Int) ∨ (sectorB a.b).length ≠ 64) → (sa.act a).2 = sa) ∧
    ((a.kind ≤ 2 → 0 ≤ a.n ∧ a.n < (sa.L.length : Int) ∧ (sectorB a.b).length = 64) → sa.act a = (60, sa.fall (selB stay))) := by
  have hl := h.left
  have h1l : sa.left = 1 := by omega
  unfold DS.act
  by_cases hw : a.kind = 0 ∨ a.kind = 1 ∨ a.kind = 2
  · rw [if_pos hw, write_case h.ua, if_pos h1l, h.st]
    refine ⟨fun _ hx => ?_, fun hx => ?_⟩
    · by_cases hh : sa.has a.n = false
      · rw [if_pos hh]
      · rw [if_neg hh]
        have hh' : sa.has a.n = true := by simpa using hh
        simp only [DS.has, decide_eq_true_eq] at hh'
        rw [if_pos (by rcases hx with hx | hx | hx <;> first | exact hx | omega)]
    · obtain ⟨g1, g2, g3⟩ := hx (by omega)
      rw [if_neg (by simp only [DS.has, decide_eq_false_iff_not, Classical.not_not]; omega), if_neg (by omega)]
  · rw [if_neg hw, if_pos (by omega), flush_case h.ua, if_pos h1l, h.st]
    exact ⟨fun hx => by omega, fun _ => rfl⟩
theorem new_arm (k : Nat) {t : Int} {T : Nat} (ht : 1 ≤ t) (hT : t = (T : Int)) (stay : List UInt8) : (DS.new k).arm t stay = (0, ⟨(DS.new k).L, true, T, stay⟩) := by
  obtain rfl : T = t.toNat := by omega
  unfold DS.arm
  rw [if_neg (by simp [DS.new]), if_neg (by omega)]
  rfl
def ArmRel (w : World) (da db k0 len T : Nat) (stay : List UInt8) (done i : Value) (wr : World) : Prop := ∃ (k dn : Nat) (Fa : Nat → Prop) (sa : DS) (Fb : Nat → Prop) (sb : DS), k ≤ len ∧ i = .int .i64 (k : Int) ∧ done = .int .i64 (dn : Int) ∧ Two w wr da Fa sa db Fb sb ∧ Arm T dn stay sa sb ∧ sa.L.length = k0
set_option maxRecDepth 1000000 in
set_option maxHeartbeats 4000000 in
theorem walk (a0 : Int) (a1 : Option Addr) (len1 cap1 : Nat) (l1 : List DAct) (a2 : Int) (a3 : Option Addr) (len3 cap3 : Nat) (z3 : List Int) (w : World) (w0 : (Lit.int .i64 a0).wf = true) (w1 : RdA w w.heap.size a1 len1 l1 ∧ len1 ≤ cap1 ∧ cap1 * 40 ≤ 140737488351232) (w2 : (Lit.int .i64 a2).wf = true) (w3 : IsRow .u8 w a3 len3 cap3 z3) :
    Calls Try.prog 7 #[.int .i64 a0, .slice a1 len1 cap1, .int .i64 a2, .slice a3 len3 cap3] w fun e w' => e = .returned (.bool true) ∧ Below w.heap.size w w' := by
  obtain ⟨r1, hcap1, hcap1'⟩ := w1
  obtain ⟨r3, hcap3, hcap3'⟩ := w3.rd
  generalize bytesIn (z3.take len3) = stay at r3
  obtain ⟨h2a, h2b⟩ := wf_i64 w2
  have R := Lib.hid r1
  have ST := Lib.hid r3
  have HL1 := Lib.hid r1.1
  have HLEN1 : Hid (len1 ≤ 140737488351232) := by show _ ≤ _; omega
  have HCAP : Hid (len1 ≤ cap1) := hcap1
  have HC3 : Hid (len3 ≤ cap3 ∧ cap3 ≤ 9223372036854775807) := by show _ ∧ _; omega
  have HA2 : Hid (a2 ≤ 9223372036854775807) := h2b
  clear w0 w2 r1 r3 w3 hcap1 hcap1' hcap3 hcap3' h2a h2b
  go_enter Try.func7, Try.ntmps7
  go_wp2_with fail
  refine (lAwake w).mono ?_
  rintro e w1 ⟨rfl, hb⟩
  have B1 := Lib.hid hb
  have R1 := Lib.hid (R.out.to hb)
  clear hb
  go_wp2_with fail
  refine (lMade a0 a1 len1 cap1 l1 w1 R1.out HLEN1.out).mono ?_
  rintro e w2 hmade
  rcases hmade with ⟨k0, da, Fa, rfl, hk1, hk12, hfew, rfl, hd, hf, hb⟩ | ⟨rfl, rfl⟩
  rotate_left 1
  · go_wp2_with fail
    refine (lMade a0 a1 len1 cap1 l1 w1 R1.out HLEN1.out).mono ?_
    rintro e w2 hmade
    rcases hmade with ⟨k0, da, Fa, rfl, hk1, hk12, hfew, rfl, hd, hf, hb⟩ | ⟨rfl, rfl⟩
    · have BX := Lib.hid (B1.out.trans (hb.mono B1.out.size))
      clear hb hd hf hfew hk1 hk12
      go_wp2_with fail
      go_ret
      exact ⟨rfl, BX.out⟩
    · go_wp2_with fail
      go_ret
      exact ⟨rfl, B1.out⟩
  have M : Hid (Mine w w2 da Fa (DS.new k0)) := ⟨hd, fun k h => Nat.le_trans B1.out.size (hf k h), B1.out.trans (hb.mono B1.out.size)⟩
  have FEW := Lib.hid hfew
  have HK12 : Hid (k0 ≤ 12) := hk12
  have hk0I : (k0 : Int) < 13 := by omega
  have R2 := Lib.hid (R1.out.to hb)
  clear hd hf hb hfew hk1 hk12
  go_wp2_with fail
  refine (lMade (k0 : Int) a1 len1 cap1 l1 w2 R2.out HLEN1.out).mono ?_
  rintro e w3 hmade
  rcases hmade with ⟨k0', db, Fb, hke, hk1, hk12, hfew, rfl, hd, hf, hb⟩ | ⟨rfl, rfl⟩
  rotate_left 1
  · go_wp2_with fail
    go_ret
    exact ⟨rfl, M.out.bel⟩
  obtain rfl : k0 = k0' := by omega
  have TW : Hid (Two w w3 da Fa (DS.new k0) db Fb (DS.new k0)) := ⟨M.out.to hb, ⟨hd, fun k h => Nat.le_trans M.out.bel.size (hf k h), M.out.bel.trans (hb.mono M.out.bel.size)⟩, fun k h h' => by have := M.out.at_.lt k h; have := hf k h'; omega⟩
  clear hd hf hb hfew hk1 hk12 hke M R2 R1
  by_cases h40 : (len1 : Int) > 40
  · go_wp2_with fail
    go_ret
    exact ⟨rfl, TW.out.a.bel⟩
  by_cases ha1 : a2 < 1
  · go_wp2_with fail
    go_ret
    exact ⟨rfl, TW.out.a.bel⟩
  by_cases h50 : (len3 : Int) > 50
  · go_wp2_with fail
    go_ret
    exact ⟨rfl, TW.out.a.bel⟩
  have HA1 : Hid (1 ≤ a2) := by show _ ≤ _; omega
  obtain ⟨T, hT⟩ : ∃ T : Nat, a2 = (T : Int) := ⟨a2.toNat, by omega⟩
  have HTT := Lib.hid hT
  clear hT
  go_wp2_with fail
  refine (dArm da Fa (DS.new k0) a2 a3 len3 cap3 stay w3 TW.out.a.at_ HA2.out (ST.out.to TW.out.a.bel) HC3.out.1 HC3.out.2).mono ?_
  rintro e w4 h6
  obtain ⟨rfl, Fa1, hd⟩ := h6.get (n := 0) (s' := ⟨(DS.new k0).L, true, T, stay⟩) TW.out.a (new_arm k0 HA1.out HTT.out stay)
  have TW4 := Lib.hid (TW.out.actA hd)
  have ARM4 : Hid (Arm T 0 stay ⟨(DS.new k0).L, true, T, stay⟩ (DS.new k0)) := ⟨rfl, rfl, rfl, rfl, by have := HA1.out; have := HTT.out; omega, rfl, rfl⟩
  clear hd h6 TW
  go_wp2_with fail
  clear h40 ha1 h50
  go_loopw [13, 14] (fun dn i wr => ArmRel w da db k0 len1 T stay dn i wr) (fun _ i _ => len1 - (intOf i).toNat)
  case atStart => exact ⟨0, 0, Fa1, _, Fb, _, Nat.zero_le _, rfl, rfl, TW4.out, ARM4.out, new_len k0⟩
  case round =>
    clear TW4 ARM4
    obtain ⟨k, dn, Fa2, sa, Fb2, sb, hk, rfl, rfl, htw, harm, hln⟩ := hrel
    have TW := Lib.hid htw
    have ARM := Lib.hid harm
    have HLN := Lib.hid hln
    have HK : Hid (k ≤ len1) := hk
    clear htw harm hln hk
    by_cases hlt : k < len1
    · have HLT : Hid (k < len1) := hlt
      obtain ⟨b, o, A', m', c', rfl, hrd, hat⟩ := act_at R.out hlt
      have HAT := Lib.hid hat
      have HRD := Lib.hid hrd
      have HM6 : Hid (m' ≤ 6000) := by show _ ≤ _; rw [← hrd.1]; exact FEW.out.2 k (by rw [HL1.out]; exact hlt)
      clear hat hrd
      generalize l1.getD k DAct.zero = act at *
      have hkI : (k : Int) < (len1 : Int) := by omega
      have hk301 : (k : Int) < 301 := by have := FEW.out.1; rw [HL1.out] at this; omega
      obtain ⟨x0, x1, x2, hact⟩ := HAT.out wr TW.out.a.bel
      have HACT := Lib.hid hact
      clear hact
      by_cases hk0 : act.kind < 0
      · go_wp2_with fail
        go_roundw
        case rel => exact ⟨k + 1, dn, Fa2, sa, Fb2, sb, HLT.out, by go_num, rfl, TW.out, ARM.out, HLN.out⟩
        case measure => have := HLT.out; simp [intOf]; omega
      by_cases hk4 : act.kind > 4
      · go_wp2_with fail
        go_roundw
        case rel => exact ⟨k + 1, dn, Fa2, sa, Fb2, sb, HLT.out, by go_num, rfl, TW.out, ARM.out, HLN.out⟩
        case measure => have := HLT.out; simp [intOf]; omega
      go_wp2_with fail
      have hk04 : 0 ≤ act.kind ∧ act.kind ≤ 4 := by omega
      obtain ⟨n', sa', hact'⟩ : ∃ n s', sa.act act = (n, s') := ⟨_, _, rfl⟩
      obtain ⟨nb, sb', hactb⟩ : ∃ n s', sb.act act = (n, s') := ⟨_, _, rfl⟩
      have HK04 := Lib.hid hk04
      have HEA := Lib.hid hact'
      have HEB := Lib.hid hactb
      have HLNa : Hid (sa'.L.length = k0) := by have := act_len sa act; rw [hact'] at this; exact this.trans HLN.out
      clear hact' hactb
      refine (lDo da Fa2 sa act A' m' c' wr TW.out.a.at_ HACT.out (TW.out.a.arg HRD.out) HM6.out).mono ?_
      rintro e w5 h6
      obtain ⟨rfl, Fa3, hd⟩ := h6.get (n := n') (s' := sa') TW.out.a HEA.out
      have T5 := Lib.hid (TW.out.actA hd)
      clear hd h6 HACT x0 x1 x2 TW
      obtain ⟨x0, x1, x2, hact⟩ := HAT.out w5 T5.out.a.bel
      have HACT := Lib.hid hact
      clear hact
      have ha1 := HA1.out
      have ha2 := HA2.out
      by_cases hdn : (dn : Int) < a2 - 1
      · have hf := ARM.out.first (by have := HTT.out; omega) act HK04.out
        rw [HEA.out, HEB.out] at hf
        obtain ⟨hf1, hf2, hf3⟩ := hf
        have hf1' : nb = n' := hf1
        subst hf1'
        have HF2 : Hid (nb = 0 → Arm T (dn + 1) stay sa' sb') := hf2
        have HF3 : Hid (nb ≠ 0 → Arm T dn stay sa' sb') := hf3
        clear hf1 hf2 hf3
        go_wp2_with fail
        refine (lDo db Fb2 sb act A' m' c' w5 T5.out.b.at_ HACT.out (T5.out.b.arg HRD.out) HM6.out).mono ?_
        rintro e w6 h6
        obtain ⟨rfl, Fb3, hd⟩ := h6.get (n := nb) (s' := sb') T5.out.b HEB.out
        have T6 := Lib.hid (T5.out.actB hd)
        clear hd h6 T5 HACT x0 x1 x2 hk0 hk4 hk04
        by_cases h0 : nb = 0
        · have ARM6 := Lib.hid (HF2.out h0)
          clear HEA HEB HF2 HF3
          subst h0
          go_wp2_with fail
          go_roundw
          case rel => exact ⟨k + 1, dn + 1, Fa3, sa', Fb3, sb', HLT.out, by go_num, by go_num, T6.out, ARM6.out, HLNa.out⟩
          case measure => have := HLT.out; simp [intOf]; omega
        · have ARM6 := Lib.hid (HF3.out h0)
          clear HEA HEB HF2 HF3
          go_wp2_with fail
          go_roundw
          case rel => exact ⟨k + 1, dn, Fa3, sa', Fb3, sb', HLT.out, by go_num, rfl, T6.out, ARM6.out, HLNa.out⟩
          case measure => have := HLT.out; simp [intOf]; omega

      have hf := ARM.out.second (by have := ARM.out.lt; have := HTT.out; omega) act HK04.out
      rw [HEA.out, HLN.out] at hf
      have HSK : Hid (act.kind ≤ 2 → (act.n < 0 ∨ act.n ≥ (k0 : Int) ∨ (sectorB act.b).length ≠ 64) → sa' = sa) := hf.1
      have HFA : Hid ((act.kind ≤ 2 → 0 ≤ act.n ∧ act.n < (k0 : Int) ∧ (sectorB act.b).length = 64) → (n', sa') = (60, sa.fall (selB stay))) := hf.2
      clear hf HEA HEB
      by_cases hw : act.kind ≤ 2
      · by_cases hn0 : act.n < 0
        · have ARMn : Hid (Arm T dn stay sa' sb) := by show Arm _ _ _ _ _; rw [HSK.out hw (.inl hn0)]; exact ARM.out
          go_wp2_with fail
          go_roundw
          case rel => exact ⟨k + 1, dn, Fa3, sa', Fb2, sb, HLT.out, by go_num, rfl, T5.out, ARMn.out, HLNa.out⟩
          case measure => have := HLT.out; simp [intOf]; omega
        by_cases hnk : act.n ≥ (k0 : Int)
        · have ARMn : Hid (Arm T dn stay sa' sb) := by show Arm _ _ _ _ _; rw [HSK.out hw (.inr (.inl hnk))]; exact ARM.out
          go_wp2_with fail
          go_roundw
          case rel => exact ⟨k + 1, dn, Fa3, sa', Fb2, sb, HLT.out, by go_num, rfl, T5.out, ARMn.out, HLNa.out⟩
          case measure => have := HLT.out; simp [intOf]; omega
        go_wp2_with fail
        refine (lSector A' m' c' act.b w5 HACT.out.rd (by have := HM6.out; omega)).mono ?_
        rintro e w6 ⟨A5, n5, c5, rfl, hown, hb⟩
        have hn5 : (sectorB act.b).length = n5 := (Rd.of_own hown).1
        have T6 := Lib.hid (T5.out.to hb)
        clear hown hb T5 HACT x0 x1 x2
        by_cases h64 : (n5 : Int) = 64
        · have h := HFA.out (fun _ => ⟨by omega, by omega, by omega⟩)
          injection h with hn' hsf
          have HSF := Lib.hid hsf
          subst hn'
          obtain rfl : n5 = 64 := by omega
          clear hsf hn5 HFA HSK h64
          have hst := ST.out.to T6.out.a.bel
          have hc := dCrash db Fb2 sb a3 len3 cap3 stay w6 T6.out.b.at_ hst HC3.out.1 HC3.out.2
          have HC := Lib.hid hc
          clear hc hst
          go_wp2_with fail
          refine HC.out.mono ?_
          rintro e z6 h6
          obtain ⟨rfl, Fb3, hd⟩ := h6.get (n := 0) (s' := sb.fall (selB stay)) T6.out.b (by unfold DS.crash; rw [if_neg (by rw [ARM.out.ub]; decide)])
          have TZ := Lib.hid (T6.out.actB hd)
          have HLL : Hid (sa'.L = (sb.fall (selB stay)).L) := by show _ = _; rw [HSF.out]; show fallL _ _ sa.L = fallL _ _ sb.L; rw [ARM.out.L]
          have HUU : Hid ((sb.fall (selB stay)).up = sa'.up) := by show _ = _; rw [HSF.out]; rfl
          clear hd h6 HC HSF ARM
          generalize sb.fall (selB stay) = sb' at *
          go_wp2_with fail
          have hc := dUp db Fb3 sb' z6 TZ.out.b.at_
          rw [HUU.out] at hc
          have HC := Lib.hid hc
          clear hc
          refine (dUp da Fa3 sa' z6 TZ.out.a.at_).mono ?_
          rintro e w' ⟨rfl, rfl⟩
          go_wp2_with fail
          refine HC.out.mono ?_
          rintro e w' ⟨rfl, rfl⟩
          clear HC HUU
          generalize (sa').up = bu
          go_wp2_with fail
          go_loopw [18] (fun q wr => ∃ k : Nat, k ≤ k0 ∧ q = .int .i64 (k : Int) ∧ Two w wr da Fa3 sa' db Fb3 sb') (fun q _ => k0 - (intOf q).toNat)
          case atStart => exact ⟨0, Nat.zero_le _, rfl, TZ.out⟩
          case round =>
            clear TZ
            obtain ⟨k, hk, rfl, htw⟩ := hrel
            have TL := Lib.hid htw
            have HK : Hid (k ≤ k0) := hk
            clear htw hk
            by_cases hlt : k < k0
            · have HLT : Hid (k < k0) := hlt
              go_wp2_with fail
              refine (dFlushed da Fa3 sa' k _ TL.out.a.at_).mono ?_
              rintro e y1 ⟨A8, n8, c8, rfl, hown, hb⟩
              have T1 := Lib.hid (TL.out.to hb)
              have RD8 := Lib.hid (Rd.of_own hown)
              have hc := dFlushed db Fb3 sb' k y1 T1.out.b.at_
              rw [flushed_congr HLL.out] at hc
              have HC := Lib.hid hc
              clear hc hown hb TL
              go_wp2_with fail
              refine HC.out.mono ?_
              rintro e y2 ⟨A9, n9, c9, rfl, hown, hb⟩
              have hs := wSame A8 A9 n8 n9 c8 c9 y2.heap.size _ _ y2 (RD8.out.to hb) (Rd.of_own hown)
              rw [show decide ((sa').flushed (k : Int) = (sa').flushed (k : Int)) = true from decide_eq_true rfl] at hs
              have HS := Lib.hid hs
              have T2 := Lib.hid (T1.out.to hb)
              clear hs hown hb HC T1 RD8
              go_wp2_with fail
              refine HS.out.mono ?_
              rintro e y3 ⟨rfl, rfl⟩
              go_wp2_with fail
              go_roundw
              case rel => exact ⟨k + 1, HLT.out, by go_num, T2.out⟩
              case measure => have := HLT.out; simp [intOf]; omega
            · obtain rfl : k0 = k := by have := HK.out; omega
              go_wp2_with fail
              go_ret
              exact ⟨rfl, TL.out.a.bel⟩
        · have ARMn : Hid (Arm T dn stay sa' sb) := by show Arm _ _ _ _ _; rw [HSK.out hw (.inr (.inr (by omega)))]; exact ARM.out
          have h64' : ((n5 : Int) != 64) = true := bne_iff_ne.2 h64
          clear hn5
          go_wp2_with fail
          go_roundw
          case rel => exact ⟨k + 1, dn, Fa3, sa', Fb2, sb, HLT.out, by go_num, rfl, T6.out, ARMn.out, HLNa.out⟩
          case measure => have := HLT.out; simp [intOf]; omega

      have h := HFA.out (fun h => absurd h hw)
      injection h with hn' hsf
      have HSF := Lib.hid hsf
      subst hn'
      clear hsf HFA HSK
      have hst := ST.out.to T5.out.a.bel
      have hc := dCrash db Fb2 sb a3 len3 cap3 stay w5 T5.out.b.at_ hst HC3.out.1 HC3.out.2
      have HC := Lib.hid hc
      clear hc hst
      go_wp2_with fail
      refine HC.out.mono ?_
      rintro e z6 h6
      obtain ⟨rfl, Fb3, hd⟩ := h6.get (n := 0) (s' := sb.fall (selB stay)) T5.out.b (by unfold DS.crash; rw [if_neg (by rw [ARM.out.ub]; decide)])
      have TZ := Lib.hid (T5.out.actB hd)
      have HLL : Hid (sa'.L = (sb.fall (selB stay)).L) := by show _ = _; rw [HSF.out]; show fallL _ _ sa.L = fallL _ _ sb.L; rw [ARM.out.L]
      have HUU : Hid ((sb.fall (selB stay)).up = sa'.up) := by show _ = _; rw [HSF.out]; rfl
      clear hd h6 HC HSF ARM
      generalize sb.fall (selB stay) = sb' at *
      go_wp2_with fail
      have hc := dUp db Fb3 sb' z6 TZ.out.b.at_
      rw [HUU.out] at hc
      have HC := Lib.hid hc
      clear hc
      refine (dUp da Fa3 sa' z6 TZ.out.a.at_).mono ?_
      rintro e w' ⟨rfl, rfl⟩
      go_wp2_with fail
      refine HC.out.mono ?_
      rintro e w' ⟨rfl, rfl⟩
      clear HC HUU
      generalize (sa').up = bu
      go_wp2_with fail
      go_loopw [18] (fun q wr => ∃ k : Nat, k ≤ k0 ∧ q = .int .i64 (k : Int) ∧ Two w wr da Fa3 sa' db Fb3 sb') (fun q _ => k0 - (intOf q).toNat)
      case atStart => exact ⟨0, Nat.zero_le _, rfl, TZ.out⟩
      case round =>
        clear TZ
        obtain ⟨k, hk, rfl, htw⟩ := hrel
        have TL := Lib.hid htw
        have HK : Hid (k ≤ k0) := hk
        clear htw hk
        by_cases hlt : k < k0
        · have HLT : Hid (k < k0) := hlt
          go_wp2_with fail
          refine (dFlushed da Fa3 sa' k _ TL.out.a.at_).mono ?_
          rintro e y1 ⟨A8, n8, c8, rfl, hown, hb⟩
          have T1 := Lib.hid (TL.out.to hb)
          have RD8 := Lib.hid (Rd.of_own hown)
          have hc := dFlushed db Fb3 sb' k y1 T1.out.b.at_
          rw [flushed_congr HLL.out] at hc
          have HC := Lib.hid hc
          clear hc hown hb TL
          go_wp2_with fail
          refine HC.out.mono ?_
          rintro e y2 ⟨A9, n9, c9, rfl, hown, hb⟩
          have hs := wSame A8 A9 n8 n9 c8 c9 y2.heap.size _ _ y2 (RD8.out.to hb) (Rd.of_own hown)
          rw [show decide ((sa').flushed (k : Int) = (sa').flushed (k : Int)) = true from decide_eq_true rfl] at hs
          have HS := Lib.hid hs
          have T2 := Lib.hid (T1.out.to hb)
          clear hs hown hb HC T1 RD8
          go_wp2_with fail
          refine HS.out.mono ?_
          rintro e y3 ⟨rfl, rfl⟩
          go_wp2_with fail
          go_roundw
          case rel => exact ⟨k + 1, HLT.out, by go_num, T2.out⟩
          case measure => have := HLT.out; simp [intOf]; omega
        · obtain rfl : k0 = k := by have := HK.out; omega
          go_wp2_with fail
          go_ret
          exact ⟨rfl, TL.out.a.bel⟩
    · obtain rfl : k = len1 := by have := HK.out; omega
      have HLL := Lib.hid ARM.out.L
      have HUU : Hid (sb.up = sa.up) := ARM.out.ub.trans ARM.out.ua.symm
      clear ARM
      go_wp2_with fail
      have hc := dUp db Fb2 sb wr TW.out.b.at_
      rw [HUU.out] at hc
      have HC := Lib.hid hc
      clear hc
      refine (dUp da Fa2 sa wr TW.out.a.at_).mono ?_
      rintro e w' ⟨rfl, rfl⟩
      go_wp2_with fail
      refine HC.out.mono ?_
      rintro e w' ⟨rfl, rfl⟩
      clear HC HUU
      generalize (sa).up = bu
      go_wp2_with fail
      go_loopw [18] (fun q wr => ∃ k : Nat, k ≤ k0 ∧ q = .int .i64 (k : Int) ∧ Two w wr da Fa2 sa db Fb2 sb) (fun q _ => k0 - (intOf q).toNat)
      case atStart => exact ⟨0, Nat.zero_le _, rfl, TW.out⟩
      case round =>
        clear TW
        obtain ⟨k, hk, rfl, htw⟩ := hrel
        have TL := Lib.hid htw
        have HK : Hid (k ≤ k0) := hk
        clear htw hk
        by_cases hlt : k < k0
        · have HLT : Hid (k < k0) := hlt
          go_wp2_with fail
          refine (dFlushed da Fa2 sa k _ TL.out.a.at_).mono ?_
          rintro e y1 ⟨A8, n8, c8, rfl, hown, hb⟩
          have T1 := Lib.hid (TL.out.to hb)
          have RD8 := Lib.hid (Rd.of_own hown)
          have hc := dFlushed db Fb2 sb k y1 T1.out.b.at_
          rw [flushed_congr HLL.out] at hc
          have HC := Lib.hid hc
          clear hc hown hb TL
          go_wp2_with fail
          refine HC.out.mono ?_
          rintro e y2 ⟨A9, n9, c9, rfl, hown, hb⟩
          have hs := wSame A8 A9 n8 n9 c8 c9 y2.heap.size _ _ y2 (RD8.out.to hb) (Rd.of_own hown)
          rw [show decide ((sa).flushed (k : Int) = (sa).flushed (k : Int)) = true from decide_eq_true rfl] at hs
          have HS := Lib.hid hs
          have T2 := Lib.hid (T1.out.to hb)
          clear hs hown hb HC T1 RD8
          go_wp2_with fail
          refine HS.out.mono ?_
          rintro e y3 ⟨rfl, rfl⟩
          go_wp2_with fail
          go_roundw
          case rel => exact ⟨k + 1, HLT.out, by go_num, T2.out⟩
          case measure => have := HLT.out; simp [intOf]; omega
        · obtain rfl : k0 = k := by have := HK.out; omega
          go_wp2_with fail
          go_ret
          exact ⟨rfl, TL.out.a.bel⟩

set_option maxRecDepth 100000 in
theorem lifted (os : Os) (started : os.Started) (H : Type) (enc : TypeId × Value → H) :
    ReturnsInHanded {} Try.checked os 7 .any (Rows.diskArmedSpec.pre6 enc Try.prog Try.f7 Rows.diskArmedRow.domain false) (Rows.diskArmedSpec.post enc Try.prog Try.f7 false true false false) := by
  refine returnsInHanded_of_change_sized (C := Try.checked) own started (by kernel_rfl) Try.func7
    (ChangeSpec.witness6 (enc := enc) (C := Try.checked) false ⟨#[], #[.int .i64 0, .slice none 0 0, .int .i64 0, .slice none 0 0], []⟩ 8 (by kernel_rfl) (by kernel_rfl) (by kernel_rfl) (by kernel_rfl)) ?_
  intro W base args ds gs before hval0 hW hcnd hsz0 _
  have hval : ∀ (j : Nat) t v, Try.f7.params[j]? = some t → args[j]? = some v → Value.okWide Try.prog W .any base t v := hval0
  have hsz : (DataW.weightsEach Try.prog (Try.f7.params.toList ++ Rows.diskArmedSpec.plain.varTypes Try.prog) (ds ++ gs)).all (· ≤ reachBytes) = true := hsz0
  have hW' := hW
  obtain ⟨p, q, hA0, hV, rfl, hfz, hnd⟩ := hW
  have hA : DataW.TrodAll enc Try.prog W 0 (fun _ => true) true Try.f7.params.toList args.toList ds p := hA0
  rw [Try.params7] at hA hval hsz
  obtain ⟨v0, vs0, d0, ds0, p0, q0, hargs, rfl, rfl, h0, r0⟩ := trodAll_cons hA
  obtain ⟨v1, vs1, d1, ds1, p1, q1, rfl, rfl, rfl, h1, r1⟩ := trodAll_cons r0
  obtain ⟨v2, vs2, d2, ds2, p2, q2, rfl, rfl, rfl, h2, r2⟩ := trodAll_cons r1
  obtain ⟨v3, vs3, d3, ds3, p3, q3, rfl, rfl, rfl, h3, r3⟩ := trodAll_cons r2
  obtain ⟨rfl, rfl, rfl⟩ := trodAll_nil r3
  obtain rfl : args = #[v0, v1, v2, v3] := by cases args; simp_all
  obtain ⟨rfl, rfl⟩ := trodVars_none hV
  have sz1 : ∀ x ∈ d1.weights Try.prog 22, x ≤ reachBytes := fun x hx => by simpa using List.all_eq_true.1 hsz _ (DataW.weights_mem_each (j := 1) rfl rfl x hx)
  obtain ⟨a0, rfl, rfl, rfl, w0⟩ := open_int Try.underlying3 (hval 0 3 v0 rfl rfl) h0
  have k1 := h1
  have lt1 : ∀ x ∈ p1, x.block < W.heap.size := by obtain ⟨m, hm⟩ := k1; exact DataW.trod_lt m _ _ _ hm
  obtain ⟨a1, len1, cap1, l1, rfl, w1⟩ := open_acts (hval 1 22 v1 rfl rfl) h1 sz1
  obtain ⟨a2, rfl, rfl, rfl, w2⟩ := open_int Try.underlying3 (hval 2 3 v2 rfl rfl) h2
  obtain ⟨a3, len3, cap3, rfl⟩ := okWide_slice Try.underlying32 (hval 3 32 v3 rfl rfl)
  have k3 := h3
  have lt3 : ∀ x ∈ p3, x.block < W.heap.size := by obtain ⟨m, hm⟩ := k3; exact DataW.trod_lt m _ _ _ hm
  obtain ⟨z3, w3⟩ : ∃ zs, IsRow .u8 W a3 len3 cap3 zs := by
    obtain ⟨fuel, hf⟩ := h3
    rcases open_ints Try.underlying32 Try.underlying5 (by kernel_rfl) hf with ⟨hcs, _⟩ | ⟨x, l, c, zs, hcs, _, hl, hm, hz, _, hcell, hwz⟩
    · simp [Value.cells] at hcs
      obtain ⟨rfl, rfl, rfl⟩ := hcs
      exact ⟨[], .inl ⟨rfl, rfl, rfl, rfl⟩⟩
    · simp [Value.cells] at hcs
      obtain ⟨rfl, rfl, rfl⟩ := hcs
      exact ⟨zs, .inr ⟨_, rfl, hl, hm, by simpa using hz, hcell, hwz⟩⟩
  clear hA0 hval0
  refine (walk a0 a1 len1 cap1 l1 a2 a3 len3 cap3 z3 W w0 w1 w2 w3).mono fun e W' ⟨he, bel⟩ => ?_
  subst he
  exact ⟨_, rfl, _, _, _, [], _, [], hW', trodAll_mk1 (shut_bool Try.underlying4 _), (trodAll_cons_mk (shut_int Try.underlying3 w0) (trodAll_cons_mk (Below.trod laidOut (by kernel_rfl) (of_decide_eq_true (by kernel_rfl)) k1 bel lt1) (trodAll_cons_mk (shut_int Try.underlying3 w2) (trodAll_cons_mk (Below.trod laidOut (by kernel_rfl) (of_decide_eq_true (by kernel_rfl)) k3 bel lt3) trodAll_mk0)))), rfl, bel.frame _, fun h => by cases h⟩

theorem over : Rows.diskArmedRow.holds Try.pinned (OpenSpec.ofChange Rows.diskArmedSpec) :=
  OpenClaim.holds_of_wide 7 Try.f7 rfl rfl rfl rfl rfl rfl rfl ⟨rfl, rfl, rfl, rfl, rfl⟩ rfl rfl rfl rfl rfl (by kernel_rfl) Try.func7 (by kernel_rfl)
    (of_decide_eq_true (by kernel_rfl)) (by unfold Func.isWrapper; first | (rw [if_pos (by decide +kernel)]; kernel_rfl) | (rw [if_neg (by decide +kernel)]; exact ⟨rfl, rfl⟩))
    (fun os started H enc _ => lifted os started H enc)

theorem proved : Rows.DiskArmedSaid := over
end Go.Proofs.Ytbkdgciaapkemaa.diskArmed
