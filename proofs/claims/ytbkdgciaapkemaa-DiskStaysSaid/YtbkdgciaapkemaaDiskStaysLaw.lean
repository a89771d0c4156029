/- For any number, any acts and any sector the law DiskStays of citadellaw06 returns true: what was flushed of a sector stays while nothing of it is cached, and an act that is refused changes nothing. Conditions: none beyond those that the statement itself prints. -/
import Derived.Test.YtbkdgciaapkemaaRows
import Derived.Test.YtbkdgciaapkemaaDiskLe
import Derived.SizedLaws
import Derived.WalkKit
import Derived.ProofKit
import Derived.OpenShut
import Derived.ShutString
import Derived.ChangeOld
import Derived.Below
namespace Go.Proofs.Ytbkdgciaapkemaa.diskStays
open Go.ChangeShapes Go.WideShapes Go.ChangeAt Go.RowKit
open Go.ChangeMaps (open_string shut_string)
set_option linter.unusedVariables false
set_option linter.unusedSimpArgs false

theorem own : ownKnob Try.prog.godebug = none := by kernel_rfl
theorem laidOut : laidOutB Try.prog = true := by kernel_rfl

theorem flushed_in {s : DS} {i : Nat} (hi : i < s.L.length) : s.flushed (i : Int) = (secAt s.L i).1 := by
  unfold DS.flushed
  rw [if_neg (by simp only [DS.has, decide_eq_false_iff_not, Classical.not_not]; omega), Int.toNat_natCast]
theorem fst_fall {L : List Sec} {i : Nat} (hi : i < L.length) (hc : (secAt L i).2 = none) (sel : Nat → Bool) : (secAt (fallL sel 0 L) i).1 = (secAt L i).1 := by
  rw [fallL_at sel hi]
  unfold left1
  rw [hc]
theorem act_kept (s : DS) (a : DAct) {i : Nat} (hi : i < s.L.length) (hc : (secAt s.L i).2 = none) : (secAt (s.act a).2.L i).1 = (secAt s.L i).1 := by
  have hp : s.has a.n = true → ∀ b, (secAt (s.put a.n.toNat b).L i).1 = (secAt s.L i).1 := fun h b => by
    simp only [DS.has, decide_eq_true_eq] at h
    show (secAt (s.L.set a.n.toNat _) i).1 = _
    rw [secAt_set (by omega)]
    split
    · rename_i e; rw [e]
    · rfl
  unfold DS.act
  split
  · unfold DS.write
    split
    · rfl
    · split
      · rfl
      · split
        · rfl
        · split
          · exact fst_fall hi hc _
          · rename_i h _ _; exact hp (by simpa using h) _
  · split
    · unfold DS.flush
      split
      · rfl
      · split
        · exact fst_fall hi hc _
        · exact fst_fall hi hc _
    · split
      · unfold DS.crash
        split
        · rfl
        · exact fst_fall hi hc _
      · split
        · unfold DS.arm
          split
          · rfl
          · split <;> rfl
        · split
          · unfold DS.start
            split <;> rfl
          · rfl
theorem act_refused (s : DS) (a : DAct) (h0 : (s.act a).1 ≠ 0) (h60 : (s.act a).1 ≠ 60) : (s.act a).2 = s := by
  unfold DS.act at *
  unfold DS.write DS.flush DS.crash DS.arm DS.start at *
  repeat' split
  all_goals first | rfl | (exfalso; simp_all)
/-- Was one of the first k of them i? -/
def DirtyRel (D : List Nat) (i : Nat) (w6 : World) (v j : Value) (wr : World) : Prop := ∃ k : Nat, k ≤ D.length ∧ j = .int .i64 (k : Int) ∧ v = .bool (decide (i ∈ D.take k)) ∧ w6 = wr
theorem mem_take_succ {D : List Nat} {k i : Nat} (hk : k < D.length) (hn : i ∉ D.take k) : decide ((nx D k : Int) = (i : Int)) = decide (i ∈ D.take (k + 1)) := by
  have e : nx D k = D[k] := by simp [nx, List.getD, List.getElem?_eq_getElem hk]
  rw [List.take_succ_eq_append_getElem hk, e]
  simp only [List.mem_append, hn, false_or, List.mem_singleton]
  by_cases h : D[k] = i
  · simp [h]
  · have h' : ¬ i = D[k] := fun e => h e.symm
    have h2 : ¬ (D[k] : Int) = (i : Int) := by omega
    rw [decide_eq_false h', decide_eq_false h2]
theorem mem_take_still {D : List Nat} {k i : Nat} (hk : k < D.length) (hn : i ∈ D.take k) : i ∈ D.take (k + 1) := by
  rw [List.take_succ_eq_append_getElem hk]
  exact List.mem_append.2 (.inl hn)
set_option maxRecDepth 1000000 in
set_option maxHeartbeats 4000000 in
theorem walk (a0 : Int) (a1 : Option Addr) (len1 cap1 : Nat) (l1 : List DAct) (a2 : Int) (w : World) (w0 : (Lit.int .i64 a0).wf = true) (w1 : RdA w w.heap.size a1 len1 l1 ∧ len1 ≤ cap1 ∧ cap1 * 40 ≤ 140737488351232) (w2 : (Lit.int .i64 a2).wf = true) :
    Calls Try.prog 6 #[.int .i64 a0, .slice a1 len1 cap1, .int .i64 a2] w fun e w' => e = .returned (.bool true) ∧ Below w.heap.size w w' := by
  obtain ⟨r1, hcap1, hcap1'⟩ := w1
  have R := Lib.hid r1
  have HL1 := Lib.hid r1.1
  have HLEN1 : Hid (len1 ≤ 140737488351232) := by show _ ≤ _; omega
  have HCAP : Hid (len1 ≤ cap1) := hcap1
  clear w0 w2 r1 hcap1 hcap1'
  go_enter Try.func6, Try.ntmps6
  go_wp2_with fail
  refine (lAwake w).mono ?_
  rintro e w1 ⟨rfl, hb⟩
  have B1 := Lib.hid hb
  have R1 := Lib.hid (R.out.to hb)
  clear hb
  go_wp2_with fail
  refine (lMade a0 a1 len1 cap1 l1 w1 R1.out HLEN1.out).mono ?_
  rintro e w2 hmade
  rcases hmade with ⟨k0, d, F, rfl, hk1, hk12, hfew, rfl, hd, hf, hb⟩ | ⟨rfl, rfl⟩
  rotate_left 1
  · go_wp2_with fail
    go_ret
    exact ⟨rfl, B1.out⟩
  have M : Hid (Mine w w2 d F (DS.new k0)) := ⟨hd, fun k h => Nat.le_trans B1.out.size (hf k h), B1.out.trans (hb.mono B1.out.size)⟩
  have FEW := Lib.hid hfew
  have HK1 : Hid (1 ≤ k0) := hk1
  have HK12 : Hid (k0 ≤ 12) := hk12
  have hk0I : (k0 : Int) < 13 := by omega
  clear hd hf hb hfew hk1 hk12
  by_cases hi0 : a2 < 0
  · go_wp2_with fail
    go_ret
    exact ⟨rfl, M.out.bel⟩
  by_cases hi1 : a2 ≥ (k0 : Int)
  · go_wp2_with fail
    go_ret
    exact ⟨rfl, M.out.bel⟩
  go_wp2_with fail
  obtain ⟨i, hia⟩ : ∃ i : Nat, a2 = (i : Int) := ⟨a2.toNat, by omega⟩
  have HI : Hid (i < k0) := by show _ < _; omega
  have HIA := Lib.hid hia
  clear hia
  clear hi0 hi1
  go_loopw [9] (fun i wr => DoRel w d k0 len1 i wr) (fun i _ => len1 - (intOf i).toNat)
  case atStart => exact ⟨0, F, _, Nat.zero_le _, rfl, M.out, new_len k0⟩
  case round =>
    clear M
    obtain ⟨k, F1, s, hk, rfl, hm, hlen⟩ := hrel
    have M := Lib.hid hm
    have HLEN := Lib.hid hlen
    have HK : Hid (k ≤ len1) := hk
    clear hm hlen hk
    by_cases hlt : k < len1
    · have HLT : Hid (k < len1) := hlt
      have hkI : (k : Int) < (len1 : Int) := by omega
      have hk301 : (k : Int) < 301 := by have := FEW.out.1; rw [HL1.out] at this; omega
      go_wp2_with fail
      refine (dFlushed d F1 s a2 wr M.out.at_).mono ?_
      rintro e w5 ⟨A1, n1, c1, rfl, hown, hb⟩
      have OF1 := Lib.hid (M.out.off hown)
      have RD1 := Lib.hid (Rd.of_own hown)
      have M5 := Lib.hid (M.out.to hb)
      clear hown hb M
      go_wp2_with fail
      refine (dUp d F1 s w5 M5.out.at_).mono ?_
      rintro e w' ⟨rfl, rfl⟩
      go_wp2_with fail
      refine (dDirty d F1 s w5 M5.out.at_).mono ?_
      rintro e w6 ⟨A2, c2, rfl, hown, hb⟩
      have hmem : i ∉ dirtyL s.L → (secAt s.L i).2 = none := fun hn => by
        cases hs : (secAt s.L i).2 with
        | none => rfl
        | some c => exact absurd ((dirtyL_mem s.L i).2 ⟨by rw [HLEN.out]; exact HI.out, by rw [hs]; rfl⟩) hn
      have hdl : (dirtyL s.L).length ≤ 12 := by
        have := dirtyFrom_le 0 s.L
        have h1 := HLEN.out
        have h2 := HK12.out
        show (dirtyFrom 0 s.L).length ≤ 12
        omega
      have hkept : ∀ act, i ∉ dirtyL s.L → (s.act act).2.flushed a2 = s.flushed a2 := fun act hn => by
        rw [HIA.out, flushed_in (by rw [act_len, HLEN.out]; exact HI.out), flushed_in (by rw [HLEN.out]; exact HI.out)]
        exact act_kept s act (by rw [HLEN.out]; exact HI.out) (hmem hn)
      have KEPT := Lib.hid hkept
      clear hmem hkept
      generalize dirtyL s.L = D at *
      have OWN := Lib.hid hown
      have HDL := Lib.hid hdl
      have RD6 := Lib.hid (RD1.out.to hb)
      have M6 := Lib.hid (M5.out.to hb)
      clear hown hb M5 RD1 hdl
      go_wp2_with fail
      go_loopw [12, 14] (fun v j wr' => DirtyRel D i w6 v j wr') (fun _ j _ => D.length - (intOf j).toNat)
      case atStart => exact ⟨0, Nat.zero_le _, rfl, by simp, rfl⟩
      case round =>
        obtain ⟨k2, hk2, rfl, rfl, rfl⟩ := hrel
        have HK2 : Hid (k2 ≤ D.length) := hk2
        clear hk2
        by_cases hlt2 : k2 < D.length
        · have HLT2 : Hid (k2 < D.length) := hlt2
          obtain ⟨g, rfl, _⟩ := own_head OWN.out (by omega)
          have x0 := own_cellK OWN.out hlt2
          have hk2I : (k2 : Int) < (D.length : Int) := by omega
          have hdI : (D.length : Int) ≤ 12 := by have := HDL.out; omega
          by_cases hin : i ∈ D.take k2
          · have HIN := Lib.hid (mem_take_still hlt2 hin)
            rw [decide_eq_true hin]
            clear hin
            go_wp2_with fail
            go_roundw
            case rel => exact ⟨k2 + 1, HLT2.out, by go_num, by rw [decide_eq_true HIN.out], rfl⟩
            case measure => have := HLT2.out; simp [intOf]; omega
          · have HIN := Lib.hid (mem_take_succ hlt2 hin)
            rw [decide_eq_false hin]
            clear hin
            go_wp2_with fail
            go_roundw
            case rel => exact ⟨k2 + 1, HLT2.out, by go_num, by rw [HIA.out]; exact congrArg Value.bool HIN.out, rfl⟩
            case measure => have := HLT2.out; simp [intOf]; omega
        · obtain rfl : D.length = k2 := by have := HK2.out; omega
          rw [List.take_length]
          have RA := R.out.to M6.out.bel
          obtain ⟨b, o, rfl, hbl, hc⟩ := RA.2 (by omega)
          obtain ⟨A', m', c', h1, h2⟩ := hc k hlt
          have x0 : w6.cell? ⟨b, o + k * 3, none⟩ = some (.int .i64 (l1.getD k DAct.zero).kind) := h1 0 _ rfl
          have x1 : w6.cell? ⟨b, o + k * 3 + 1, none⟩ = some (.int .i64 (l1.getD k DAct.zero).n) := h1 1 _ rfl
          have x2 : w6.cell? ⟨b, o + k * 3 + 2, none⟩ = some (.slice A' m' c') := h1 2 _ rfl
          have HM6 : Hid (m' ≤ 6000) := by show _ ≤ _; rw [← h2.rd.1]; exact FEW.out.2 k (by rw [HL1.out]; exact hlt)
          have HACT := Lib.hid h2
          have HOFF : Hid (Off A' m' F1) := by
            obtain ⟨b2, o2, e2, hb2, hc2⟩ := R.out.2 (by omega)
            obtain ⟨A3, m3, c3, g1, g2⟩ := hc2 k hlt
            injection e2 with e2; injection e2 with e3 e4
            subst e3; subst e4
            have e5 : w6.cell? ⟨b, o + k * 3 + 2, none⟩ = some (.slice A3 m3 c3) := (M6.out.bel.cell (p := ⟨b, o + k * 3 + 2, none⟩) hb2).trans (g1 2 _ rfl)
            rw [x2] at e5
            injection e5 with e5; injection e5 with e6 e7 e8
            subst e6; subst e7; subst e8
            exact M6.out.arg g2.rd
          clear hc h1 h2 RA hbl OWN
          generalize l1.getD k DAct.zero = act at *
          obtain ⟨n', s', hact⟩ : ∃ n s', s.act act = (n, s') := ⟨_, _, rfl⟩
          have hkp := KEPT.out act
          have hrf := act_refused s act
          have hln := act_len s act
          rw [hact] at hkp hrf hln
          have HKP : Hid (i ∉ D → s'.flushed a2 = s.flushed a2) := hkp
          have HREF : Hid (n' ≠ 0 → n' ≠ 60 → s' = s) := hrf
          have HLN : Hid (s'.L.length = k0) := hln.trans HLEN.out
          have HEQ := Lib.hid hact
          clear hkp hrf hln hact KEPT HLEN
          generalize hdb : decide (i ∈ D) = db
          have HDB := Lib.hid hdb
          clear hdb
          go_wp2_with fail
          refine (lDo d F1 s act A' m' c' w6 M6.out.at_ HACT.out HOFF.out HM6.out).mono ?_
          rintro e w7 h6
          obtain ⟨rfl, F2, hd⟩ := h6.get (n := n') (s' := s') M6.out HEQ.out
          have M7 := Lib.hid hd.mine
          have RD7 := Lib.hid (RD6.out.kept hd.keep OF1.out)
          clear hd h6 M6 RD6 HACT HOFF x0 x1 x2 HEQ
          cases db
          rotate_left 1
          · by_cases h0 : n' = 0
            · subst h0
              go_wp2_with fail
              go_roundw
              case rel => exact ⟨k + 1, F2, s', HLT.out, by go_num, M7.out, HLN.out⟩
              case measure => have := HLT.out; simp [intOf]; omega
            by_cases h60 : n' = 60
            · subst h60
              go_wp2_with fail
              go_roundw
              case rel => exact ⟨k + 1, F2, s', HLT.out, by go_num, M7.out, HLN.out⟩
              case measure => have := HLT.out; simp [intOf]; omega
            have hse := HREF.out h0 h60
            have hc := dFlushed d F2 s' a2 w7 M7.out.at_
            rw [show s'.flushed a2 = s.flushed a2 from by rw [hse]] at hc
            have HU : Hid (s'.up = s.up) := by show s'.up = s.up; rw [hse]
            have HC := Lib.hid hc
            clear hc hse
            go_wp2_with fail
            refine HC.out.mono ?_
            rintro e x1 ⟨A4, n4, c4, rfl, hown, hb⟩
            have hs := wSame A4 A1 n4 n1 c4 c1 x1.heap.size _ _ x1 (Rd.of_own hown) (RD7.out.to hb)
            rw [show decide (s.flushed a2 = s.flushed a2) = true from decide_eq_true rfl] at hs
            have HS := Lib.hid hs
            have MX := Lib.hid (M7.out.to hb)
            have hc := dUp d F2 s' x1 MX.out.at_
            rw [HU.out] at hc
            have HC2 := Lib.hid hc
            clear hs hb hown HC hc
            go_wp2_with fail
            refine HS.out.mono ?_
            rintro e x2 ⟨rfl, rfl⟩
            go_wp2_with fail
            refine HC2.out.mono ?_
            rintro e x2 ⟨rfl, rfl⟩
            go_wp2_with fail
            go_roundw
            case rel => exact ⟨k + 1, F2, s', HLT.out, by go_num, MX.out, HLN.out⟩
            case measure => have := HLT.out; simp [intOf]; omega
          · have hin : i ∉ D := of_decide_eq_false HDB.out
            have hc := dFlushed d F2 s' a2 w7 M7.out.at_
            rw [HKP.out hin] at hc
            have HC := Lib.hid hc
            clear hc hin
            go_wp2_with fail
            refine HC.out.mono ?_
            rintro e w8 ⟨A3, n3, c3, rfl, hown, hb⟩
            have hs := wSame A3 A1 n3 n1 c3 c1 w8.heap.size _ _ w8 (Rd.of_own hown) (RD7.out.to hb)
            rw [show decide (s.flushed a2 = s.flushed a2) = true from decide_eq_true rfl] at hs
            have HS := Lib.hid hs
            have M8 := Lib.hid (M7.out.to hb)
            have RD8 := Lib.hid (RD7.out.to hb)
            clear hs hb hown HC M7 RD7
            go_wp2_with fail
            refine HS.out.mono ?_
            rintro e w9 ⟨rfl, rfl⟩
            by_cases h0 : n' = 0
            · subst h0
              go_wp2_with fail
              go_roundw
              case rel => exact ⟨k + 1, F2, s', HLT.out, by go_num, M8.out, HLN.out⟩
              case measure => have := HLT.out; simp [intOf]; omega
            by_cases h60 : n' = 60
            · subst h60
              go_wp2_with fail
              go_roundw
              case rel => exact ⟨k + 1, F2, s', HLT.out, by go_num, M8.out, HLN.out⟩
              case measure => have := HLT.out; simp [intOf]; omega
            have hse := HREF.out h0 h60
            have hc := dFlushed d F2 s' a2 w8 M8.out.at_
            rw [show s'.flushed a2 = s.flushed a2 from by rw [hse]] at hc
            have HU : Hid (s'.up = s.up) := by show s'.up = s.up; rw [hse]
            have HC := Lib.hid hc
            clear hc hse
            go_wp2_with fail
            refine HC.out.mono ?_
            rintro e x1 ⟨A4, n4, c4, rfl, hown, hb⟩
            have hs := wSame A4 A1 n4 n1 c4 c1 x1.heap.size _ _ x1 (Rd.of_own hown) (RD8.out.to hb)
            rw [show decide (s.flushed a2 = s.flushed a2) = true from decide_eq_true rfl] at hs
            have HS := Lib.hid hs
            have MX := Lib.hid (M8.out.to hb)
            have hc := dUp d F2 s' x1 MX.out.at_
            rw [HU.out] at hc
            have HC2 := Lib.hid hc
            clear hs hb hown HC hc
            go_wp2_with fail
            refine HS.out.mono ?_
            rintro e x2 ⟨rfl, rfl⟩
            go_wp2_with fail
            refine HC2.out.mono ?_
            rintro e x2 ⟨rfl, rfl⟩
            go_wp2_with fail
            go_roundw
            case rel => exact ⟨k + 1, F2, s', HLT.out, by go_num, MX.out, HLN.out⟩
            case measure => have := HLT.out; simp [intOf]; omega
    · obtain rfl : k = len1 := by have := HK.out; omega
      go_wp2_with fail
      go_ret
      exact ⟨rfl, M.out.bel⟩

set_option maxRecDepth 100000 in
theorem lifted (os : Os) (started : os.Started) (H : Type) (enc : TypeId × Value → H) :
    ReturnsInHanded {} Try.checked os 6 .any (Rows.diskStaysSpec.pre6 enc Try.prog Try.f6 Rows.diskStaysRow.domain false) (Rows.diskStaysSpec.post enc Try.prog Try.f6 false true false false) := by
  refine returnsInHanded_of_change_sized (C := Try.checked) own started (by kernel_rfl) Try.func6
    (ChangeSpec.witness6 (enc := enc) (C := Try.checked) false ⟨#[], #[.int .i64 0, .slice none 0 0, .int .i64 0], []⟩ 8 (by kernel_rfl) (by kernel_rfl) (by kernel_rfl) (by kernel_rfl)) ?_
  intro W base args ds gs before hval0 hW hcnd hsz0 _
  have hval : ∀ (j : Nat) t v, Try.f6.params[j]? = some t → args[j]? = some v → Value.okWide Try.prog W .any base t v := hval0
  have hsz : (DataW.weightsEach Try.prog (Try.f6.params.toList ++ Rows.diskStaysSpec.plain.varTypes Try.prog) (ds ++ gs)).all (· ≤ reachBytes) = true := hsz0
  have hW' := hW
  obtain ⟨p, q, hA0, hV, rfl, hfz, hnd⟩ := hW
  have hA : DataW.TrodAll enc Try.prog W 0 (fun _ => true) true Try.f6.params.toList args.toList ds p := hA0
  rw [Try.params6] at hA hval hsz
  obtain ⟨v0, vs0, d0, ds0, p0, q0, hargs, rfl, rfl, h0, r0⟩ := trodAll_cons hA
  obtain ⟨v1, vs1, d1, ds1, p1, q1, rfl, rfl, rfl, h1, r1⟩ := trodAll_cons r0
  obtain ⟨v2, vs2, d2, ds2, p2, q2, rfl, rfl, rfl, h2, r2⟩ := trodAll_cons r1
  obtain ⟨rfl, rfl, rfl⟩ := trodAll_nil r2
  obtain rfl : args = #[v0, v1, v2] := by cases args; simp_all
  obtain ⟨rfl, rfl⟩ := trodVars_none hV
  have sz1 : ∀ x ∈ d1.weights Try.prog 22, x ≤ reachBytes := fun x hx => by simpa using List.all_eq_true.1 hsz _ (DataW.weights_mem_each (j := 1) rfl rfl x hx)
  obtain ⟨a0, rfl, rfl, rfl, w0⟩ := open_int Try.underlying3 (hval 0 3 v0 rfl rfl) h0
  have k1 := h1
  have lt1 : ∀ x ∈ p1, x.block < W.heap.size := by obtain ⟨m, hm⟩ := k1; exact DataW.trod_lt m _ _ _ hm
  obtain ⟨a1, len1, cap1, l1, rfl, w1⟩ := open_acts (hval 1 22 v1 rfl rfl) h1 sz1
  obtain ⟨a2, rfl, rfl, rfl, w2⟩ := open_int Try.underlying3 (hval 2 3 v2 rfl rfl) h2
  clear hA0 hval0
  refine (walk a0 a1 len1 cap1 l1 a2 W w0 w1 w2).mono fun e W' ⟨he, bel⟩ => ?_
  subst he
  exact ⟨_, rfl, _, _, _, [], _, [], hW', trodAll_mk1 (shut_bool Try.underlying4 _), (trodAll_cons_mk (shut_int Try.underlying3 w0) (trodAll_cons_mk (Below.trod laidOut (by kernel_rfl) (of_decide_eq_true (by kernel_rfl)) k1 bel lt1) (trodAll_cons_mk (shut_int Try.underlying3 w2) trodAll_mk0))), rfl, bel.frame _, fun h => by cases h⟩

theorem over : Rows.diskStaysRow.holds Try.pinned (OpenSpec.ofChange Rows.diskStaysSpec) :=
  OpenClaim.holds_of_wide 6 Try.f6 rfl rfl rfl rfl rfl rfl rfl ⟨rfl, rfl, rfl, rfl, rfl⟩ rfl rfl rfl rfl rfl (by kernel_rfl) Try.func6 (by kernel_rfl)
    (of_decide_eq_true (by kernel_rfl)) (by unfold Func.isWrapper; first | (rw [if_pos (by decide +kernel)]; kernel_rfl) | (rw [if_neg (by decide +kernel)]; exact ⟨rfl, rfl⟩))
    (fun os started H enc _ => lifted os started H enc)

theorem proved : Rows.DiskStaysSaid := over
end Go.Proofs.Ytbkdgciaapkemaa.diskStays
