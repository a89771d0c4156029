/- For any number, any acts, any sector and byte the law DiskReads of citadellaw06 returns true: a sector of the program's disk is read as it was written last, others are as they were. Conditions: none beyond those that the statement itself prints. -/
import Derived.Test.YtbkdgciaapkemaaRows
import Derived.Test.YtbkdgciaapkemaaDiskLe
import Derived.SizedLaws
import Derived.WalkKit
import Derived.ProofKit
import Derived.OpenShut
import Derived.ShutString
import Derived.ChangeOld
import Derived.Below
namespace Go.Proofs.Ytbkdgciaapkemaa.diskReads
open Go.ChangeShapes Go.WideShapes Go.ChangeAt Go.RowKit
open Go.ChangeMaps (open_string shut_string)
set_option linter.unusedVariables false
set_option linter.unusedSimpArgs false

theorem own : ownKnob Try.prog.godebug = none := by kernel_rfl
theorem laidOut : laidOutB Try.prog = true := by kernel_rfl

/-- What was read of the first k sectors. -/
def WasRel (w : World) (s : DS) (n : Nat) (v i : Value) (wr : World) (d : Nat) (F : Nat → Prop) : Prop :=
  ∃ (k : Nat) (G : Nat → Prop), k ≤ n ∧ i = .int .i64 (k : Int) ∧ RowsN wr w.heap.size k v (fun j => Sec.now (secAt s.L j)) G ∧ (∀ j, G j → ¬ F j) ∧ Mine w wr d F s
def LookRel (w : World) (s s' : DS) (n : Nat) (v i : Value) (wr : World) (d : Nat) (F G : Nat → Prop) : Prop :=
  ∃ k : Nat, k ≤ n ∧ i = .int .i64 (k : Int) ∧ RowsN wr w.heap.size n v (fun j => Sec.now (secAt s.L j)) G ∧ Mine w wr d F s'
theorem read_up {s : DS} (hu : s.up = true) {k : Nat} (hk : k < s.L.length) : s.read (k : Int) = (Sec.now (secAt s.L k), 0) := by
  unfold DS.read
  rw [if_neg (by rw [hu]; decide), if_neg (by simp only [DS.has, decide_eq_false_iff_not, Classical.not_not]; omega), Int.toNat_natCast]
theorem write_up {s : DS} (hu : s.up = true) {k : Nat} (hk : k < s.L.length) {b : List UInt8} (hb : b.length = 64) : s.write (k : Int) b = if s.left = 1 then (60, s.fall (selB s.stay)) else (0, s.put k b) := by
  unfold DS.write
  rw [if_neg (by rw [hu]; decide), if_neg (by simp only [DS.has, decide_eq_false_iff_not, Classical.not_not]; omega), if_neg (by omega), Int.toNat_natCast]
theorem put_at {s : DS} {i j : Nat} (hi : i < s.L.length) (b : List UInt8) : Sec.now (secAt (s.put i b).L j) = if i = j then b else Sec.now (secAt s.L j) := by
  show Sec.now (secAt (s.L.set i _) j) = _
  rw [secAt_set hi]
  split <;> rfl
set_option maxRecDepth 1000000 in
set_option maxHeartbeats 4000000 in
theorem walk (a0 : Int) (a1 : Option Addr) (len1 cap1 : Nat) (l1 : List DAct) (a2 : Int) (a3 : Int) (w : World) (w0 : (Lit.int .i64 a0).wf = true) (w1 : RdA w w.heap.size a1 len1 l1 ∧ len1 ≤ cap1 ∧ cap1 * 40 ≤ 140737488351232) (w2 : (Lit.int .i64 a2).wf = true) (w3 : (Lit.int .u8 a3).wf = true) :
    Calls Try.prog 8 #[.int .i64 a0, .slice a1 len1 cap1, .int .i64 a2, .int .u8 a3] w fun e w' => e = .returned (.bool true) ∧ Below w.heap.size w w' := by
  obtain ⟨r1, hcap1, hcap1'⟩ := w1
  have R := Lib.hid r1
  have HW3 := wf_u8 w3
  obtain ⟨x, rfl⟩ := u8_of HW3.1 HW3.2
  have HL1 := Lib.hid r1.1
  have HLEN1 : Hid (len1 ≤ 140737488351232) := by show _ ≤ _; omega
  have HCAP : Hid (len1 ≤ cap1) := hcap1
  clear w0 w2 w3 r1 HW3 hcap1 hcap1'
  go_enter Try.func8, Try.ntmps8
  go_wp2_with fail
  refine (lAwake w).mono ?_
  rintro e w1 ⟨rfl, hb⟩
  have B1 := Lib.hid hb
  have R1 := Lib.hid (R.out.to hb)
  clear hb
  go_wp2_with fail
  refine (lMade a0 a1 len1 cap1 l1 w1 R1.out HLEN1.out).mono ?_
  rintro e w2 hmade
  rcases hmade with ⟨k0, d, F, rfl, hk1, hk12, hfew, rfl, hd, hf, hb⟩ | ⟨rfl, rfl⟩
  rotate_left 1
  · go_wp2_with fail
    go_ret
    exact ⟨rfl, B1.out⟩
  have M : Hid (Mine w w2 d F (DS.new k0)) := ⟨hd, fun k h => Nat.le_trans B1.out.size (hf k h), B1.out.trans (hb.mono B1.out.size)⟩
  have FEW := Lib.hid hfew
  have HK1 : Hid (1 ≤ k0) := hk1
  have HK12 : Hid (k0 ≤ 12) := hk12
  have hk0I : (k0 : Int) < 13 := by omega
  clear hd hf hb hfew hk1 hk12
  by_cases hi0 : a2 < 0
  · go_wp2_with fail
    go_ret
    exact ⟨rfl, M.out.bel⟩
  by_cases hi1 : a2 ≥ (k0 : Int)
  · go_wp2_with fail
    go_ret
    exact ⟨rfl, M.out.bel⟩
  go_wp2_with fail
  obtain ⟨i, hia⟩ : ∃ i : Nat, a2 = (i : Int) := ⟨a2.toNat, by omega⟩
  have HI : Hid (i < k0) := by show _ < _; omega
  have HIA := Lib.hid hia
  clear hia
  clear hi0 hi1
  go_loopw [11] (fun i wr => DoRel w d k0 len1 i wr) (fun i _ => len1 - (intOf i).toNat)
  case atStart => exact ⟨0, F, _, Nat.zero_le _, rfl, M.out, new_len k0⟩
  case round =>
    clear M
    obtain ⟨k, F1, s, hk, rfl, hm, hlen⟩ := hrel
    have M := Lib.hid hm
    have HLEN := Lib.hid hlen
    have HK : Hid (k ≤ len1) := hk
    clear hm hlen hk
    by_cases hlt : k < len1
    · have HLT : Hid (k < len1) := hlt
      have RA := R.out.to M.out.bel
      obtain ⟨b, o, rfl, hbl, hc⟩ := RA.2 (by omega)
      obtain ⟨A', m', c', h1, h2⟩ := hc k hlt
      have x0 : wr.cell? ⟨b, o + k * 3, none⟩ = some (.int .i64 (l1.getD k DAct.zero).kind) := h1 0 _ rfl
      have x1 : wr.cell? ⟨b, o + k * 3 + 1, none⟩ = some (.int .i64 (l1.getD k DAct.zero).n) := h1 1 _ rfl
      have x2 : wr.cell? ⟨b, o + k * 3 + 2, none⟩ = some (.slice A' m' c') := h1 2 _ rfl
      have HM6 : Hid (m' ≤ 6000) := by show _ ≤ _; rw [← h2.rd.1]; exact FEW.out.2 k (by rw [HL1.out]; exact hlt)
      have HACT := Lib.hid h2
      have HOFF : Hid (Off A' m' F1) := by
        obtain ⟨b2, o2, e2, hb2, hc2⟩ := R.out.2 (by omega)
        obtain ⟨A2, m2, c2, g1, g2⟩ := hc2 k hlt
        injection e2 with e2; injection e2 with e3 e4
        subst e3; subst e4
        have e5 : wr.cell? ⟨b, o + k * 3 + 2, none⟩ = some (.slice A2 m2 c2) := (M.out.bel.cell (p := ⟨b, o + k * 3 + 2, none⟩) hb2).trans (g1 2 _ rfl)
        rw [x2] at e5
        injection e5 with e5; injection e5 with e6 e7 e8
        subst e6; subst e7; subst e8
        exact M.out.arg g2.rd
      clear hc h1 h2 RA hbl
      generalize l1.getD k DAct.zero = act at *
      have hkI : (k : Int) < (len1 : Int) := by omega
      have hk301 : (k : Int) < 301 := by have := FEW.out.1; rw [HL1.out] at this; omega
      go_wp2_with fail
      refine (lDo d F1 s act A' m' c' wr M.out.at_ HACT.out HOFF.out HM6.out).mono ?_
      rintro e w4 h6
      obtain ⟨rfl, F2, hd⟩ := h6.get (n := (s.act act).1) (s' := (s.act act).2) M.out rfl
      have M2 := Lib.hid hd.mine
      clear hd h6
      go_wp2_with fail
      go_roundw
      case rel => exact ⟨k + 1, F2, _, HLT.out, by go_num, M2.out, by rw [act_len]; exact HLEN.out⟩
      case measure => have := HLT.out; simp [intOf]; omega
    · obtain rfl : k = len1 := by have := HK.out; omega
      go_wp2_with fail
      have hup := dUp d F1 s wr M.out.at_
      have hst : s.up = true ∨ s.up = false := by cases s.up <;> simp
      rcases hst with hu | hu
      rotate_left 1
      · rw [hu] at hup
        refine hup.mono ?_
        rintro e w4 ⟨rfl, rfl⟩
        have HSU := Lib.hid hu
        clear hup hu
        go_wp2_with fail
        refine (dStart d F1 s wr M.out.at_).mono ?_
        rintro e w4 h6
        obtain ⟨rfl, F2, hd⟩ := h6.get (n := 0) (s' := ⟨s.L, true, s.left, s.stay⟩) M.out (by unfold DS.start; rw [if_neg (by rw [HSU.out]; decide)])
        have M2 := Lib.hid hd.mine
        have HU : Hid ((⟨s.L, true, s.left, s.stay⟩ : DS).up = true) := rfl
        have HL2 : Hid ((⟨s.L, true, s.left, s.stay⟩ : DS).L.length = k0) := HLEN.out
        clear hd h6 HSU M HLEN
        generalize (⟨s.L, true, s.left, s.stay⟩ : DS) = s2 at *
        go_wp2_with fail
        clear HK
        go_loopw [12, 13] (fun v i wr => WasRel w s2 k0 v i wr d F2) (fun _ i _ => k0 - (intOf i).toNat)
        case atStart => exact ⟨0, fun _ => False, Nat.zero_le _, rfl, RowsN.nil _ _ _, fun _ h => h.elim, M2.out⟩
        case round =>
          clear M2
          obtain ⟨k, G, hk, rfl, hown, hG, hm⟩ := hrel
          have M := Lib.hid hm
          have OWN := Lib.hid hown
          have HG := Lib.hid hG
          have HK : Hid (k ≤ k0) := hk
          clear hm hown hG hk
          by_cases hlt : k < k0
          · have HLT : Hid (k < k0) := hlt
            have hc := dRead d F2 s2 k wr M.out.at_
            rw [read_up HU.out (by rw [HL2.out]; exact hlt)] at hc
            have HC := Lib.hid hc
            clear hc
            go_wp2_with fail
            refine HC.out.mono ?_
            rintro e w5 ⟨A, m, c, rfl, hrow, hbl⟩
            have ROW := Lib.hid hrow
            have BL := Lib.hid hbl
            clear hrow hbl HC
            go_wp2_with (at_builtin; refine wpList_pushN (k := k) (f := fun j => Sec.now (secAt s2.L j)) (G := G) (A := A) (n := m) (c := c) rfl (.tmp 68) (.tmp 70) rfl rfl rfl OWN.out BL.out ROW.out M.out.bel.size (by have := HLT.out; have := HK12.out; omega) ?_; intro v' w6 G' hown' hG' hkeep)
            have M6 := Lib.hid ((M.out.to BL.out).kept hkeep fun j hj => ⟨OWN.out.2 j hj, HG.out j hj⟩)
            have OWN6 := Lib.hid hown'
            have HG6 : Hid (∀ j, G' j → ¬ F2 j) := fun j hj hf => (hG' j hj).elim (fun h => HG.out j h hf) (fun h => by have := M.out.at_.lt j hf; omega)
            clear hown' hG' hkeep
            go_wp2_with fail
            go_roundw
            case rel => exact ⟨k + 1, G', HLT.out, by go_num, OWN6.out, HG6.out, M6.out⟩
            case measure => have := HLT.out; simp [intOf]; omega
          · obtain rfl : k0 = k := by have := HK.out; omega
            go_wp2_with fail
            refine (lFill x wr).mono ?_
            rintro e w5 ⟨A, m, c, rfl, hrow, hbl⟩
            have M5 := Lib.hid (M.out.to hbl)
            have OWN5 := Lib.hid (OWN.out.to hbl)
            have hc := dWrite d F2 s2 a2 A m c _ w5 M5.out.at_ (Rd.of_own hrow) (M.out.off hrow)
            have hfx : (List.replicate 64 x).length = 64 := rfl
            rw [HIA.out, write_up HU.out (by rw [HL2.out]; exact HI.out) hfx, ← HIA.out] at hc
            generalize hgx : List.replicate 64 x = fx at hc hfx
            have HC := Lib.hid hc
            have HFX := Lib.hid hgx
            clear hc hrow hbl M OWN hfx hgx
            by_cases hleft : (s2).left = 1
            · rw [if_pos hleft] at HC
              go_wp2_with fail
              refine HC.out.mono ?_
              rintro e w6 h6
              obtain ⟨rfl, F7, hd⟩ := h6.get (n := 60) (s' := (s2).fall (selB (s2).stay)) M5.out rfl
              have M7 := Lib.hid hd.mine
              clear hd h6 HC
              go_wp2_with fail
              refine (dUp d F7 _ w6 M7.out.at_).mono ?_
              rintro e w8 ⟨rfl, rfl⟩
              rw [show ((s2).fall (selB (s2).stay)).up = false from rfl]
              go_wp2_with fail
              go_ret
              exact ⟨rfl, M7.out.bel⟩
            · rw [if_neg hleft] at HC
              go_wp2_with fail
              refine HC.out.mono ?_
              rintro e w6 h6
              obtain ⟨rfl, F7, hd⟩ := h6.get (n := 0) (s' := (s2).put i fx) M5.out rfl
              have M7 := Lib.hid hd.mine
              have OWN7 := Lib.hid (OWN5.out.kept hd.keep HG.out)
              clear hd h6 HC hleft
              go_wp2_with fail
              have HUP : Hid (((s2).put i fx).up = true) := HU.out
              have HLP : Hid (((s2).put i fx).L.length = k0) := by show _ = _; rw [← HL2.out]; exact List.length_set
              have HIL : Hid (i < (s2).L.length) := by show _ < _; rw [HL2.out]; exact HI.out
              obtain ⟨g, cap, A0, n0, c0, rfl, _, _⟩ := OWN7.out.at_ (j := 0) (by have := HK1.out; omega)
              go_loopw [17] (fun q wr => LookRel w (s2) ((s2).put i fx) k0 (.slice (some ⟨g, 0, none⟩) k0 cap) q wr d F7 G) (fun q _ => k0 - (intOf q).toNat)
              case atStart => exact ⟨0, Nat.zero_le _, rfl, OWN7.out, M7.out⟩
              case round =>
                clear M7 OWN7 OWN5 M5 HG
                obtain ⟨k, hk, rfl, hown, hm⟩ := hrel
                have M := Lib.hid hm
                have OWN := Lib.hid hown
                have HK : Hid (k ≤ k0) := hk
                clear hm hown hk
                by_cases hlt : k < k0
                · have HLT : Hid (k < k0) := hlt
                  have hc := dRead d F7 ((s2).put i fx) k wr M.out.at_
                  rw [read_up HUP.out (by rw [HLP.out]; exact hlt), put_at HIL.out] at hc
                  by_cases hki0 : (k : Int) = a2
                  · rw [if_pos (by have := HIA.out; omega)] at hc
                    have hki : decide ((k : Int) = a2) = true := decide_eq_true hki0
                    clear hki0
                    have HC := Lib.hid hc
                    clear hc
                    go_wp2_with fail
                    refine HC.out.mono ?_
                    rintro e w5 ⟨A, m, c, rfl, hrow, hbl⟩
                    obtain ⟨g', cap', A1, n1, c1, heq, x0, hw0⟩ := (OWN.out.to hbl).at_ hlt
                    injection heq with heq _ heq2
                    injection heq with heq
                    injection heq with heq _ _
                    subst heq heq2
                    have ROW := Lib.hid (Rd.of_own hrow)
                    have M5 := Lib.hid (M.out.to hbl)
                    have OWN5 := Lib.hid (OWN.out.to hbl)
                    clear hrow hbl HC M OWN hw0
                    go_wp2_with fail
                    rotate_left 1
                    · exfalso; have := of_decide_eq_true hki; first | omega | simp_all
                    refine (lFill x w5).mono ?_
                    rintro e w6 ⟨A2, m2, c2, rfl, hrow, hbl⟩
                    rw [HFX.out] at hrow
                    have hs := wSame A A2 m m2 c c2 w6.heap.size fx fx w6 (ROW.out.to hbl) (Rd.of_own hrow)
                    rw [show decide (fx = fx) = true from decide_eq_true rfl] at hs
                    have HS := Lib.hid hs
                    have M6 := Lib.hid (M5.out.to hbl)
                    have OWN6 := Lib.hid (OWN5.out.to hbl)
                    clear hs hbl hrow M5 OWN5 ROW x0
                    go_wp2_with fail
                    refine HS.out.mono ?_
                    rintro e w7 ⟨rfl, rfl⟩
                    go_wp2_with fail
                    go_roundw
                    case rel => exact ⟨k + 1, HLT.out, by go_num, OWN6.out, M6.out⟩
                    case measure => have := HLT.out; simp [intOf]; omega
                  · rw [if_neg (by have := HIA.out; omega)] at hc
                    have HC := Lib.hid hc
                    clear hc
                    go_wp2_with fail
                    refine HC.out.mono ?_
                    rintro e w5 ⟨A, m, c, rfl, hrow, hbl⟩
                    obtain ⟨g', cap', A1, n1, c1, heq, x0, hw0⟩ := (OWN.out.to hbl).at_ hlt
                    injection heq with heq _ heq2
                    injection heq with heq
                    injection heq with heq _ _
                    subst heq heq2
                    have hs := wSame A A1 m n1 c c1 w5.heap.size _ _ w5 (Rd.of_own hrow) hw0
                    rw [show decide (Sec.now (secAt (s2).L k) = Sec.now (secAt (s2).L k)) = true from decide_eq_true rfl] at hs
                    have HS := Lib.hid hs
                    have M6 := Lib.hid (M.out.to hbl)
                    have OWN6 := Lib.hid (OWN.out.to hbl)
                    clear hs hbl hrow hw0 M OWN HC
                    go_wp2_with fail
                    refine HS.out.mono ?_
                    rintro e w7 ⟨rfl, rfl⟩
                    go_wp2_with fail
                    go_roundw
                    case rel => exact ⟨k + 1, HLT.out, by go_num, OWN6.out, M6.out⟩
                    case measure => have := HLT.out; simp [intOf]; omega
                · obtain rfl : k0 = k := by have := HK.out; omega
                  go_wp2_with fail
                  go_ret
                  exact ⟨rfl, M.out.bel⟩
      · rw [hu] at hup
        refine hup.mono ?_
        rintro e w4 ⟨rfl, rfl⟩
        have HU := Lib.hid hu
        clear hup hu
        go_wp2_with fail
        clear HK
        go_loopw [12, 13] (fun v i wr => WasRel w s k0 v i wr d F1) (fun _ i _ => k0 - (intOf i).toNat)
        case atStart => exact ⟨0, fun _ => False, Nat.zero_le _, rfl, RowsN.nil _ _ _, fun _ h => h.elim, M.out⟩
        case round =>
          clear M
          obtain ⟨k, G, hk, rfl, hown, hG, hm⟩ := hrel
          have M := Lib.hid hm
          have OWN := Lib.hid hown
          have HG := Lib.hid hG
          have HK : Hid (k ≤ k0) := hk
          clear hm hown hG hk
          by_cases hlt : k < k0
          · have HLT : Hid (k < k0) := hlt
            have hc := dRead d F1 s k wr M.out.at_
            rw [read_up HU.out (by rw [HLEN.out]; exact hlt)] at hc
            have HC := Lib.hid hc
            clear hc
            go_wp2_with fail
            refine HC.out.mono ?_
            rintro e w5 ⟨A, m, c, rfl, hrow, hbl⟩
            have ROW := Lib.hid hrow
            have BL := Lib.hid hbl
            clear hrow hbl HC
            go_wp2_with (at_builtin; refine wpList_pushN (k := k) (f := fun j => Sec.now (secAt s.L j)) (G := G) (A := A) (n := m) (c := c) rfl (.tmp 68) (.tmp 70) rfl rfl rfl OWN.out BL.out ROW.out M.out.bel.size (by have := HLT.out; have := HK12.out; omega) ?_; intro v' w6 G' hown' hG' hkeep)
            have M6 := Lib.hid ((M.out.to BL.out).kept hkeep fun j hj => ⟨OWN.out.2 j hj, HG.out j hj⟩)
            have OWN6 := Lib.hid hown'
            have HG6 : Hid (∀ j, G' j → ¬ F1 j) := fun j hj hf => (hG' j hj).elim (fun h => HG.out j h hf) (fun h => by have := M.out.at_.lt j hf; omega)
            clear hown' hG' hkeep
            go_wp2_with fail
            go_roundw
            case rel => exact ⟨k + 1, G', HLT.out, by go_num, OWN6.out, HG6.out, M6.out⟩
            case measure => have := HLT.out; simp [intOf]; omega
          · obtain rfl : k0 = k := by have := HK.out; omega
            go_wp2_with fail
            refine (lFill x wr).mono ?_
            rintro e w5 ⟨A, m, c, rfl, hrow, hbl⟩
            have M5 := Lib.hid (M.out.to hbl)
            have OWN5 := Lib.hid (OWN.out.to hbl)
            have hc := dWrite d F1 s a2 A m c _ w5 M5.out.at_ (Rd.of_own hrow) (M.out.off hrow)
            have hfx : (List.replicate 64 x).length = 64 := rfl
            rw [HIA.out, write_up HU.out (by rw [HLEN.out]; exact HI.out) hfx, ← HIA.out] at hc
            generalize hgx : List.replicate 64 x = fx at hc hfx
            have HC := Lib.hid hc
            have HFX := Lib.hid hgx
            clear hc hrow hbl M OWN hfx hgx
            by_cases hleft : (s).left = 1
            · rw [if_pos hleft] at HC
              go_wp2_with fail
              refine HC.out.mono ?_
              rintro e w6 h6
              obtain ⟨rfl, F7, hd⟩ := h6.get (n := 60) (s' := (s).fall (selB (s).stay)) M5.out rfl
              have M7 := Lib.hid hd.mine
              clear hd h6 HC
              go_wp2_with fail
              refine (dUp d F7 _ w6 M7.out.at_).mono ?_
              rintro e w8 ⟨rfl, rfl⟩
              rw [show ((s).fall (selB (s).stay)).up = false from rfl]
              go_wp2_with fail
              go_ret
              exact ⟨rfl, M7.out.bel⟩
            · rw [if_neg hleft] at HC
              go_wp2_with fail
              refine HC.out.mono ?_
              rintro e w6 h6
              obtain ⟨rfl, F7, hd⟩ := h6.get (n := 0) (s' := (s).put i fx) M5.out rfl
              have M7 := Lib.hid hd.mine
              have OWN7 := Lib.hid (OWN5.out.kept hd.keep HG.out)
              clear hd h6 HC hleft
              go_wp2_with fail
              have HUP : Hid (((s).put i fx).up = true) := HU.out
              have HLP : Hid (((s).put i fx).L.length = k0) := by show _ = _; rw [← HLEN.out]; exact List.length_set
              have HIL : Hid (i < (s).L.length) := by show _ < _; rw [HLEN.out]; exact HI.out
              obtain ⟨g, cap, A0, n0, c0, rfl, _, _⟩ := OWN7.out.at_ (j := 0) (by have := HK1.out; omega)
              go_loopw [17] (fun q wr => LookRel w (s) ((s).put i fx) k0 (.slice (some ⟨g, 0, none⟩) k0 cap) q wr d F7 G) (fun q _ => k0 - (intOf q).toNat)
              case atStart => exact ⟨0, Nat.zero_le _, rfl, OWN7.out, M7.out⟩
              case round =>
                clear M7 OWN7 OWN5 M5 HG
                obtain ⟨k, hk, rfl, hown, hm⟩ := hrel
                have M := Lib.hid hm
                have OWN := Lib.hid hown
                have HK : Hid (k ≤ k0) := hk
                clear hm hown hk
                by_cases hlt : k < k0
                · have HLT : Hid (k < k0) := hlt
                  have hc := dRead d F7 ((s).put i fx) k wr M.out.at_
                  rw [read_up HUP.out (by rw [HLP.out]; exact hlt), put_at HIL.out] at hc
                  by_cases hki0 : (k : Int) = a2
                  · rw [if_pos (by have := HIA.out; omega)] at hc
                    have hki : decide ((k : Int) = a2) = true := decide_eq_true hki0
                    clear hki0
                    have HC := Lib.hid hc
                    clear hc
                    go_wp2_with fail
                    refine HC.out.mono ?_
                    rintro e w5 ⟨A, m, c, rfl, hrow, hbl⟩
                    obtain ⟨g', cap', A1, n1, c1, heq, x0, hw0⟩ := (OWN.out.to hbl).at_ hlt
                    injection heq with heq _ heq2
                    injection heq with heq
                    injection heq with heq _ _
                    subst heq heq2
                    have ROW := Lib.hid (Rd.of_own hrow)
                    have M5 := Lib.hid (M.out.to hbl)
                    have OWN5 := Lib.hid (OWN.out.to hbl)
                    clear hrow hbl HC M OWN hw0
                    go_wp2_with fail
                    rotate_left 1
                    · exfalso; have := of_decide_eq_true hki; first | omega | simp_all
                    refine (lFill x w5).mono ?_
                    rintro e w6 ⟨A2, m2, c2, rfl, hrow, hbl⟩
                    rw [HFX.out] at hrow
                    have hs := wSame A A2 m m2 c c2 w6.heap.size fx fx w6 (ROW.out.to hbl) (Rd.of_own hrow)
                    rw [show decide (fx = fx) = true from decide_eq_true rfl] at hs
                    have HS := Lib.hid hs
                    have M6 := Lib.hid (M5.out.to hbl)
                    have OWN6 := Lib.hid (OWN5.out.to hbl)
                    clear hs hbl hrow M5 OWN5 ROW x0
                    go_wp2_with fail
                    refine HS.out.mono ?_
                    rintro e w7 ⟨rfl, rfl⟩
                    go_wp2_with fail
                    go_roundw
                    case rel => exact ⟨k + 1, HLT.out, by go_num, OWN6.out, M6.out⟩
                    case measure => have := HLT.out; simp [intOf]; omega
                  · rw [if_neg (by have := HIA.out; omega)] at hc
                    have HC := Lib.hid hc
                    clear hc
                    go_wp2_with fail
                    refine HC.out.mono ?_
                    rintro e w5 ⟨A, m, c, rfl, hrow, hbl⟩
                    obtain ⟨g', cap', A1, n1, c1, heq, x0, hw0⟩ := (OWN.out.to hbl).at_ hlt
                    injection heq with heq _ heq2
                    injection heq with heq
                    injection heq with heq _ _
                    subst heq heq2
                    have hs := wSame A A1 m n1 c c1 w5.heap.size _ _ w5 (Rd.of_own hrow) hw0
                    rw [show decide (Sec.now (secAt (s).L k) = Sec.now (secAt (s).L k)) = true from decide_eq_true rfl] at hs
                    have HS := Lib.hid hs
                    have M6 := Lib.hid (M.out.to hbl)
                    have OWN6 := Lib.hid (OWN.out.to hbl)
                    clear hs hbl hrow hw0 M OWN HC
                    go_wp2_with fail
                    refine HS.out.mono ?_
                    rintro e w7 ⟨rfl, rfl⟩
                    go_wp2_with fail
                    go_roundw
                    case rel => exact ⟨k + 1, HLT.out, by go_num, OWN6.out, M6.out⟩
                    case measure => have := HLT.out; simp [intOf]; omega
                · obtain rfl : k0 = k := by have := HK.out; omega
                  go_wp2_with fail
                  go_ret
                  exact ⟨rfl, M.out.bel⟩

set_option maxRecDepth 100000 in
theorem lifted (os : Os) (started : os.Started) (H : Type) (enc : TypeId × Value → H) :
    ReturnsInHanded {} Try.checked os 8 .any (Rows.diskReadsSpec.pre6 enc Try.prog Try.f8 Rows.diskReadsRow.domain false) (Rows.diskReadsSpec.post enc Try.prog Try.f8 false true false false) := by
  refine returnsInHanded_of_change_sized (C := Try.checked) own started (by kernel_rfl) Try.func8
    (ChangeSpec.witness6 (enc := enc) (C := Try.checked) false ⟨#[], #[.int .i64 0, .slice none 0 0, .int .i64 0, .int .u8 0], []⟩ 8 (by kernel_rfl) (by kernel_rfl) (by kernel_rfl) (by kernel_rfl)) ?_
  intro W base args ds gs before hval0 hW hcnd hsz0 _
  have hval : ∀ (j : Nat) t v, Try.f8.params[j]? = some t → args[j]? = some v → Value.okWide Try.prog W .any base t v := hval0
  have hsz : (DataW.weightsEach Try.prog (Try.f8.params.toList ++ Rows.diskReadsSpec.plain.varTypes Try.prog) (ds ++ gs)).all (· ≤ reachBytes) = true := hsz0
  have hW' := hW
  obtain ⟨p, q, hA0, hV, rfl, hfz, hnd⟩ := hW
  have hA : DataW.TrodAll enc Try.prog W 0 (fun _ => true) true Try.f8.params.toList args.toList ds p := hA0
  rw [Try.params8] at hA hval hsz
  obtain ⟨v0, vs0, d0, ds0, p0, q0, hargs, rfl, rfl, h0, r0⟩ := trodAll_cons hA
  obtain ⟨v1, vs1, d1, ds1, p1, q1, rfl, rfl, rfl, h1, r1⟩ := trodAll_cons r0
  obtain ⟨v2, vs2, d2, ds2, p2, q2, rfl, rfl, rfl, h2, r2⟩ := trodAll_cons r1
  obtain ⟨v3, vs3, d3, ds3, p3, q3, rfl, rfl, rfl, h3, r3⟩ := trodAll_cons r2
  obtain ⟨rfl, rfl, rfl⟩ := trodAll_nil r3
  obtain rfl : args = #[v0, v1, v2, v3] := by cases args; simp_all
  obtain ⟨rfl, rfl⟩ := trodVars_none hV
  have sz1 : ∀ x ∈ d1.weights Try.prog 22, x ≤ reachBytes := fun x hx => by simpa using List.all_eq_true.1 hsz _ (DataW.weights_mem_each (j := 1) rfl rfl x hx)
  obtain ⟨a0, rfl, rfl, rfl, w0⟩ := open_int Try.underlying3 (hval 0 3 v0 rfl rfl) h0
  have k1 := h1
  have lt1 : ∀ x ∈ p1, x.block < W.heap.size := by obtain ⟨m, hm⟩ := k1; exact DataW.trod_lt m _ _ _ hm
  obtain ⟨a1, len1, cap1, l1, rfl, w1⟩ := open_acts (hval 1 22 v1 rfl rfl) h1 sz1
  obtain ⟨a2, rfl, rfl, rfl, w2⟩ := open_int Try.underlying3 (hval 2 3 v2 rfl rfl) h2
  obtain ⟨a3, rfl, rfl, rfl, w3⟩ := open_int Try.underlying5 (hval 3 5 v3 rfl rfl) h3
  clear hA0 hval0
  refine (walk a0 a1 len1 cap1 l1 a2 a3 W w0 w1 w2 w3).mono fun e W' ⟨he, bel⟩ => ?_
  subst he
  exact ⟨_, rfl, _, _, _, [], _, [], hW', trodAll_mk1 (shut_bool Try.underlying4 _), (trodAll_cons_mk (shut_int Try.underlying3 w0) (trodAll_cons_mk (Below.trod laidOut (by kernel_rfl) (of_decide_eq_true (by kernel_rfl)) k1 bel lt1) (trodAll_cons_mk (shut_int Try.underlying3 w2) (trodAll_cons_mk (shut_int Try.underlying5 w3) trodAll_mk0)))), rfl, bel.frame _, fun h => by cases h⟩

theorem over : Rows.diskReadsRow.holds Try.pinned (OpenSpec.ofChange Rows.diskReadsSpec) :=
  OpenClaim.holds_of_wide 8 Try.f8 rfl rfl rfl rfl rfl rfl rfl ⟨rfl, rfl, rfl, rfl, rfl⟩ rfl rfl rfl rfl rfl (by kernel_rfl) Try.func8 (by kernel_rfl)
    (of_decide_eq_true (by kernel_rfl)) (by unfold Func.isWrapper; first | (rw [if_pos (by decide +kernel)]; kernel_rfl) | (rw [if_neg (by decide +kernel)]; exact ⟨rfl, rfl⟩))
    (fun os started H enc _ => lifted os started H enc)

theorem proved : Rows.DiskReadsSaid := over
end Go.Proofs.Ytbkdgciaapkemaa.diskReads
