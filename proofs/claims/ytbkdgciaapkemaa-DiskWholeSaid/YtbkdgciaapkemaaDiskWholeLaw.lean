/- For any number, any acts and any bytes the law DiskWhole of citadellaw06 returns true: behind a crash every sector is wholly as it was flushed or wholly as it was cached, as the bytes say. Conditions: none beyond those that the statement itself prints. -/
import Derived.Test.YtbkdgciaapkemaaRows
import Derived.Test.YtbkdgciaapkemaaDiskLg
import Derived.SizedLaws
import Derived.WalkKit
import Derived.ProofKit
import Derived.OpenShut
import Derived.ShutString
import Derived.ChangeOld
import Derived.Below
namespace Go.Proofs.Ytbkdgciaapkemaa.diskWhole
open Go.ChangeShapes Go.WideShapes Go.ChangeAt Go.RowKit
open Go.ChangeMaps (open_string shut_string)
set_option linter.unusedVariables false
set_option linter.unusedSimpArgs false

theorem own : ownKnob Try.prog.godebug = none := by kernel_rfl
theorem laidOut : laidOutB Try.prog = true := by kernel_rfl

def WhRel (w : World) (s : DS) (n : Nat) (v1 v2 i : Value) (wr : World) (d : Nat) (F : Nat → Prop) : Prop :=
  ∃ (k : Nat) (G1 G2 : Nat → Prop), k ≤ n ∧ i = .int .i64 (k : Int) ∧ Both w wr d F s k v1 v2 (fun j => (secAt s.L j).1) (fun j => Sec.now (secAt s.L j)) G1 G2
theorem read_up {s : DS} (hu : s.up = true) {k : Nat} (hk : k < s.L.length) : s.read (k : Int) = (Sec.now (secAt s.L k), 0) := by
  unfold DS.read
  rw [if_neg (by rw [hu]; decide), if_neg (by simp only [DS.has, decide_eq_false_iff_not, Classical.not_not]; omega), Int.toNat_natCast]
theorem flushed_in {s : DS} {i : Nat} (hi : i < s.L.length) : s.flushed (i : Int) = (secAt s.L i).1 := by
  unfold DS.flushed
  rw [if_neg (by simp only [DS.has, decide_eq_false_iff_not, Classical.not_not]; omega), Int.toNat_natCast]
theorem rows_head_lt {w : World} {B k g n c : Nat} {f : Nat → List UInt8} {G : Nat → Prop} (h : RowsN w B k (.slice (some ⟨g, 0, none⟩) n c) f G) : g < w.heap.size := by
  obtain ⟨⟨vs, h1, h2, h3, _⟩, _⟩ := h
  exact h3 _ (h2 _ rfl)
theorem bit64 (x k : Nat) (hx : x < 256) : ((wrap64 (x : Int) / 2 ^ k).tmod 2 == 1) = decide (x / 2 ^ k % 2 = 1) := by
  have hw : wrap64 (x : Int) = (x : Int) := by unfold wrap64; omega
  have e : (x : Int) / 2 ^ k = ((x / 2 ^ k : Nat) : Int) := by rw [Int.natCast_ediv]; simp
  rw [hw, e, Int.tmod_eq_emod_of_nonneg (Int.natCast_nonneg _)]
  by_cases h : x / 2 ^ k % 2 = 1
  · rw [decide_eq_true h]
    have : ((x / 2 ^ k : Nat) : Int) % 2 = 1 := by omega
    rw [this]
    rfl
  · rw [decide_eq_false h]
    have : ((x / 2 ^ k : Nat) : Int) % 2 = 0 := by omega
    rw [this]
    rfl
def AtRel (D : List Nat) (k : Nat) (w6 : World) (v j : Value) (wr : World) : Prop := ∃ q : Nat, q ≤ D.length ∧ j = .int .i64 (q : Int) ∧ v = .int .i64 (atOf D k q) ∧ w6 = wr
set_option maxRecDepth 1000000 in
set_option maxHeartbeats 4000000 in
theorem walk (a0 : Int) (a1 : Option Addr) (len1 cap1 : Nat) (l1 : List DAct) (a2 : Option Addr) (len2 cap2 : Nat) (z2 : List Int) (w : World) (w0 : (Lit.int .i64 a0).wf = true) (w1 : RdA w w.heap.size a1 len1 l1 ∧ len1 ≤ cap1 ∧ cap1 * 40 ≤ 140737488351232) (w2 : IsRow .u8 w a2 len2 cap2 z2) :
    Calls Try.prog 5 #[.int .i64 a0, .slice a1 len1 cap1, .slice a2 len2 cap2] w fun e w' => e = .returned (.bool true) ∧ Below w.heap.size w w' := by
  obtain ⟨r1, hcap1, hcap1'⟩ := w1
  obtain ⟨r3, hcap3, hcap3'⟩ := w2.rd
  generalize bytesIn (z2.take len2) = stay at r3
  have R := Lib.hid r1
  have ST := Lib.hid r3
  have HL1 := Lib.hid r1.1
  have HLEN1 : Hid (len1 ≤ 140737488351232) := by show _ ≤ _; omega
  have HCAP : Hid (len1 ≤ cap1) := hcap1
  have HC3 : Hid (len2 ≤ cap2 ∧ cap2 ≤ 9223372036854775807) := by show _ ∧ _; omega
  clear w0 w2 r1 r3 hcap1 hcap1' hcap3 hcap3'
  go_enter Try.func5, Try.ntmps5
  go_wp2_with fail
  refine (lAwake w).mono ?_
  rintro e w1 ⟨rfl, hb⟩
  have B1 := Lib.hid hb
  have R1 := Lib.hid (R.out.to hb)
  clear hb
  go_wp2_with fail
  refine (lMade a0 a1 len1 cap1 l1 w1 R1.out HLEN1.out).mono ?_
  rintro e w2 hmade
  rcases hmade with ⟨k0, d, F, rfl, hk1, hk12, hfew, rfl, hd, hf, hb⟩ | ⟨rfl, rfl⟩
  rotate_left 1
  · go_wp2_with fail
    go_ret
    exact ⟨rfl, B1.out⟩
  have M : Hid (Mine w w2 d F (DS.new k0)) := ⟨hd, fun k h => Nat.le_trans B1.out.size (hf k h), B1.out.trans (hb.mono B1.out.size)⟩
  have FEW := Lib.hid hfew
  have HK1 : Hid (1 ≤ k0) := hk1
  have HK12 : Hid (k0 ≤ 12) := hk12
  have hk0I : (k0 : Int) < 13 := by omega
  clear hd hf hb hfew hk1 hk12 R1
  by_cases h50 : (len2 : Int) > 50
  · go_wp2_with fail
    go_ret
    exact ⟨rfl, M.out.bel⟩
  have HS50 : Hid (len2 ≤ 50) := by show _ ≤ _; omega
  go_wp2_with fail
  clear h50
  go_loopw [9] (fun i wr => DoRel w d k0 len1 i wr) (fun i _ => len1 - (intOf i).toNat)
  case atStart => exact ⟨0, F, _, Nat.zero_le _, rfl, M.out, new_len k0⟩
  case round =>
    clear M
    obtain ⟨k, F1, s, hk, rfl, hm, hlen⟩ := hrel
    have M := Lib.hid hm
    have HLEN := Lib.hid hlen
    have HK : Hid (k ≤ len1) := hk
    clear hm hlen hk
    by_cases hlt : k < len1
    · have HLT : Hid (k < len1) := hlt
      obtain ⟨b, o, A', m', c', rfl, hrd, hat⟩ := act_at R.out hlt
      obtain ⟨x0, x1, x2, hact⟩ := hat wr M.out.bel
      have HACT := Lib.hid hact
      have HRD := Lib.hid hrd
      have HM6 : Hid (m' ≤ 6000) := by show _ ≤ _; rw [← hrd.1]; exact FEW.out.2 k (by rw [HL1.out]; exact hlt)
      clear hat hrd hact
      generalize l1.getD k DAct.zero = act at *
      have hkI : (k : Int) < (len1 : Int) := by omega
      have hk301 : (k : Int) < 301 := by have := FEW.out.1; rw [HL1.out] at this; omega
      go_wp2_with fail
      refine (lDo d F1 s act A' m' c' wr M.out.at_ HACT.out (M.out.arg HRD.out) HM6.out).mono ?_
      rintro e w4 h6
      obtain ⟨rfl, F2, hd⟩ := h6.get (n := (s.act act).1) (s' := (s.act act).2) M.out rfl
      have M2 := Lib.hid hd.mine
      clear hd h6
      go_wp2_with fail
      go_roundw
      case rel => exact ⟨k + 1, F2, _, HLT.out, by go_num, M2.out, by rw [act_len]; exact HLEN.out⟩
      case measure => have := HLT.out; simp [intOf]; omega
    · obtain rfl : k = len1 := by have := HK.out; omega
      go_wp2_with fail
      have hup := dUp d F1 s wr M.out.at_
      have hst : s.up = true ∨ s.up = false := by cases s.up <;> simp
      rcases hst with hu | hu
      rotate_left 1
      · rw [hu] at hup
        refine hup.mono ?_
        rintro e w4 ⟨rfl, rfl⟩
        have HSU := Lib.hid hu
        clear hup hu
        go_wp2_with fail
        refine (dStart d F1 s wr M.out.at_).mono ?_
        rintro e w4 h6
        obtain ⟨rfl, F2, hd⟩ := h6.get (n := 0) (s' := ⟨s.L, true, s.left, s.stay⟩) M.out (by unfold DS.start; rw [if_neg (by rw [HSU.out]; decide)])
        have M2 := Lib.hid hd.mine
        have HU : Hid ((⟨s.L, true, s.left, s.stay⟩ : DS).up = true) := rfl
        have HL2 : Hid ((⟨s.L, true, s.left, s.stay⟩ : DS).L.length = k0) := HLEN.out
        clear hd h6 HSU M HLEN
        generalize (⟨s.L, true, s.left, s.stay⟩ : DS) = s2 at *
        go_wp2_with fail
        clear HK
        go_loopw [10, 11, 12] (fun v1 v2 q wr => WhRel w s2 k0 v1 v2 q wr d F2) (fun _ _ q _ => k0 - (intOf q).toNat)
        case atStart => exact ⟨0, fun _ => False, fun _ => False, Nat.zero_le _, rfl, ⟨M2.out, RowsN.nil _ _ _, RowsN.nil _ _ _, fun _ h => h.elim, fun _ h => h.elim, fun _ h => h.elim⟩⟩
        case round =>
          clear M2
          obtain ⟨k, G1, G2, hk, rfl, hbo⟩ := hrel
          have BO := Lib.hid hbo
          have HK : Hid (k ≤ k0) := hk
          clear hbo hk
          by_cases hlt : k < k0
          · have HLT : Hid (k < k0) := hlt
            have hc := dRead d F2 s2 k wr BO.out.m.at_
            rw [read_up HU.out (by rw [HL2.out]; exact hlt)] at hc
            have HC := Lib.hid hc
            clear hc
            go_wp2_with fail
            refine HC.out.mono ?_
            rintro e w5 ⟨A, m, c, rfl, hrow, hbl⟩
            have ROW := Lib.hid hrow
            have BL := Lib.hid hbl
            have BO5 := Lib.hid (BO.out.to hbl)
            have hc := dFlushed d F2 s2 k w5 BO5.out.m.at_
            rw [flushed_in (by rw [HL2.out]; exact HLT.out)] at hc
            replace HC := Lib.hid hc
            clear hrow hbl hc
            go_wp2_with fail
            refine HC.out.mono ?_
            rintro e w6 ⟨A2, m2, c2, rfl, hrow, hbl⟩
            have BO6 := Lib.hid (BO5.out.to hbl)
            have ROW6 := Lib.hid (own_below ROW.out hbl)
            have ROW2 := Lib.hid hrow
            have BL6 := Lib.hid hbl
            clear hrow hbl HC
            go_wp2_with (at_builtin; first
              | (refine wpList_pushM (k := k) (f := fun j => (secAt (s2).L j).1) (G := G1) (A := A2) (n := m2) (c := c2) rfl (.tmp 64) (.tmp 68) rfl rfl rfl BO6.out.r1 ROW2.out (fun j hg hj => by have := BO5.out.r1.lt j hg; omega) BO5.out.m.bel.size BL6.out.size (by have := HLT.out; have := HK12.out; omega) ?_
                 intro v1' w7 G1' hown1 hG1 hkeep1
                 have ROW7 : Hid (w7.ownsRow wr.heap.size _ 1 (.slice A m c) m _) := own_kept ROW6.out hkeep1 (fun b e hg => by have := own_ge ROW.out e; have := BO.out.r1.lt b hg; omega)
                 have K1 := Lib.hid hkeep1
                 have O1 := Lib.hid hown1
                 have HG1 := Lib.hid hG1
                 clear hown1 hG1 hkeep1
                 have R27 : Hid (RowsN w7 w.heap.size k _ (fun j => Sec.now (secAt (s2).L j)) G2) := BO6.out.r2.kept K1.out (fun j hg hg1 => BO.out.d12 j hg1 hg)
                 have OF7 : Hid (∀ j, G2 j → wr.heap.size ≤ j → ∀ o, A ≠ some ⟨j, o, none⟩) := fun j hg hj => by have := BO.out.r2.lt j hg; omega
                 have SZ7 : Hid (wr.heap.size ≤ w7.heap.size) := by have := BL.out.size; have := BL6.out.size; have := K1.out.size; show _ ≤ _; omega)
              | (refine wpList_pushM (k := k) (f := fun j => Sec.now (secAt (s2).L j)) (G := G2) (A := A) (n := m) (c := c) rfl (.tmp 70) (.tmp 72) rfl rfl rfl R27.out ROW7.out OF7.out BO.out.m.bel.size SZ7.out (by have := HLT.out; have := HK12.out; omega) ?_
                 intro v2' w8 G2' hown2 hG2 hkeep2))
            have BO8 : Hid (Both w w8 d F2 s2 (k + 1) v1' v2' (fun j => (secAt (s2).L j).1) (fun j => Sec.now (secAt (s2).L j)) G1' G2') := by
              have hs5 := BL.out.size
              have hs6 := BL6.out.size
              have hs7 := K1.out.size
              have hA : ∀ j, (wr.heap.size ≤ j ∧ ∃ o, A = some ⟨j, o, none⟩) → wr.heap.size ≤ j ∧ j < w5.heap.size := fun j hj => ⟨hj.1, by
                obtain ⟨o, e⟩ := hj.2
                have := (Rd.of_own ROW.out).lts
                by_cases hm : 0 < m
                · exact this hm j o e
                · obtain ⟨hq, hh⟩ := ROW.out
                  rcases hh with h | ⟨g, cap, cur, e', hg, hh, _⟩
                  · rw [e] at h; cases h.1
                  · rw [e] at e'
                    injection e' with e1
                    injection e1 with e1
                    injection e1 with e1
                    subst e1
                    exact heap_at_lt hh⟩
              have hA2 : ∀ j, (w5.heap.size ≤ j ∧ ∃ o, A2 = some ⟨j, o, none⟩) → w5.heap.size ≤ j := fun j hj => hj.1
              refine ⟨((BO6.out.m.kept K1.out (fun j hg => ⟨BO.out.r1.2 j hg, BO.out.d1 j hg⟩)).kept hkeep2 (fun j hg => ⟨BO.out.r2.2 j hg, BO.out.d2 j hg⟩)), O1.out.kept hkeep2 (fun j hg1 hg2 => ?_), hown2, fun j hg hf => ?_, fun j hg hf => ?_, fun j hg1 hg2 => ?_⟩
              · have := BO.out.r2.lt j hg2
                rcases HG1.out j hg1 with h | h | h
                · exact BO.out.d12 j h hg2
                · omega
                · omega
              · have := BO.out.m.at_.lt j hf
                rcases HG1.out j hg with h | h | h
                · exact BO.out.d1 j h hf
                · omega
                · omega
              · have := BO.out.m.at_.lt j hf
                rcases hG2 j hg with h | h | h
                · exact BO.out.d2 j h hf
                · omega
                · omega
              · have hl1 := O1.out.lt j hg1
                rcases HG1.out j hg1 with h | h | h
                · have := BO.out.r1.lt j h
                  rcases hG2 j hg2 with h' | h' | h'
                  · exact BO.out.d12 j h h'
                  · omega
                  · omega
                · rcases hG2 j hg2 with h' | h' | h'
                  · have := BO.out.r2.lt j h'; omega
                  · have := (hA j h').2; omega
                  · omega
                · rcases hG2 j hg2 with h' | h' | h'
                  · have := BO.out.r2.lt j h'; omega
                  · have := (hA j h').2; omega
                  · omega
            clear hown2 hG2 hkeep2 ROW ROW6 ROW2 ROW7 BO BO5 BO6 K1 O1 HG1 BL BL6 R27 OF7 SZ7
            go_roundw
            case rel => exact ⟨k + 1, G1', G2', HLT.out, by go_num, BO8.out⟩
            case measure => have := HLT.out; simp [intOf]; omega
          · obtain rfl : k0 = k := by have := HK.out; omega
            go_wp2_with fail
            refine (dDirty d F2 s2 wr BO.out.m.at_).mono ?_
            rintro e x1 ⟨A4, c4, rfl, hown, hb⟩
            have BO1 := Lib.hid (BO.out.to hb)
            have DOWN := Lib.hid hown
            have SZB := Lib.hid BO.out.m.bel.size
            have LTB : Hid (∀ b, F2 b → b < wr.heap.size) := BO.out.m.at_.lt
            have hw : ∀ k, k < k0 → (atOf (dirtyL (s2).L) k (dirtyL (s2).L).length = -1 ∧ (secAt (s2).L k).2 = none) ∨ (∃ r : Nat, atOf (dirtyL (s2).L) k (dirtyL (s2).L).length = (r : Int) ∧ r < 12 ∧ rank (s2).L k = r ∧ ∃ c, (secAt (s2).L k).2 = some c) := fun k hk => by
              have hl := HL2.out
              have h12 := HK12.out
              rcases at_whole (s2).L (k := k) (by omega) with h | ⟨r, h1, h2, h3⟩
              · exact .inl h
              · exact .inr ⟨r, h1, by omega, h3⟩
            have hdl : (dirtyL (s2).L).length ≤ 12 := by
              have := dirtyFrom_le 0 (s2).L
              have h1 := HL2.out
              have h2 := HK12.out
              show (dirtyFrom 0 (s2).L).length ≤ 12
              omega
            have HW := Lib.hid hw
            have HDL := Lib.hid hdl
            clear hown hb BO hw hdl
            generalize dirtyL (s2).L = D at *
            have hst := ST.out.to BO1.out.m.bel
            have hc := dCrash d F2 s2 a2 len2 cap2 stay x1 BO1.out.m.at_ hst HC3.out.1 HC3.out.2
            have HC := Lib.hid hc
            clear hc hst
            go_wp2_with fail
            refine HC.out.mono ?_
            rintro e x2 h6
            obtain ⟨rfl, F3, hd⟩ := h6.get (n := 0) (s' := (s2).fall (selB stay)) BO1.out.m (by unfold DS.crash; rw [if_neg (by rw [HU.out]; decide)])
            have BO2 := Lib.hid (BO1.out.act hd)
            have DOWN2 := Lib.hid (own_kept DOWN.out hd.keep (fun b e hf => by have := own_ge DOWN.out e; have := LTB.out b hf; omega))
            have hc := dDirty d F3 ((s2).fall (selB stay)) x2 BO2.out.m.at_
            rw [show ((s2).fall (selB stay)).L = fallL (selB stay) 0 (s2).L from rfl, dirtyL_fall] at hc
            replace HC := Lib.hid hc
            clear hd h6 hc BO1 DOWN LTB
            go_wp2_with fail
            refine (dUp d F3 ((s2).fall (selB stay)) x2 BO2.out.m.at_).mono ?_
            rintro e x' ⟨rfl, rfl⟩
            rw [show ((s2).fall (selB stay)).up = false from rfl]
            go_wp2_with fail
            refine HC.out.mono ?_
            rintro e x3 ⟨A5, c5, rfl, hown, hb⟩
            have BO3 := Lib.hid (BO2.out.to hb)
            have DOWN3 := Lib.hid (own_mono (own_below DOWN2.out hb) SZB.out)
            have FL : Hid (∀ k, k < k0 → ((s2).fall (selB stay)).flushed (k : Int) = left1 (selB stay) (rank (s2).L k) (secAt (s2).L k)) := fun k hk => by
              have hl := HL2.out
              rw [flushed_in (by show k < (fallL _ _ _).length; rw [fallL_length]; omega)]
              show (secAt (fallL _ _ _) k).1 = _
              rw [fallL_at _ (by omega)]
            clear hown hb HC BO2 DOWN2 SZB
            generalize (s2).fall (selB stay) = s3 at *
            go_wp2_with fail
            obtain ⟨g1, cp1, _, _, _, rfl, _, _⟩ := BO3.out.r1.at_ (j := 0) (by have := HK1.out; omega)
            obtain ⟨g2, cp2, _, _, _, rfl, _, _⟩ := BO3.out.r2.at_ (j := 0) (by have := HK1.out; omega)
            go_loopw [16] (fun q wr => ∃ k : Nat, k ≤ k0 ∧ q = .int .i64 (k : Int) ∧ Both w wr d F3 s3 k0 (.slice (some ⟨g1, 0, none⟩) k0 cp1) (.slice (some ⟨g2, 0, none⟩) k0 cp2) (fun j => (secAt (s2).L j).1) (fun j => Sec.now (secAt (s2).L j)) G1 G2 ∧ wr.ownsRow w.heap.size 3 1 (.slice A4 D.length c4) D.length (D.map (kv .i64))) (fun q _ => k0 - (intOf q).toNat)
            case atStart => exact ⟨0, Nat.zero_le _, rfl, BO3.out, DOWN3.out⟩
            case round =>
              clear BO3 DOWN3
              obtain ⟨k, hk, rfl, hbo, hdn⟩ := hrel
              have BO := Lib.hid hbo
              have DN := Lib.hid hdn
              have HK : Hid (k ≤ k0) := hk
              clear hbo hdn hk
              by_cases hlt : k < k0
              · have HLT : Hid (k < k0) := hlt
                go_wp2_with fail
                go_loopw [17, 18] (fun at_ j wr' => AtRel D k wr at_ j wr') (fun _ j _ => D.length - (intOf j).toNat)
                case atStart => exact ⟨0, Nat.zero_le _, rfl, rfl, rfl⟩
                case round =>
                  obtain ⟨q, hq, rfl, rfl, rfl⟩ := hrel
                  have HQ : Hid (q ≤ D.length) := hq
                  clear hq
                  by_cases hltq : q < D.length
                  · have HLTQ : Hid (q < D.length) := hltq
                    obtain ⟨g, rfl, _⟩ := own_head DN.out (by omega)
                    have x0 := own_cellK DN.out hltq
                    have hqI : (q : Int) < (D.length : Int) := by omega
                    have hdI : (D.length : Int) ≤ 12 := by have := HDL.out; omega
                    by_cases heq : nx D q = k
                    · have EH := Lib.hid heq
                      have EA : Hid (atOf D k (q + 1) = (q : Int)) := by show atOf D k (q + 1) = _; unfold atOf; rw [if_pos heq]
                      clear heq
                      go_wp2_with fail
                      rotate_left 1
                      · exfalso; first | (rename_i hh; exact EH.out (Int.ofNat.inj (eq_of_beq hh))) | (rename_i hh; exact hh (congrArg Int.ofNat EH.out)) | (have := EH.out; omega) | (have := EH.out; simp_all)
                      go_roundw
                      case rel => exact ⟨q + 1, HLTQ.out, by go_num, by rw [EA.out], rfl⟩
                      case measure => have := HLTQ.out; simp [intOf]; omega
                    · have EH := Lib.hid heq
                      have EA : Hid (atOf D k (q + 1) = atOf D k q) := by show atOf D k (q + 1) = _; rw [atOf, if_neg heq]
                      clear heq
                      go_wp2_with fail
                      · exfalso; first | (rename_i hh; exact EH.out (Int.ofNat.inj (eq_of_beq hh))) | (rename_i hh; exact hh (congrArg Int.ofNat EH.out)) | (have := EH.out; omega) | (have := EH.out; simp_all)
                      go_roundw
                      case rel => exact ⟨q + 1, HLTQ.out, by go_num, by rw [EA.out], rfl⟩
                      case measure => have := HLTQ.out; simp [intOf]; omega
                  · obtain rfl : D.length = q := by have := HQ.out; omega
                    obtain ⟨_, _, A6, n6, c6, he1, y1, hw1⟩ := BO.out.r1.at_ HLT.out
                    injection he1 with he1 _ he1c
                    injection he1 with he1
                    injection he1 with he1
                    subst he1 he1c
                    obtain ⟨_, _, A7, n7, c7, he2, y2, hw2⟩ := BO.out.r2.at_ HLT.out
                    injection he2 with he2 _ he2c
                    injection he2 with he2
                    injection he2 with he2
                    subst he2 he2c
                    have W1 := Lib.hid hw1
                    have W2 := Lib.hid hw2
                    have Y1 := Lib.hid y1
                    have Y2 := Lib.hid y2
                    have HFL := Lib.hid (FL.out k HLT.out)
                    clear hw1 hw2
                    rcases HW.out k HLT.out with ⟨hat, hsn⟩ | ⟨r, hat, hr12, hrk, c, hsc⟩
                    · rw [hat]
                      have HSN := Lib.hid hsn
                      clear hat hsn
                      go_wp2_with fail
                      have HF : Hid (s3.flushed (k : Int) = (secAt (s2).L k).1) := by show _ = _; rw [HFL.out]; unfold left1; rw [HSN.out]
                      have BOD : Hid (Both w wr.drew d F3 s3 k0 (.slice (some ⟨g1, 0, none⟩) k0 cp1) (.slice (some ⟨g2, 0, none⟩) k0 cp2) (fun j => (secAt (s2).L j).1) (fun j => Sec.now (secAt (s2).L j)) G1 G2) := ⟨⟨BO.out.m.at_.kept (R := fun _ => False) (Keep.refl _ _).drew (fun _ _ h => h), BO.out.m.lo, BO.out.m.bel.drew⟩, BO.out.r1, BO.out.r2, BO.out.d1, BO.out.d2, BO.out.d12⟩
                      have DND : Hid (wr.drew.ownsRow w.heap.size 3 1 (.slice A4 D.length c4) D.length (D.map (kv .i64))) := DN.out
                      have V1 : Hid (Rd wr.drew wr.drew.heap.size A6 n6 (secAt (s2).L k).1) := W1.out
                      have V2 : Hid (Rd wr.drew wr.drew.heap.size A7 n7 (secAt (s2).L k).1) := by
                        have h := W2.out
                        have e : Sec.now (secAt (s2).L k) = (secAt (s2).L k).1 := by unfold Sec.now; rw [HSN.out]; rfl
                        rw [← e]
                        exact h
                      have Z1 : Hid (wr.drew.cell? ⟨g1, k, none⟩ = some (.slice A6 n6 c6)) := Y1.out
                      have Z2 : Hid (wr.drew.cell? ⟨g2, k, none⟩ = some (.slice A7 n7 c7)) := Y2.out
                      generalize hwd : wr.drew = wd at *
                      have HWD := Lib.hid hwd
                      clear hwd BO DN W1 W2 Y1 Y2 y1 y2
                      refine wp_region_held_drew (S := (fun w' => w'.cell? ⟨g1, k, none⟩ = some (.slice A6 n6 c6) ∧ w'.cell? ⟨g2, k, none⟩ = some (.slice A7 n7 c7))) (by kernel_rfl) ((by rw [HWD.out]; exact ⟨Z1.out, Z2.out⟩)) (fun hHeld => ?_)
                      rw [HWD.out] at hHeld ⊢
                      refine wpAnyH_take (i := 0) (v := ?_) rfl (by kernel_rfl) (by kernel_rfl) (by kernel_rfl) (fun _ _ _ h => h) (Or.inl ⟨by rfl, ?_⟩) (by assumption) ?_
                      rotate_left 1
                      · intro w hSw; (try dsimp only at hSw); go_simp; (try with_reducible rfl)
                      simp only [Act.put, List.getElem_toArray, List.getElem_cons_zero, List.getElem_cons_succ, List.setIfInBounds_toArray, List.set_cons_zero, List.set_cons_succ]
                      refine wpAnyH_take (i := 1) (v := ?_) rfl (by kernel_rfl) (by kernel_rfl) (by kernel_rfl) (fun _ _ _ h => h) (Or.inl ⟨by rfl, ?_⟩) (by assumption) ?_
                      rotate_left 1
                      · intro w hSw; (try dsimp only at hSw); go_simp; (try with_reducible rfl)
                      simp only [Act.put, List.getElem_toArray, List.getElem_cons_zero, List.getElem_cons_succ, List.setIfInBounds_toArray, List.set_cons_zero, List.set_cons_succ]
                      refine wpAnyH_take (i := 3) (v := ?_) rfl (by kernel_rfl) (by kernel_rfl) (by kernel_rfl) (fun _ _ _ h => h) (Or.inl ⟨by rfl, ?_⟩) (by assumption) ?_
                      rotate_left 1
                      · intro w hSw; (try dsimp only at hSw); go_simp; (try with_reducible rfl)
                      simp only [Act.put, List.getElem_toArray, List.getElem_cons_zero, List.getElem_cons_succ, List.setIfInBounds_toArray, List.set_cons_zero, List.set_cons_succ]
                      refine wpAnyH_ready (rs := [2]) (by kernel_rfl) (by simp) ?_
                      refine AllReadyH.cons rfl (fun K hK => ?_) AllReadyH.nil
                      go_simp
                      refine (dFlushed d F3 s3 k wd BOD.out.m.at_).mono ?_
                      rw [HF.out]
                      rintro e z1 ⟨A8, n8, c8, rfl, hown, hb⟩
                      have V8 := Lib.hid (Rd.of_own hown)
                      replace Z1 := Lib.hid ((hb.cell (p := ⟨g1, k, none⟩) (rows_head_lt BOD.out.r1)).trans Z1.out)
                      replace Z2 := Lib.hid ((hb.cell (p := ⟨g2, k, none⟩) (rows_head_lt BOD.out.r2)).trans Z2.out)
                      replace BOD := Lib.hid (BOD.out.to hb)
                      replace DND := Lib.hid (own_below DND.out hb)
                      replace V1 := Lib.hid (V1.out.to hb)
                      replace V2 := Lib.hid (V2.out.to hb)
                      clear hown hb
                      go_wp2_with fail
                      refine hK.out _ _ (⟨Z1.out, Z2.out⟩) (fun hHeld => ?_)
                      clear hK K
                      refine wpAnyH_ready (rs := [4]) (by kernel_rfl) (by simp) ?_
                      refine AllReadyH.cons rfl (fun K hK => ?_) AllReadyH.nil
                      go_simp
                      refine (wSame A8 A6 n8 n6 c8 c6 _ (secAt (s2).L k).1 (secAt (s2).L k).1 _ V8.out V1.out).mono ?_
                      rw [show decide ((secAt (s2).L k).1 = (secAt (s2).L k).1) = true from decide_eq_true rfl]
                      rintro e z2 ⟨rfl, rfl⟩
                      go_wp2_with fail
                      refine hK.out _ _ (⟨Z1.out, Z2.out⟩) (fun hHeld => ?_)
                      clear hK K
                      refine wpAnyH_take (i := 5) (v := ?_) rfl (by kernel_rfl) (by kernel_rfl) (by kernel_rfl) (fun _ _ _ h => h) (Or.inl ⟨by rfl, ?_⟩) (by assumption) ?_
                      rotate_left 1
                      · intro w hSw; (try dsimp only at hSw); go_simp; (try with_reducible rfl)
                      simp only [Act.put, List.getElem_toArray, List.getElem_cons_zero, List.getElem_cons_succ, List.setIfInBounds_toArray, List.set_cons_zero, List.set_cons_succ]
                      refine wpAnyH_take (i := 6) (v := ?_) rfl (by kernel_rfl) (by kernel_rfl) (by kernel_rfl) (fun _ _ _ h => h) (Or.inl ⟨by rfl, ?_⟩) (by assumption) ?_
                      rotate_left 1
                      · intro w hSw; (try dsimp only at hSw); go_simp; (try with_reducible rfl)
                      simp only [Act.put, List.getElem_toArray, List.getElem_cons_zero, List.getElem_cons_succ, List.setIfInBounds_toArray, List.set_cons_zero, List.set_cons_succ]
                      refine wpAnyH_take (i := 7) (v := ?_) rfl (by kernel_rfl) (by kernel_rfl) (by kernel_rfl) (fun _ _ _ h => h) (Or.inl ⟨by rfl, ?_⟩) (by assumption) ?_
                      rotate_left 1
                      · intro w hSw; (try dsimp only at hSw); go_simp; (try with_reducible rfl)
                      simp only [Act.put, List.getElem_toArray, List.getElem_cons_zero, List.getElem_cons_succ, List.setIfInBounds_toArray, List.set_cons_zero, List.set_cons_succ]
                      refine wpAnyH_take (i := 8) (v := ?_) rfl (by kernel_rfl) (by kernel_rfl) (by kernel_rfl) (fun _ _ _ h => h) (Or.inl ⟨by rfl, ?_⟩) (by assumption) ?_
                      rotate_left 1
                      · intro w hSw; (try dsimp only at hSw); go_simp; (try with_reducible rfl)
                      simp only [Act.put, List.getElem_toArray, List.getElem_cons_zero, List.getElem_cons_succ, List.setIfInBounds_toArray, List.set_cons_zero, List.set_cons_succ]
                      refine wpAnyH_take (i := 9) (v := ?_) rfl (by kernel_rfl) (by kernel_rfl) (by kernel_rfl) (fun _ _ _ h => h) (Or.inl ⟨by rfl, ?_⟩) (by assumption) ?_
                      rotate_left 1
                      · intro w hSw; (try dsimp only at hSw); go_simp; (try with_reducible rfl)
                      simp only [Act.put, List.getElem_toArray, List.getElem_cons_zero, List.getElem_cons_succ, List.setIfInBounds_toArray, List.set_cons_zero, List.set_cons_succ]
                      refine wpAnyH_take (i := 10) (v := ?_) rfl (by kernel_rfl) (by kernel_rfl) (by kernel_rfl) (fun _ _ _ h => h) (Or.inl ⟨by rfl, ?_⟩) (by assumption) ?_
                      rotate_left 1
                      · intro w hSw; (try dsimp only at hSw); go_simp; (try with_reducible rfl)
                      simp only [Act.put, List.getElem_toArray, List.getElem_cons_zero, List.getElem_cons_succ, List.setIfInBounds_toArray, List.set_cons_zero, List.set_cons_succ]
                      refine wpAnyH_take (i := 11) (v := ?_) rfl (by kernel_rfl) (by kernel_rfl) (by kernel_rfl) (fun _ _ _ h => h) (Or.inl ⟨by rfl, ?_⟩) (by assumption) ?_
                      rotate_left 1
                      · intro w hSw; (try dsimp only at hSw); go_simp; (try with_reducible rfl)
                      simp only [Act.put, List.getElem_toArray, List.getElem_cons_zero, List.getElem_cons_succ, List.setIfInBounds_toArray, List.set_cons_zero, List.set_cons_succ]
                      refine wpAnyH_take (i := 12) (v := ?_) rfl (by kernel_rfl) (by kernel_rfl) (by kernel_rfl) (fun _ _ _ h => h) (Or.inl ⟨by rfl, ?_⟩) (by assumption) ?_
                      rotate_left 1
                      · intro w hSw; (try dsimp only at hSw); go_simp; (try with_reducible rfl)
                      simp only [Act.put, List.getElem_toArray, List.getElem_cons_zero, List.getElem_cons_succ, List.setIfInBounds_toArray, List.set_cons_zero, List.set_cons_succ]
                      refine wpAnyH_take (i := 13) (v := ?_) rfl (by kernel_rfl) (by kernel_rfl) (by kernel_rfl) (fun _ _ _ h => h) (Or.inl ⟨by rfl, ?_⟩) (by assumption) ?_
                      rotate_left 1
                      · intro w hSw; (try dsimp only at hSw); obtain ⟨hs1, hs2⟩ := hSw; go_simp; (try with_reducible rfl)
                      simp only [Act.put, List.getElem_toArray, List.getElem_cons_zero, List.getElem_cons_succ, List.setIfInBounds_toArray, List.set_cons_zero, List.set_cons_succ]
                      refine wpAnyH_take (i := 14) (v := ?_) rfl (by kernel_rfl) (by kernel_rfl) (by kernel_rfl) (fun _ _ _ h => h) (Or.inl ⟨by rfl, ?_⟩) (by assumption) ?_
                      rotate_left 1
                      · intro w hSw; (try dsimp only at hSw); go_simp; (try with_reducible rfl)
                      simp only [Act.put, List.getElem_toArray, List.getElem_cons_zero, List.getElem_cons_succ, List.setIfInBounds_toArray, List.set_cons_zero, List.set_cons_succ]
                      refine wpAnyH_take (i := 15) (v := ?_) rfl (by kernel_rfl) (by kernel_rfl) (by kernel_rfl) (fun _ _ _ h => h) (Or.inl ⟨by rfl, ?_⟩) (by assumption) ?_
                      rotate_left 1
                      · intro w hSw; (try dsimp only at hSw); go_simp; (try with_reducible rfl)
                      simp only [Act.put, List.getElem_toArray, List.getElem_cons_zero, List.getElem_cons_succ, List.setIfInBounds_toArray, List.set_cons_zero, List.set_cons_succ]
                      refine wpAnyH_take (i := 16) (v := ?_) rfl (by kernel_rfl) (by kernel_rfl) (by kernel_rfl) (fun _ _ _ h => h) (Or.inl ⟨by rfl, ?_⟩) (by assumption) ?_
                      rotate_left 1
                      · intro w hSw; (try dsimp only at hSw); go_simp; (try with_reducible rfl)
                      simp only [Act.put, List.getElem_toArray, List.getElem_cons_zero, List.getElem_cons_succ, List.setIfInBounds_toArray, List.set_cons_zero, List.set_cons_succ]
                      refine wpAnyH_take (i := 17) (v := ?_) rfl (by kernel_rfl) (by kernel_rfl) (by kernel_rfl) (fun _ _ _ h => h) (Or.inl ⟨by rfl, ?_⟩) (by assumption) ?_
                      rotate_left 1
                      · intro w hSw; (try dsimp only at hSw); obtain ⟨hs1, hs2⟩ := hSw; go_simp; (try with_reducible rfl)
                      simp only [Act.put, List.getElem_toArray, List.getElem_cons_zero, List.getElem_cons_succ, List.setIfInBounds_toArray, List.set_cons_zero, List.set_cons_succ]
                      refine wpAnyH_ready (rs := [18]) (by kernel_rfl) (by simp) ?_
                      refine AllReadyH.cons rfl (fun K hK => ?_) AllReadyH.nil
                      go_simp
                      refine (wSame A6 A7 n6 n7 c6 c7 _ (secAt (s2).L k).1 (secAt (s2).L k).1 _ V1.out V2.out).mono ?_
                      rw [show decide ((secAt (s2).L k).1 = (secAt (s2).L k).1) = true from decide_eq_true rfl]
                      rintro e z3 ⟨rfl, rfl⟩
                      go_wp2_with fail
                      refine hK.out _ _ (⟨Z1.out, Z2.out⟩) (fun hHeld => ?_)
                      clear hK K
                      refine wpAnyH_take (i := 19) (v := ?_) rfl (by kernel_rfl) (by kernel_rfl) (by kernel_rfl) (fun _ _ _ h => h) (Or.inl ⟨by rfl, ?_⟩) (by assumption) ?_
                      rotate_left 1
                      · intro w hSw; (try dsimp only at hSw); go_simp; (try with_reducible rfl)
                      simp only [Act.put, List.getElem_toArray, List.getElem_cons_zero, List.getElem_cons_succ, List.setIfInBounds_toArray, List.set_cons_zero, List.set_cons_succ]
                      refine wpAnyH_take (i := 20) (v := ?_) rfl (by kernel_rfl) (by kernel_rfl) (by kernel_rfl) (fun _ _ _ h => h) (Or.inl ⟨by rfl, ?_⟩) (by assumption) ?_
                      rotate_left 1
                      · intro w hSw; (try dsimp only at hSw); go_simp; (try with_reducible rfl)
                      simp only [Act.put, List.getElem_toArray, List.getElem_cons_zero, List.getElem_cons_succ, List.setIfInBounds_toArray, List.set_cons_zero, List.set_cons_succ]
                      refine wpAnyH_take (i := 21) (v := ?_) rfl (by kernel_rfl) (by kernel_rfl) (by kernel_rfl) (fun _ _ _ h => h) (Or.inl ⟨by rfl, ?_⟩) (by assumption) ?_
                      rotate_left 1
                      · intro w hSw; (try dsimp only at hSw); go_simp; (try with_reducible rfl)
                      simp only [Act.put, List.getElem_toArray, List.getElem_cons_zero, List.getElem_cons_succ, List.setIfInBounds_toArray, List.set_cons_zero, List.set_cons_succ]
                      refine wpAnyH_done (by kernel_rfl) ?_ _
                      go_wp2_with fail
                      go_roundw
                      case rel => exact ⟨k + 1, HLT.out, by go_num, BOD.out, DND.out⟩
                      case measure => have := HLT.out; simp [intOf]; omega
                    · rw [hat]
                      have HRK := Lib.hid hrk
                      have HSC := Lib.hid hsc
                      have e1 : (r : Int).tdiv 8 = ((r / 8 : Nat) : Int) := by rw [Int.tdiv_eq_ediv_of_nonneg (by omega)]; omega
                      have e2 : (r : Int).tmod 8 = ((r % 8 : Nat) : Int) := by rw [Int.tmod_eq_emod_of_nonneg (by omega)]; omega
                      clear hat hrk hsc
                      by_cases hq : r / 8 < len2
                      · obtain ⟨b, o, rfl, _, _⟩ := ST.out.2 (by omega)
                        have z0 := (ST.out.to BO.out.m.bel).at hq
                        have hqI : ((r / 8 : Nat) : Int) < (len2 : Int) := by omega
                        go_wp2_with fail
                        rotate_left 1
                        · have hsel : selB stay r = false := by
                            have hh : ((wrap64 (nth stay (r / 8) : Int) / 2 ^ (r % 8)).tmod 2 == 1) = false := by assumption
                            rw [bit64 _ _ (nth_lt _ _)] at hh; exact hh
                          have HF : Hid (s3.flushed (k : Int) = (secAt (s2).L k).1) := by show _ = _; rw [HFL.out]; unfold left1; rw [HSC.out, HRK.out]; simp [hsel]
                          have BOD : Hid (Both w wr.drew d F3 s3 k0 (.slice (some ⟨g1, 0, none⟩) k0 cp1) (.slice (some ⟨g2, 0, none⟩) k0 cp2) (fun j => (secAt (s2).L j).1) (fun j => Sec.now (secAt (s2).L j)) G1 G2) := ⟨⟨BO.out.m.at_.kept (R := fun _ => False) (Keep.refl _ _).drew (fun _ _ h => h), BO.out.m.lo, BO.out.m.bel.drew⟩, BO.out.r1, BO.out.r2, BO.out.d1, BO.out.d2, BO.out.d12⟩
                          have DND : Hid (wr.drew.ownsRow w.heap.size 3 1 (.slice A4 D.length c4) D.length (D.map (kv .i64))) := DN.out
                          have V1 : Hid (Rd wr.drew wr.drew.heap.size A6 n6 (secAt (s2).L k).1) := by
                            have h := W1.out
                            have e : Sec.now (secAt (s2).L k) = c := by unfold Sec.now; rw [HSC.out]; rfl
                            try rw [e] at h
                            exact h
                          clear hsel
                          generalize hwd : wr.drew = wd at *
                          have HWD := Lib.hid hwd
                          clear hwd BO DN W1 W2 Y1 Y2 y1 y2
                          refine wp_region_held_drew (S := (fun _ => True)) (by kernel_rfl) (trivial) (fun hHeld => ?_)
                          rw [HWD.out]
                          refine wpAnyH_take (i := 0) (v := ?_) rfl (by kernel_rfl) (by kernel_rfl) (by kernel_rfl) (fun _ _ _ h => h) (Or.inl ⟨by rfl, ?_⟩) (by assumption) ?_
                          rotate_left 1
                          · intro w hSw; (try dsimp only at hSw); go_simp; (try with_reducible rfl)
                          simp only [Act.put, List.getElem_toArray, List.getElem_cons_zero, List.getElem_cons_succ, List.setIfInBounds_toArray, List.set_cons_zero, List.set_cons_succ]
                          refine wpAnyH_take (i := 1) (v := ?_) rfl (by kernel_rfl) (by kernel_rfl) (by kernel_rfl) (fun _ _ _ h => h) (Or.inl ⟨by rfl, ?_⟩) (by assumption) ?_
                          rotate_left 1
                          · intro w hSw; (try dsimp only at hSw); go_simp; (try with_reducible rfl)
                          simp only [Act.put, List.getElem_toArray, List.getElem_cons_zero, List.getElem_cons_succ, List.setIfInBounds_toArray, List.set_cons_zero, List.set_cons_succ]
                          refine wpAnyH_take (i := 3) (v := ?_) rfl (by kernel_rfl) (by kernel_rfl) (by kernel_rfl) (fun _ _ _ h => h) (Or.inl ⟨by rfl, ?_⟩) (by assumption) ?_
                          rotate_left 1
                          · intro w hSw; (try dsimp only at hSw); go_simp; (try with_reducible rfl)
                          simp only [Act.put, List.getElem_toArray, List.getElem_cons_zero, List.getElem_cons_succ, List.setIfInBounds_toArray, List.set_cons_zero, List.set_cons_succ]
                          refine wpAnyH_ready (rs := [2]) (by kernel_rfl) (by simp) ?_
                          refine AllReadyH.cons rfl (fun K hK => ?_) AllReadyH.nil
                          go_simp
                          refine (dFlushed d F3 s3 k wd BOD.out.m.at_).mono ?_
                          rw [HF.out]
                          rintro e z1 ⟨A8, n8, c8, rfl, hown, hb⟩
                          have V8 := Lib.hid (Rd.of_own hown)
                          replace BOD := Lib.hid (BOD.out.to hb)
                          replace DND := Lib.hid (own_below DND.out hb)
                          replace V1 := Lib.hid (V1.out.to hb)
                          clear hown hb
                          go_wp2_with fail
                          refine hK.out _ _ (trivial) (fun hHeld => ?_)
                          clear hK K
                          refine wpAnyH_ready (rs := [4]) (by kernel_rfl) (by simp) ?_
                          refine AllReadyH.cons rfl (fun K hK => ?_) AllReadyH.nil
                          go_simp
                          refine (wSame A8 A6 n8 n6 c8 c6 _ (secAt (s2).L k).1 (secAt (s2).L k).1 _ V8.out V1.out).mono ?_
                          rw [show decide ((secAt (s2).L k).1 = (secAt (s2).L k).1) = true from decide_eq_true rfl]
                          rintro e z2 ⟨rfl, rfl⟩
                          go_wp2_with fail
                          refine hK.out _ _ (trivial) (fun hHeld => ?_)
                          clear hK K
                          refine wpAnyH_take (i := 5) (v := ?_) rfl (by kernel_rfl) (by kernel_rfl) (by kernel_rfl) (fun _ _ _ h => h) (Or.inl ⟨by rfl, ?_⟩) (by assumption) ?_
                          rotate_left 1
                          · intro w hSw; (try dsimp only at hSw); go_simp; (try with_reducible rfl)
                          simp only [Act.put, List.getElem_toArray, List.getElem_cons_zero, List.getElem_cons_succ, List.setIfInBounds_toArray, List.set_cons_zero, List.set_cons_succ]
                          refine wpAnyH_take (i := 6) (v := ?_) rfl (by kernel_rfl) (by kernel_rfl) (by kernel_rfl) (fun _ _ _ h => h) (Or.inl ⟨by rfl, ?_⟩) (by assumption) ?_
                          rotate_left 1
                          · intro w hSw; (try dsimp only at hSw); go_simp; (try with_reducible rfl)
                          simp only [Act.put, List.getElem_toArray, List.getElem_cons_zero, List.getElem_cons_succ, List.setIfInBounds_toArray, List.set_cons_zero, List.set_cons_succ]
                          refine wpAnyH_take (i := 7) (v := ?_) rfl (by kernel_rfl) (by kernel_rfl) (by kernel_rfl) (fun _ _ _ h => h) (Or.inl ⟨by rfl, ?_⟩) (by assumption) ?_
                          rotate_left 1
                          · intro w hSw; (try dsimp only at hSw); go_simp; (try with_reducible rfl)
                          simp only [Act.put, List.getElem_toArray, List.getElem_cons_zero, List.getElem_cons_succ, List.setIfInBounds_toArray, List.set_cons_zero, List.set_cons_succ]
                          refine wpAnyH_take (i := 8) (v := ?_) rfl (by kernel_rfl) (by kernel_rfl) (by kernel_rfl) (fun _ _ _ h => h) (Or.inl ⟨by rfl, ?_⟩) (by assumption) ?_
                          rotate_left 1
                          · intro w hSw; (try dsimp only at hSw); go_simp; (try with_reducible rfl)
                          simp only [Act.put, List.getElem_toArray, List.getElem_cons_zero, List.getElem_cons_succ, List.setIfInBounds_toArray, List.set_cons_zero, List.set_cons_succ]
                          refine wpAnyH_take (i := 9) (v := ?_) rfl (by kernel_rfl) (by kernel_rfl) (by kernel_rfl) (fun _ _ _ h => h) (Or.inl ⟨by rfl, ?_⟩) (by assumption) ?_
                          rotate_left 1
                          · intro w hSw; (try dsimp only at hSw); go_simp; (try with_reducible rfl)
                          simp only [Act.put, List.getElem_toArray, List.getElem_cons_zero, List.getElem_cons_succ, List.setIfInBounds_toArray, List.set_cons_zero, List.set_cons_succ]
                          refine wpAnyH_take (i := 10) (v := undef) rfl (by kernel_rfl) (by kernel_rfl) (by kernel_rfl) (fun _ _ _ h => h) (Or.inr ⟨by rfl, rfl⟩) (by assumption) ?_
                          simp only [Act.put, List.getElem_toArray, List.getElem_cons_zero, List.getElem_cons_succ, List.setIfInBounds_toArray, List.set_cons_zero, List.set_cons_succ]
                          refine wpAnyH_take (i := 11) (v := undef) rfl (by kernel_rfl) (by kernel_rfl) (by kernel_rfl) (fun _ _ _ h => h) (Or.inr ⟨by rfl, rfl⟩) (by assumption) ?_
                          simp only [Act.put, List.getElem_toArray, List.getElem_cons_zero, List.getElem_cons_succ, List.setIfInBounds_toArray, List.set_cons_zero, List.set_cons_succ]
                          refine wpAnyH_take (i := 12) (v := undef) rfl (by kernel_rfl) (by kernel_rfl) (by kernel_rfl) (fun _ _ _ h => h) (Or.inr ⟨by rfl, rfl⟩) (by assumption) ?_
                          simp only [Act.put, List.getElem_toArray, List.getElem_cons_zero, List.getElem_cons_succ, List.setIfInBounds_toArray, List.set_cons_zero, List.set_cons_succ]
                          refine wpAnyH_take (i := 13) (v := undef) rfl (by kernel_rfl) (by kernel_rfl) (by kernel_rfl) (fun _ _ _ h => h) (Or.inr ⟨by rfl, rfl⟩) (by assumption) ?_
                          simp only [Act.put, List.getElem_toArray, List.getElem_cons_zero, List.getElem_cons_succ, List.setIfInBounds_toArray, List.set_cons_zero, List.set_cons_succ]
                          refine wpAnyH_take (i := 14) (v := undef) rfl (by kernel_rfl) (by kernel_rfl) (by kernel_rfl) (fun _ _ _ h => h) (Or.inr ⟨by rfl, rfl⟩) (by assumption) ?_
                          simp only [Act.put, List.getElem_toArray, List.getElem_cons_zero, List.getElem_cons_succ, List.setIfInBounds_toArray, List.set_cons_zero, List.set_cons_succ]
                          refine wpAnyH_take (i := 15) (v := undef) rfl (by kernel_rfl) (by kernel_rfl) (by kernel_rfl) (fun _ _ _ h => h) (Or.inr ⟨by rfl, rfl⟩) (by assumption) ?_
                          simp only [Act.put, List.getElem_toArray, List.getElem_cons_zero, List.getElem_cons_succ, List.setIfInBounds_toArray, List.set_cons_zero, List.set_cons_succ]
                          refine wpAnyH_take (i := 16) (v := undef) rfl (by kernel_rfl) (by kernel_rfl) (by kernel_rfl) (fun _ _ _ h => h) (Or.inr ⟨by rfl, rfl⟩) (by assumption) ?_
                          simp only [Act.put, List.getElem_toArray, List.getElem_cons_zero, List.getElem_cons_succ, List.setIfInBounds_toArray, List.set_cons_zero, List.set_cons_succ]
                          refine wpAnyH_take (i := 17) (v := undef) rfl (by kernel_rfl) (by kernel_rfl) (by kernel_rfl) (fun _ _ _ h => h) (Or.inr ⟨by rfl, rfl⟩) (by assumption) ?_
                          simp only [Act.put, List.getElem_toArray, List.getElem_cons_zero, List.getElem_cons_succ, List.setIfInBounds_toArray, List.set_cons_zero, List.set_cons_succ]
                          refine wpAnyH_take (i := 18) (v := undef) rfl (by kernel_rfl) (by kernel_rfl) (by kernel_rfl) (fun _ _ _ h => h) (Or.inr ⟨by rfl, rfl⟩) (by assumption) ?_
                          simp only [Act.put, List.getElem_toArray, List.getElem_cons_zero, List.getElem_cons_succ, List.setIfInBounds_toArray, List.set_cons_zero, List.set_cons_succ]
                          refine wpAnyH_take (i := 19) (v := undef) rfl (by kernel_rfl) (by kernel_rfl) (by kernel_rfl) (fun _ _ _ h => h) (Or.inr ⟨by rfl, rfl⟩) (by assumption) ?_
                          simp only [Act.put, List.getElem_toArray, List.getElem_cons_zero, List.getElem_cons_succ, List.setIfInBounds_toArray, List.set_cons_zero, List.set_cons_succ]
                          refine wpAnyH_take (i := 20) (v := ?_) rfl (by kernel_rfl) (by kernel_rfl) (by kernel_rfl) (fun _ _ _ h => h) (Or.inl ⟨by rfl, ?_⟩) (by assumption) ?_
                          rotate_left 1
                          · intro w hSw; (try dsimp only at hSw); go_simp; (try with_reducible rfl)
                          simp only [Act.put, List.getElem_toArray, List.getElem_cons_zero, List.getElem_cons_succ, List.setIfInBounds_toArray, List.set_cons_zero, List.set_cons_succ]
                          refine wpAnyH_take (i := 21) (v := ?_) rfl (by kernel_rfl) (by kernel_rfl) (by kernel_rfl) (fun _ _ _ h => h) (Or.inl ⟨by rfl, ?_⟩) (by assumption) ?_
                          rotate_left 1
                          · intro w hSw; (try dsimp only at hSw); go_simp; (try with_reducible rfl)
                          simp only [Act.put, List.getElem_toArray, List.getElem_cons_zero, List.getElem_cons_succ, List.setIfInBounds_toArray, List.set_cons_zero, List.set_cons_succ]
                          refine wpAnyH_done (by kernel_rfl) ?_ _
                          go_wp2_with fail
                          go_roundw
                          case rel => exact ⟨k + 1, HLT.out, by go_num, BOD.out, DND.out⟩
                          case measure => have := HLT.out; simp [intOf]; omega
                        have hsel : selB stay r = true := by
                          have hh : ((wrap64 (nth stay (r / 8) : Int) / 2 ^ (r % 8)).tmod 2 == 1) = true := by assumption
                          rw [bit64 _ _ (nth_lt _ _)] at hh; exact hh
                        have HF : Hid (s3.flushed (k : Int) = c) := by show _ = _; rw [HFL.out]; unfold left1; rw [HSC.out, HRK.out]; simp [hsel]
                        have BOD : Hid (Both w wr.drew d F3 s3 k0 (.slice (some ⟨g1, 0, none⟩) k0 cp1) (.slice (some ⟨g2, 0, none⟩) k0 cp2) (fun j => (secAt (s2).L j).1) (fun j => Sec.now (secAt (s2).L j)) G1 G2) := ⟨⟨BO.out.m.at_.kept (R := fun _ => False) (Keep.refl _ _).drew (fun _ _ h => h), BO.out.m.lo, BO.out.m.bel.drew⟩, BO.out.r1, BO.out.r2, BO.out.d1, BO.out.d2, BO.out.d12⟩
                        have DND : Hid (wr.drew.ownsRow w.heap.size 3 1 (.slice A4 D.length c4) D.length (D.map (kv .i64))) := DN.out
                        have V1 : Hid (Rd wr.drew wr.drew.heap.size A7 n7 c) := by
                          have h := W2.out
                          have e : Sec.now (secAt (s2).L k) = c := by unfold Sec.now; rw [HSC.out]; rfl
                          try rw [e] at h
                          exact h
                        clear hsel
                        generalize hwd : wr.drew = wd at *
                        have HWD := Lib.hid hwd
                        clear hwd BO DN W1 W2 Y1 Y2 y1 y2
                        refine wp_region_held_drew (S := (fun _ => True)) (by kernel_rfl) (trivial) (fun hHeld => ?_)
                        rw [HWD.out]
                        refine wpAnyH_take (i := 0) (v := ?_) rfl (by kernel_rfl) (by kernel_rfl) (by kernel_rfl) (fun _ _ _ h => h) (Or.inl ⟨by rfl, ?_⟩) (by assumption) ?_
                        rotate_left 1
                        · intro w hSw; (try dsimp only at hSw); go_simp; (try with_reducible rfl)
                        simp only [Act.put, List.getElem_toArray, List.getElem_cons_zero, List.getElem_cons_succ, List.setIfInBounds_toArray, List.set_cons_zero, List.set_cons_succ]
                        refine wpAnyH_take (i := 1) (v := ?_) rfl (by kernel_rfl) (by kernel_rfl) (by kernel_rfl) (fun _ _ _ h => h) (Or.inl ⟨by rfl, ?_⟩) (by assumption) ?_
                        rotate_left 1
                        · intro w hSw; (try dsimp only at hSw); go_simp; (try with_reducible rfl)
                        simp only [Act.put, List.getElem_toArray, List.getElem_cons_zero, List.getElem_cons_succ, List.setIfInBounds_toArray, List.set_cons_zero, List.set_cons_succ]
                        refine wpAnyH_take (i := 3) (v := ?_) rfl (by kernel_rfl) (by kernel_rfl) (by kernel_rfl) (fun _ _ _ h => h) (Or.inl ⟨by rfl, ?_⟩) (by assumption) ?_
                        rotate_left 1
                        · intro w hSw; (try dsimp only at hSw); go_simp; (try with_reducible rfl)
                        simp only [Act.put, List.getElem_toArray, List.getElem_cons_zero, List.getElem_cons_succ, List.setIfInBounds_toArray, List.set_cons_zero, List.set_cons_succ]
                        refine wpAnyH_ready (rs := [2]) (by kernel_rfl) (by simp) ?_
                        refine AllReadyH.cons rfl (fun K hK => ?_) AllReadyH.nil
                        go_simp
                        refine (dFlushed d F3 s3 k wd BOD.out.m.at_).mono ?_
                        rw [HF.out]
                        rintro e z1 ⟨A8, n8, c8, rfl, hown, hb⟩
                        have V8 := Lib.hid (Rd.of_own hown)
                        replace BOD := Lib.hid (BOD.out.to hb)
                        replace DND := Lib.hid (own_below DND.out hb)
                        replace V1 := Lib.hid (V1.out.to hb)
                        clear hown hb
                        go_wp2_with fail
                        refine hK.out _ _ (trivial) (fun hHeld => ?_)
                        clear hK K
                        refine wpAnyH_ready (rs := [4]) (by kernel_rfl) (by simp) ?_
                        refine AllReadyH.cons rfl (fun K hK => ?_) AllReadyH.nil
                        go_simp
                        refine (wSame A8 A7 n8 n7 c8 c7 _ c c _ V8.out V1.out).mono ?_
                        rw [show decide (c = c) = true from decide_eq_true rfl]
                        rintro e z2 ⟨rfl, rfl⟩
                        go_wp2_with fail
                        refine hK.out _ _ (trivial) (fun hHeld => ?_)
                        clear hK K
                        refine wpAnyH_take (i := 5) (v := ?_) rfl (by kernel_rfl) (by kernel_rfl) (by kernel_rfl) (fun _ _ _ h => h) (Or.inl ⟨by rfl, ?_⟩) (by assumption) ?_
                        rotate_left 1
                        · intro w hSw; (try dsimp only at hSw); go_simp; (try with_reducible rfl)
                        simp only [Act.put, List.getElem_toArray, List.getElem_cons_zero, List.getElem_cons_succ, List.setIfInBounds_toArray, List.set_cons_zero, List.set_cons_succ]
                        refine wpAnyH_take (i := 6) (v := ?_) rfl (by kernel_rfl) (by kernel_rfl) (by kernel_rfl) (fun _ _ _ h => h) (Or.inl ⟨by rfl, ?_⟩) (by assumption) ?_
                        rotate_left 1
                        · intro w hSw; (try dsimp only at hSw); go_simp; (try with_reducible rfl)
                        simp only [Act.put, List.getElem_toArray, List.getElem_cons_zero, List.getElem_cons_succ, List.setIfInBounds_toArray, List.set_cons_zero, List.set_cons_succ]
                        refine wpAnyH_take (i := 7) (v := ?_) rfl (by kernel_rfl) (by kernel_rfl) (by kernel_rfl) (fun _ _ _ h => h) (Or.inl ⟨by rfl, ?_⟩) (by assumption) ?_
                        rotate_left 1
                        · intro w hSw; (try dsimp only at hSw); go_simp; (try with_reducible rfl)
                        simp only [Act.put, List.getElem_toArray, List.getElem_cons_zero, List.getElem_cons_succ, List.setIfInBounds_toArray, List.set_cons_zero, List.set_cons_succ]
                        refine wpAnyH_take (i := 8) (v := ?_) rfl (by kernel_rfl) (by kernel_rfl) (by kernel_rfl) (fun _ _ _ h => h) (Or.inl ⟨by rfl, ?_⟩) (by assumption) ?_
                        rotate_left 1
                        · intro w hSw; (try dsimp only at hSw); go_simp; (try with_reducible rfl)
                        simp only [Act.put, List.getElem_toArray, List.getElem_cons_zero, List.getElem_cons_succ, List.setIfInBounds_toArray, List.set_cons_zero, List.set_cons_succ]
                        refine wpAnyH_take (i := 9) (v := ?_) rfl (by kernel_rfl) (by kernel_rfl) (by kernel_rfl) (fun _ _ _ h => h) (Or.inl ⟨by rfl, ?_⟩) (by assumption) ?_
                        rotate_left 1
                        · intro w hSw; (try dsimp only at hSw); go_simp; (try with_reducible rfl)
                        simp only [Act.put, List.getElem_toArray, List.getElem_cons_zero, List.getElem_cons_succ, List.setIfInBounds_toArray, List.set_cons_zero, List.set_cons_succ]
                        refine wpAnyH_take (i := 10) (v := undef) rfl (by kernel_rfl) (by kernel_rfl) (by kernel_rfl) (fun _ _ _ h => h) (Or.inr ⟨by rfl, rfl⟩) (by assumption) ?_
                        simp only [Act.put, List.getElem_toArray, List.getElem_cons_zero, List.getElem_cons_succ, List.setIfInBounds_toArray, List.set_cons_zero, List.set_cons_succ]
                        refine wpAnyH_take (i := 11) (v := undef) rfl (by kernel_rfl) (by kernel_rfl) (by kernel_rfl) (fun _ _ _ h => h) (Or.inr ⟨by rfl, rfl⟩) (by assumption) ?_
                        simp only [Act.put, List.getElem_toArray, List.getElem_cons_zero, List.getElem_cons_succ, List.setIfInBounds_toArray, List.set_cons_zero, List.set_cons_succ]
                        refine wpAnyH_take (i := 12) (v := undef) rfl (by kernel_rfl) (by kernel_rfl) (by kernel_rfl) (fun _ _ _ h => h) (Or.inr ⟨by rfl, rfl⟩) (by assumption) ?_
                        simp only [Act.put, List.getElem_toArray, List.getElem_cons_zero, List.getElem_cons_succ, List.setIfInBounds_toArray, List.set_cons_zero, List.set_cons_succ]
                        refine wpAnyH_take (i := 13) (v := undef) rfl (by kernel_rfl) (by kernel_rfl) (by kernel_rfl) (fun _ _ _ h => h) (Or.inr ⟨by rfl, rfl⟩) (by assumption) ?_
                        simp only [Act.put, List.getElem_toArray, List.getElem_cons_zero, List.getElem_cons_succ, List.setIfInBounds_toArray, List.set_cons_zero, List.set_cons_succ]
                        refine wpAnyH_take (i := 14) (v := undef) rfl (by kernel_rfl) (by kernel_rfl) (by kernel_rfl) (fun _ _ _ h => h) (Or.inr ⟨by rfl, rfl⟩) (by assumption) ?_
                        simp only [Act.put, List.getElem_toArray, List.getElem_cons_zero, List.getElem_cons_succ, List.setIfInBounds_toArray, List.set_cons_zero, List.set_cons_succ]
                        refine wpAnyH_take (i := 15) (v := undef) rfl (by kernel_rfl) (by kernel_rfl) (by kernel_rfl) (fun _ _ _ h => h) (Or.inr ⟨by rfl, rfl⟩) (by assumption) ?_
                        simp only [Act.put, List.getElem_toArray, List.getElem_cons_zero, List.getElem_cons_succ, List.setIfInBounds_toArray, List.set_cons_zero, List.set_cons_succ]
                        refine wpAnyH_take (i := 16) (v := undef) rfl (by kernel_rfl) (by kernel_rfl) (by kernel_rfl) (fun _ _ _ h => h) (Or.inr ⟨by rfl, rfl⟩) (by assumption) ?_
                        simp only [Act.put, List.getElem_toArray, List.getElem_cons_zero, List.getElem_cons_succ, List.setIfInBounds_toArray, List.set_cons_zero, List.set_cons_succ]
                        refine wpAnyH_take (i := 17) (v := undef) rfl (by kernel_rfl) (by kernel_rfl) (by kernel_rfl) (fun _ _ _ h => h) (Or.inr ⟨by rfl, rfl⟩) (by assumption) ?_
                        simp only [Act.put, List.getElem_toArray, List.getElem_cons_zero, List.getElem_cons_succ, List.setIfInBounds_toArray, List.set_cons_zero, List.set_cons_succ]
                        refine wpAnyH_take (i := 18) (v := undef) rfl (by kernel_rfl) (by kernel_rfl) (by kernel_rfl) (fun _ _ _ h => h) (Or.inr ⟨by rfl, rfl⟩) (by assumption) ?_
                        simp only [Act.put, List.getElem_toArray, List.getElem_cons_zero, List.getElem_cons_succ, List.setIfInBounds_toArray, List.set_cons_zero, List.set_cons_succ]
                        refine wpAnyH_take (i := 19) (v := undef) rfl (by kernel_rfl) (by kernel_rfl) (by kernel_rfl) (fun _ _ _ h => h) (Or.inr ⟨by rfl, rfl⟩) (by assumption) ?_
                        simp only [Act.put, List.getElem_toArray, List.getElem_cons_zero, List.getElem_cons_succ, List.setIfInBounds_toArray, List.set_cons_zero, List.set_cons_succ]
                        refine wpAnyH_take (i := 20) (v := ?_) rfl (by kernel_rfl) (by kernel_rfl) (by kernel_rfl) (fun _ _ _ h => h) (Or.inl ⟨by rfl, ?_⟩) (by assumption) ?_
                        rotate_left 1
                        · intro w hSw; (try dsimp only at hSw); go_simp; (try with_reducible rfl)
                        simp only [Act.put, List.getElem_toArray, List.getElem_cons_zero, List.getElem_cons_succ, List.setIfInBounds_toArray, List.set_cons_zero, List.set_cons_succ]
                        refine wpAnyH_take (i := 21) (v := ?_) rfl (by kernel_rfl) (by kernel_rfl) (by kernel_rfl) (fun _ _ _ h => h) (Or.inl ⟨by rfl, ?_⟩) (by assumption) ?_
                        rotate_left 1
                        · intro w hSw; (try dsimp only at hSw); go_simp; (try with_reducible rfl)
                        simp only [Act.put, List.getElem_toArray, List.getElem_cons_zero, List.getElem_cons_succ, List.setIfInBounds_toArray, List.set_cons_zero, List.set_cons_succ]
                        refine wpAnyH_done (by kernel_rfl) ?_ _
                        go_wp2_with fail
                        go_roundw
                        case rel => exact ⟨k + 1, HLT.out, by go_num, BOD.out, DND.out⟩
                        case measure => have := HLT.out; simp [intOf]; omega
                      · have hqI : ¬ ((r / 8 : Nat) : Int) < (len2 : Int) := by omega
                        go_wp2_with fail
                        have hsel : selB stay r = false := by unfold selB; rw [show nth stay (r / 8) = 0 from by unfold nth; simp [List.getD, List.getElem?_eq_none (Nat.le_of_not_lt (show ¬ r / 8 < stay.length from by rw [ST.out.1]; exact hq))]]; simp
                        have HF : Hid (s3.flushed (k : Int) = (secAt (s2).L k).1) := by show _ = _; rw [HFL.out]; unfold left1; rw [HSC.out, HRK.out]; simp [hsel]
                        have BOD : Hid (Both w wr.drew d F3 s3 k0 (.slice (some ⟨g1, 0, none⟩) k0 cp1) (.slice (some ⟨g2, 0, none⟩) k0 cp2) (fun j => (secAt (s2).L j).1) (fun j => Sec.now (secAt (s2).L j)) G1 G2) := ⟨⟨BO.out.m.at_.kept (R := fun _ => False) (Keep.refl _ _).drew (fun _ _ h => h), BO.out.m.lo, BO.out.m.bel.drew⟩, BO.out.r1, BO.out.r2, BO.out.d1, BO.out.d2, BO.out.d12⟩
                        have DND : Hid (wr.drew.ownsRow w.heap.size 3 1 (.slice A4 D.length c4) D.length (D.map (kv .i64))) := DN.out
                        have V1 : Hid (Rd wr.drew wr.drew.heap.size A6 n6 (secAt (s2).L k).1) := by
                          have h := W1.out
                          have e : Sec.now (secAt (s2).L k) = c := by unfold Sec.now; rw [HSC.out]; rfl
                          try rw [e] at h
                          exact h
                        clear hsel
                        generalize hwd : wr.drew = wd at *
                        have HWD := Lib.hid hwd
                        clear hwd BO DN W1 W2 Y1 Y2 y1 y2
                        refine wp_region_held_drew (S := (fun _ => True)) (by kernel_rfl) (trivial) (fun hHeld => ?_)
                        rw [HWD.out]
                        refine wpAnyH_take (i := 0) (v := ?_) rfl (by kernel_rfl) (by kernel_rfl) (by kernel_rfl) (fun _ _ _ h => h) (Or.inl ⟨by rfl, ?_⟩) (by assumption) ?_
                        rotate_left 1
                        · intro w hSw; (try dsimp only at hSw); go_simp; (try with_reducible rfl)
                        simp only [Act.put, List.getElem_toArray, List.getElem_cons_zero, List.getElem_cons_succ, List.setIfInBounds_toArray, List.set_cons_zero, List.set_cons_succ]
                        refine wpAnyH_take (i := 1) (v := ?_) rfl (by kernel_rfl) (by kernel_rfl) (by kernel_rfl) (fun _ _ _ h => h) (Or.inl ⟨by rfl, ?_⟩) (by assumption) ?_
                        rotate_left 1
                        · intro w hSw; (try dsimp only at hSw); go_simp; (try with_reducible rfl)
                        simp only [Act.put, List.getElem_toArray, List.getElem_cons_zero, List.getElem_cons_succ, List.setIfInBounds_toArray, List.set_cons_zero, List.set_cons_succ]
                        refine wpAnyH_take (i := 3) (v := ?_) rfl (by kernel_rfl) (by kernel_rfl) (by kernel_rfl) (fun _ _ _ h => h) (Or.inl ⟨by rfl, ?_⟩) (by assumption) ?_
                        rotate_left 1
                        · intro w hSw; (try dsimp only at hSw); go_simp; (try with_reducible rfl)
                        simp only [Act.put, List.getElem_toArray, List.getElem_cons_zero, List.getElem_cons_succ, List.setIfInBounds_toArray, List.set_cons_zero, List.set_cons_succ]
                        refine wpAnyH_ready (rs := [2]) (by kernel_rfl) (by simp) ?_
                        refine AllReadyH.cons rfl (fun K hK => ?_) AllReadyH.nil
                        go_simp
                        refine (dFlushed d F3 s3 k wd BOD.out.m.at_).mono ?_
                        rw [HF.out]
                        rintro e z1 ⟨A8, n8, c8, rfl, hown, hb⟩
                        have V8 := Lib.hid (Rd.of_own hown)
                        replace BOD := Lib.hid (BOD.out.to hb)
                        replace DND := Lib.hid (own_below DND.out hb)
                        replace V1 := Lib.hid (V1.out.to hb)
                        clear hown hb
                        go_wp2_with fail
                        refine hK.out _ _ (trivial) (fun hHeld => ?_)
                        clear hK K
                        refine wpAnyH_ready (rs := [4]) (by kernel_rfl) (by simp) ?_
                        refine AllReadyH.cons rfl (fun K hK => ?_) AllReadyH.nil
                        go_simp
                        refine (wSame A8 A6 n8 n6 c8 c6 _ (secAt (s2).L k).1 (secAt (s2).L k).1 _ V8.out V1.out).mono ?_
                        rw [show decide ((secAt (s2).L k).1 = (secAt (s2).L k).1) = true from decide_eq_true rfl]
                        rintro e z2 ⟨rfl, rfl⟩
                        go_wp2_with fail
                        refine hK.out _ _ (trivial) (fun hHeld => ?_)
                        clear hK K
                        refine wpAnyH_take (i := 5) (v := ?_) rfl (by kernel_rfl) (by kernel_rfl) (by kernel_rfl) (fun _ _ _ h => h) (Or.inl ⟨by rfl, ?_⟩) (by assumption) ?_
                        rotate_left 1
                        · intro w hSw; (try dsimp only at hSw); go_simp; (try with_reducible rfl)
                        simp only [Act.put, List.getElem_toArray, List.getElem_cons_zero, List.getElem_cons_succ, List.setIfInBounds_toArray, List.set_cons_zero, List.set_cons_succ]
                        refine wpAnyH_take (i := 6) (v := ?_) rfl (by kernel_rfl) (by kernel_rfl) (by kernel_rfl) (fun _ _ _ h => h) (Or.inl ⟨by rfl, ?_⟩) (by assumption) ?_
                        rotate_left 1
                        · intro w hSw; (try dsimp only at hSw); go_simp; (try with_reducible rfl)
                        simp only [Act.put, List.getElem_toArray, List.getElem_cons_zero, List.getElem_cons_succ, List.setIfInBounds_toArray, List.set_cons_zero, List.set_cons_succ]
                        refine wpAnyH_take (i := 7) (v := ?_) rfl (by kernel_rfl) (by kernel_rfl) (by kernel_rfl) (fun _ _ _ h => h) (Or.inl ⟨by rfl, ?_⟩) (by assumption) ?_
                        rotate_left 1
                        · intro w hSw; (try dsimp only at hSw); go_simp; (try with_reducible rfl)
                        simp only [Act.put, List.getElem_toArray, List.getElem_cons_zero, List.getElem_cons_succ, List.setIfInBounds_toArray, List.set_cons_zero, List.set_cons_succ]
                        refine wpAnyH_take (i := 8) (v := ?_) rfl (by kernel_rfl) (by kernel_rfl) (by kernel_rfl) (fun _ _ _ h => h) (Or.inl ⟨by rfl, ?_⟩) (by assumption) ?_
                        rotate_left 1
                        · intro w hSw; (try dsimp only at hSw); go_simp; (try with_reducible rfl)
                        simp only [Act.put, List.getElem_toArray, List.getElem_cons_zero, List.getElem_cons_succ, List.setIfInBounds_toArray, List.set_cons_zero, List.set_cons_succ]
                        refine wpAnyH_take (i := 9) (v := ?_) rfl (by kernel_rfl) (by kernel_rfl) (by kernel_rfl) (fun _ _ _ h => h) (Or.inl ⟨by rfl, ?_⟩) (by assumption) ?_
                        rotate_left 1
                        · intro w hSw; (try dsimp only at hSw); go_simp; (try with_reducible rfl)
                        simp only [Act.put, List.getElem_toArray, List.getElem_cons_zero, List.getElem_cons_succ, List.setIfInBounds_toArray, List.set_cons_zero, List.set_cons_succ]
                        refine wpAnyH_take (i := 10) (v := undef) rfl (by kernel_rfl) (by kernel_rfl) (by kernel_rfl) (fun _ _ _ h => h) (Or.inr ⟨by rfl, rfl⟩) (by assumption) ?_
                        simp only [Act.put, List.getElem_toArray, List.getElem_cons_zero, List.getElem_cons_succ, List.setIfInBounds_toArray, List.set_cons_zero, List.set_cons_succ]
                        refine wpAnyH_take (i := 11) (v := undef) rfl (by kernel_rfl) (by kernel_rfl) (by kernel_rfl) (fun _ _ _ h => h) (Or.inr ⟨by rfl, rfl⟩) (by assumption) ?_
                        simp only [Act.put, List.getElem_toArray, List.getElem_cons_zero, List.getElem_cons_succ, List.setIfInBounds_toArray, List.set_cons_zero, List.set_cons_succ]
                        refine wpAnyH_take (i := 12) (v := undef) rfl (by kernel_rfl) (by kernel_rfl) (by kernel_rfl) (fun _ _ _ h => h) (Or.inr ⟨by rfl, rfl⟩) (by assumption) ?_
                        simp only [Act.put, List.getElem_toArray, List.getElem_cons_zero, List.getElem_cons_succ, List.setIfInBounds_toArray, List.set_cons_zero, List.set_cons_succ]
                        refine wpAnyH_take (i := 13) (v := undef) rfl (by kernel_rfl) (by kernel_rfl) (by kernel_rfl) (fun _ _ _ h => h) (Or.inr ⟨by rfl, rfl⟩) (by assumption) ?_
                        simp only [Act.put, List.getElem_toArray, List.getElem_cons_zero, List.getElem_cons_succ, List.setIfInBounds_toArray, List.set_cons_zero, List.set_cons_succ]
                        refine wpAnyH_take (i := 14) (v := undef) rfl (by kernel_rfl) (by kernel_rfl) (by kernel_rfl) (fun _ _ _ h => h) (Or.inr ⟨by rfl, rfl⟩) (by assumption) ?_
                        simp only [Act.put, List.getElem_toArray, List.getElem_cons_zero, List.getElem_cons_succ, List.setIfInBounds_toArray, List.set_cons_zero, List.set_cons_succ]
                        refine wpAnyH_take (i := 15) (v := undef) rfl (by kernel_rfl) (by kernel_rfl) (by kernel_rfl) (fun _ _ _ h => h) (Or.inr ⟨by rfl, rfl⟩) (by assumption) ?_
                        simp only [Act.put, List.getElem_toArray, List.getElem_cons_zero, List.getElem_cons_succ, List.setIfInBounds_toArray, List.set_cons_zero, List.set_cons_succ]
                        refine wpAnyH_take (i := 16) (v := undef) rfl (by kernel_rfl) (by kernel_rfl) (by kernel_rfl) (fun _ _ _ h => h) (Or.inr ⟨by rfl, rfl⟩) (by assumption) ?_
                        simp only [Act.put, List.getElem_toArray, List.getElem_cons_zero, List.getElem_cons_succ, List.setIfInBounds_toArray, List.set_cons_zero, List.set_cons_succ]
                        refine wpAnyH_take (i := 17) (v := undef) rfl (by kernel_rfl) (by kernel_rfl) (by kernel_rfl) (fun _ _ _ h => h) (Or.inr ⟨by rfl, rfl⟩) (by assumption) ?_
                        simp only [Act.put, List.getElem_toArray, List.getElem_cons_zero, List.getElem_cons_succ, List.setIfInBounds_toArray, List.set_cons_zero, List.set_cons_succ]
                        refine wpAnyH_take (i := 18) (v := undef) rfl (by kernel_rfl) (by kernel_rfl) (by kernel_rfl) (fun _ _ _ h => h) (Or.inr ⟨by rfl, rfl⟩) (by assumption) ?_
                        simp only [Act.put, List.getElem_toArray, List.getElem_cons_zero, List.getElem_cons_succ, List.setIfInBounds_toArray, List.set_cons_zero, List.set_cons_succ]
                        refine wpAnyH_take (i := 19) (v := undef) rfl (by kernel_rfl) (by kernel_rfl) (by kernel_rfl) (fun _ _ _ h => h) (Or.inr ⟨by rfl, rfl⟩) (by assumption) ?_
                        simp only [Act.put, List.getElem_toArray, List.getElem_cons_zero, List.getElem_cons_succ, List.setIfInBounds_toArray, List.set_cons_zero, List.set_cons_succ]
                        refine wpAnyH_take (i := 20) (v := ?_) rfl (by kernel_rfl) (by kernel_rfl) (by kernel_rfl) (fun _ _ _ h => h) (Or.inl ⟨by rfl, ?_⟩) (by assumption) ?_
                        rotate_left 1
                        · intro w hSw; (try dsimp only at hSw); go_simp; (try with_reducible rfl)
                        simp only [Act.put, List.getElem_toArray, List.getElem_cons_zero, List.getElem_cons_succ, List.setIfInBounds_toArray, List.set_cons_zero, List.set_cons_succ]
                        refine wpAnyH_take (i := 21) (v := ?_) rfl (by kernel_rfl) (by kernel_rfl) (by kernel_rfl) (fun _ _ _ h => h) (Or.inl ⟨by rfl, ?_⟩) (by assumption) ?_
                        rotate_left 1
                        · intro w hSw; (try dsimp only at hSw); go_simp; (try with_reducible rfl)
                        simp only [Act.put, List.getElem_toArray, List.getElem_cons_zero, List.getElem_cons_succ, List.setIfInBounds_toArray, List.set_cons_zero, List.set_cons_succ]
                        refine wpAnyH_done (by kernel_rfl) ?_ _
                        go_wp2_with fail
                        go_roundw
                        case rel => exact ⟨k + 1, HLT.out, by go_num, BOD.out, DND.out⟩
                        case measure => have := HLT.out; simp [intOf]; omega
              · obtain rfl : k0 = k := by have := HK.out; omega
                go_wp2_with fail
                go_ret
                exact ⟨rfl, BO.out.m.bel⟩
      · rw [hu] at hup
        refine hup.mono ?_
        rintro e w4 ⟨rfl, rfl⟩
        have HU := Lib.hid hu
        clear hup hu
        go_wp2_with fail
        clear HK
        go_loopw [10, 11, 12] (fun v1 v2 q wr => WhRel w s k0 v1 v2 q wr d F1) (fun _ _ q _ => k0 - (intOf q).toNat)
        case atStart => exact ⟨0, fun _ => False, fun _ => False, Nat.zero_le _, rfl, ⟨M.out, RowsN.nil _ _ _, RowsN.nil _ _ _, fun _ h => h.elim, fun _ h => h.elim, fun _ h => h.elim⟩⟩
        case round =>
          clear M
          obtain ⟨k, G1, G2, hk, rfl, hbo⟩ := hrel
          have BO := Lib.hid hbo
          have HK : Hid (k ≤ k0) := hk
          clear hbo hk
          by_cases hlt : k < k0
          · have HLT : Hid (k < k0) := hlt
            have hc := dRead d F1 s k wr BO.out.m.at_
            rw [read_up HU.out (by rw [HLEN.out]; exact hlt)] at hc
            have HC := Lib.hid hc
            clear hc
            go_wp2_with fail
            refine HC.out.mono ?_
            rintro e w5 ⟨A, m, c, rfl, hrow, hbl⟩
            have ROW := Lib.hid hrow
            have BL := Lib.hid hbl
            have BO5 := Lib.hid (BO.out.to hbl)
            have hc := dFlushed d F1 s k w5 BO5.out.m.at_
            rw [flushed_in (by rw [HLEN.out]; exact HLT.out)] at hc
            replace HC := Lib.hid hc
            clear hrow hbl hc
            go_wp2_with fail
            refine HC.out.mono ?_
            rintro e w6 ⟨A2, m2, c2, rfl, hrow, hbl⟩
            have BO6 := Lib.hid (BO5.out.to hbl)
            have ROW6 := Lib.hid (own_below ROW.out hbl)
            have ROW2 := Lib.hid hrow
            have BL6 := Lib.hid hbl
            clear hrow hbl HC
            go_wp2_with (at_builtin; first
              | (refine wpList_pushM (k := k) (f := fun j => (secAt (s).L j).1) (G := G1) (A := A2) (n := m2) (c := c2) rfl (.tmp 64) (.tmp 68) rfl rfl rfl BO6.out.r1 ROW2.out (fun j hg hj => by have := BO5.out.r1.lt j hg; omega) BO5.out.m.bel.size BL6.out.size (by have := HLT.out; have := HK12.out; omega) ?_
                 intro v1' w7 G1' hown1 hG1 hkeep1
                 have ROW7 : Hid (w7.ownsRow wr.heap.size _ 1 (.slice A m c) m _) := own_kept ROW6.out hkeep1 (fun b e hg => by have := own_ge ROW.out e; have := BO.out.r1.lt b hg; omega)
                 have K1 := Lib.hid hkeep1
                 have O1 := Lib.hid hown1
                 have HG1 := Lib.hid hG1
                 clear hown1 hG1 hkeep1
                 have R27 : Hid (RowsN w7 w.heap.size k _ (fun j => Sec.now (secAt (s).L j)) G2) := BO6.out.r2.kept K1.out (fun j hg hg1 => BO.out.d12 j hg1 hg)
                 have OF7 : Hid (∀ j, G2 j → wr.heap.size ≤ j → ∀ o, A ≠ some ⟨j, o, none⟩) := fun j hg hj => by have := BO.out.r2.lt j hg; omega
                 have SZ7 : Hid (wr.heap.size ≤ w7.heap.size) := by have := BL.out.size; have := BL6.out.size; have := K1.out.size; show _ ≤ _; omega)
              | (refine wpList_pushM (k := k) (f := fun j => Sec.now (secAt (s).L j)) (G := G2) (A := A) (n := m) (c := c) rfl (.tmp 70) (.tmp 72) rfl rfl rfl R27.out ROW7.out OF7.out BO.out.m.bel.size SZ7.out (by have := HLT.out; have := HK12.out; omega) ?_
                 intro v2' w8 G2' hown2 hG2 hkeep2))
            have BO8 : Hid (Both w w8 d F1 s (k + 1) v1' v2' (fun j => (secAt (s).L j).1) (fun j => Sec.now (secAt (s).L j)) G1' G2') := by
              have hs5 := BL.out.size
              have hs6 := BL6.out.size
              have hs7 := K1.out.size
              have hA : ∀ j, (wr.heap.size ≤ j ∧ ∃ o, A = some ⟨j, o, none⟩) → wr.heap.size ≤ j ∧ j < w5.heap.size := fun j hj => ⟨hj.1, by
                obtain ⟨o, e⟩ := hj.2
                have := (Rd.of_own ROW.out).lts
                by_cases hm : 0 < m
                · exact this hm j o e
                · obtain ⟨hq, hh⟩ := ROW.out
                  rcases hh with h | ⟨g, cap, cur, e', hg, hh, _⟩
                  · rw [e] at h; cases h.1
                  · rw [e] at e'
                    injection e' with e1
                    injection e1 with e1
                    injection e1 with e1
                    subst e1
                    exact heap_at_lt hh⟩
              have hA2 : ∀ j, (w5.heap.size ≤ j ∧ ∃ o, A2 = some ⟨j, o, none⟩) → w5.heap.size ≤ j := fun j hj => hj.1
              refine ⟨((BO6.out.m.kept K1.out (fun j hg => ⟨BO.out.r1.2 j hg, BO.out.d1 j hg⟩)).kept hkeep2 (fun j hg => ⟨BO.out.r2.2 j hg, BO.out.d2 j hg⟩)), O1.out.kept hkeep2 (fun j hg1 hg2 => ?_), hown2, fun j hg hf => ?_, fun j hg hf => ?_, fun j hg1 hg2 => ?_⟩
              · have := BO.out.r2.lt j hg2
                rcases HG1.out j hg1 with h | h | h
                · exact BO.out.d12 j h hg2
                · omega
                · omega
              · have := BO.out.m.at_.lt j hf
                rcases HG1.out j hg with h | h | h
                · exact BO.out.d1 j h hf
                · omega
                · omega
              · have := BO.out.m.at_.lt j hf
                rcases hG2 j hg with h | h | h
                · exact BO.out.d2 j h hf
                · omega
                · omega
              · have hl1 := O1.out.lt j hg1
                rcases HG1.out j hg1 with h | h | h
                · have := BO.out.r1.lt j h
                  rcases hG2 j hg2 with h' | h' | h'
                  · exact BO.out.d12 j h h'
                  · omega
                  · omega
                · rcases hG2 j hg2 with h' | h' | h'
                  · have := BO.out.r2.lt j h'; omega
                  · have := (hA j h').2; omega
                  · omega
                · rcases hG2 j hg2 with h' | h' | h'
                  · have := BO.out.r2.lt j h'; omega
                  · have := (hA j h').2; omega
                  · omega
            clear hown2 hG2 hkeep2 ROW ROW6 ROW2 ROW7 BO BO5 BO6 K1 O1 HG1 BL BL6 R27 OF7 SZ7
            go_roundw
            case rel => exact ⟨k + 1, G1', G2', HLT.out, by go_num, BO8.out⟩
            case measure => have := HLT.out; simp [intOf]; omega
          · obtain rfl : k0 = k := by have := HK.out; omega
            go_wp2_with fail
            refine (dDirty d F1 s wr BO.out.m.at_).mono ?_
            rintro e x1 ⟨A4, c4, rfl, hown, hb⟩
            have BO1 := Lib.hid (BO.out.to hb)
            have DOWN := Lib.hid hown
            have SZB := Lib.hid BO.out.m.bel.size
            have LTB : Hid (∀ b, F1 b → b < wr.heap.size) := BO.out.m.at_.lt
            have hw : ∀ k, k < k0 → (atOf (dirtyL (s).L) k (dirtyL (s).L).length = -1 ∧ (secAt (s).L k).2 = none) ∨ (∃ r : Nat, atOf (dirtyL (s).L) k (dirtyL (s).L).length = (r : Int) ∧ r < 12 ∧ rank (s).L k = r ∧ ∃ c, (secAt (s).L k).2 = some c) := fun k hk => by
              have hl := HLEN.out
              have h12 := HK12.out
              rcases at_whole (s).L (k := k) (by omega) with h | ⟨r, h1, h2, h3⟩
              · exact .inl h
              · exact .inr ⟨r, h1, by omega, h3⟩
            have hdl : (dirtyL (s).L).length ≤ 12 := by
              have := dirtyFrom_le 0 (s).L
              have h1 := HLEN.out
              have h2 := HK12.out
              show (dirtyFrom 0 (s).L).length ≤ 12
              omega
            have HW := Lib.hid hw
            have HDL := Lib.hid hdl
            clear hown hb BO hw hdl
            generalize dirtyL (s).L = D at *
            have hst := ST.out.to BO1.out.m.bel
            have hc := dCrash d F1 s a2 len2 cap2 stay x1 BO1.out.m.at_ hst HC3.out.1 HC3.out.2
            have HC := Lib.hid hc
            clear hc hst
            go_wp2_with fail
            refine HC.out.mono ?_
            rintro e x2 h6
            obtain ⟨rfl, F3, hd⟩ := h6.get (n := 0) (s' := (s).fall (selB stay)) BO1.out.m (by unfold DS.crash; rw [if_neg (by rw [HU.out]; decide)])
            have BO2 := Lib.hid (BO1.out.act hd)
            have DOWN2 := Lib.hid (own_kept DOWN.out hd.keep (fun b e hf => by have := own_ge DOWN.out e; have := LTB.out b hf; omega))
            have hc := dDirty d F3 ((s).fall (selB stay)) x2 BO2.out.m.at_
            rw [show ((s).fall (selB stay)).L = fallL (selB stay) 0 (s).L from rfl, dirtyL_fall] at hc
            replace HC := Lib.hid hc
            clear hd h6 hc BO1 DOWN LTB
            go_wp2_with fail
            refine (dUp d F3 ((s).fall (selB stay)) x2 BO2.out.m.at_).mono ?_
            rintro e x' ⟨rfl, rfl⟩
            rw [show ((s).fall (selB stay)).up = false from rfl]
            go_wp2_with fail
            refine HC.out.mono ?_
            rintro e x3 ⟨A5, c5, rfl, hown, hb⟩
            have BO3 := Lib.hid (BO2.out.to hb)
            have DOWN3 := Lib.hid (own_mono (own_below DOWN2.out hb) SZB.out)
            have FL : Hid (∀ k, k < k0 → ((s).fall (selB stay)).flushed (k : Int) = left1 (selB stay) (rank (s).L k) (secAt (s).L k)) := fun k hk => by
              have hl := HLEN.out
              rw [flushed_in (by show k < (fallL _ _ _).length; rw [fallL_length]; omega)]
              show (secAt (fallL _ _ _) k).1 = _
              rw [fallL_at _ (by omega)]
            clear hown hb HC BO2 DOWN2 SZB
            generalize (s).fall (selB stay) = s3 at *
            go_wp2_with fail
            obtain ⟨g1, cp1, _, _, _, rfl, _, _⟩ := BO3.out.r1.at_ (j := 0) (by have := HK1.out; omega)
            obtain ⟨g2, cp2, _, _, _, rfl, _, _⟩ := BO3.out.r2.at_ (j := 0) (by have := HK1.out; omega)
            go_loopw [16] (fun q wr => ∃ k : Nat, k ≤ k0 ∧ q = .int .i64 (k : Int) ∧ Both w wr d F3 s3 k0 (.slice (some ⟨g1, 0, none⟩) k0 cp1) (.slice (some ⟨g2, 0, none⟩) k0 cp2) (fun j => (secAt (s).L j).1) (fun j => Sec.now (secAt (s).L j)) G1 G2 ∧ wr.ownsRow w.heap.size 3 1 (.slice A4 D.length c4) D.length (D.map (kv .i64))) (fun q _ => k0 - (intOf q).toNat)
            case atStart => exact ⟨0, Nat.zero_le _, rfl, BO3.out, DOWN3.out⟩
            case round =>
              clear BO3 DOWN3
              obtain ⟨k, hk, rfl, hbo, hdn⟩ := hrel
              have BO := Lib.hid hbo
              have DN := Lib.hid hdn
              have HK : Hid (k ≤ k0) := hk
              clear hbo hdn hk
              by_cases hlt : k < k0
              · have HLT : Hid (k < k0) := hlt
                go_wp2_with fail
                go_loopw [17, 18] (fun at_ j wr' => AtRel D k wr at_ j wr') (fun _ j _ => D.length - (intOf j).toNat)
                case atStart => exact ⟨0, Nat.zero_le _, rfl, rfl, rfl⟩
                case round =>
                  obtain ⟨q, hq, rfl, rfl, rfl⟩ := hrel
                  have HQ : Hid (q ≤ D.length) := hq
                  clear hq
                  by_cases hltq : q < D.length
                  · have HLTQ : Hid (q < D.length) := hltq
                    obtain ⟨g, rfl, _⟩ := own_head DN.out (by omega)
                    have x0 := own_cellK DN.out hltq
                    have hqI : (q : Int) < (D.length : Int) := by omega
                    have hdI : (D.length : Int) ≤ 12 := by have := HDL.out; omega
                    by_cases heq : nx D q = k
                    · have EH := Lib.hid heq
                      have EA : Hid (atOf D k (q + 1) = (q : Int)) := by show atOf D k (q + 1) = _; unfold atOf; rw [if_pos heq]
                      clear heq
                      go_wp2_with fail
                      rotate_left 1
                      · exfalso; first | (rename_i hh; exact EH.out (Int.ofNat.inj (eq_of_beq hh))) | (rename_i hh; exact hh (congrArg Int.ofNat EH.out)) | (have := EH.out; omega) | (have := EH.out; simp_all)
                      go_roundw
                      case rel => exact ⟨q + 1, HLTQ.out, by go_num, by rw [EA.out], rfl⟩
                      case measure => have := HLTQ.out; simp [intOf]; omega
                    · have EH := Lib.hid heq
                      have EA : Hid (atOf D k (q + 1) = atOf D k q) := by show atOf D k (q + 1) = _; rw [atOf, if_neg heq]
                      clear heq
                      go_wp2_with fail
                      · exfalso; first | (rename_i hh; exact EH.out (Int.ofNat.inj (eq_of_beq hh))) | (rename_i hh; exact hh (congrArg Int.ofNat EH.out)) | (have := EH.out; omega) | (have := EH.out; simp_all)
                      go_roundw
                      case rel => exact ⟨q + 1, HLTQ.out, by go_num, by rw [EA.out], rfl⟩
                      case measure => have := HLTQ.out; simp [intOf]; omega
                  · obtain rfl : D.length = q := by have := HQ.out; omega
                    obtain ⟨_, _, A6, n6, c6, he1, y1, hw1⟩ := BO.out.r1.at_ HLT.out
                    injection he1 with he1 _ he1c
                    injection he1 with he1
                    injection he1 with he1
                    subst he1 he1c
                    obtain ⟨_, _, A7, n7, c7, he2, y2, hw2⟩ := BO.out.r2.at_ HLT.out
                    injection he2 with he2 _ he2c
                    injection he2 with he2
                    injection he2 with he2
                    subst he2 he2c
                    have W1 := Lib.hid hw1
                    have W2 := Lib.hid hw2
                    have Y1 := Lib.hid y1
                    have Y2 := Lib.hid y2
                    have HFL := Lib.hid (FL.out k HLT.out)
                    clear hw1 hw2
                    rcases HW.out k HLT.out with ⟨hat, hsn⟩ | ⟨r, hat, hr12, hrk, c, hsc⟩
                    · rw [hat]
                      have HSN := Lib.hid hsn
                      clear hat hsn
                      go_wp2_with fail
                      have HF : Hid (s3.flushed (k : Int) = (secAt (s).L k).1) := by show _ = _; rw [HFL.out]; unfold left1; rw [HSN.out]
                      have BOD : Hid (Both w wr.drew d F3 s3 k0 (.slice (some ⟨g1, 0, none⟩) k0 cp1) (.slice (some ⟨g2, 0, none⟩) k0 cp2) (fun j => (secAt (s).L j).1) (fun j => Sec.now (secAt (s).L j)) G1 G2) := ⟨⟨BO.out.m.at_.kept (R := fun _ => False) (Keep.refl _ _).drew (fun _ _ h => h), BO.out.m.lo, BO.out.m.bel.drew⟩, BO.out.r1, BO.out.r2, BO.out.d1, BO.out.d2, BO.out.d12⟩
                      have DND : Hid (wr.drew.ownsRow w.heap.size 3 1 (.slice A4 D.length c4) D.length (D.map (kv .i64))) := DN.out
                      have V1 : Hid (Rd wr.drew wr.drew.heap.size A6 n6 (secAt (s).L k).1) := W1.out
                      have V2 : Hid (Rd wr.drew wr.drew.heap.size A7 n7 (secAt (s).L k).1) := by
                        have h := W2.out
                        have e : Sec.now (secAt (s).L k) = (secAt (s).L k).1 := by unfold Sec.now; rw [HSN.out]; rfl
                        rw [← e]
                        exact h
                      have Z1 : Hid (wr.drew.cell? ⟨g1, k, none⟩ = some (.slice A6 n6 c6)) := Y1.out
                      have Z2 : Hid (wr.drew.cell? ⟨g2, k, none⟩ = some (.slice A7 n7 c7)) := Y2.out
                      generalize hwd : wr.drew = wd at *
                      have HWD := Lib.hid hwd
                      clear hwd BO DN W1 W2 Y1 Y2 y1 y2
                      refine wp_region_held_drew (S := (fun w' => w'.cell? ⟨g1, k, none⟩ = some (.slice A6 n6 c6) ∧ w'.cell? ⟨g2, k, none⟩ = some (.slice A7 n7 c7))) (by kernel_rfl) ((by rw [HWD.out]; exact ⟨Z1.out, Z2.out⟩)) (fun hHeld => ?_)
                      rw [HWD.out] at hHeld ⊢
                      refine wpAnyH_take (i := 0) (v := ?_) rfl (by kernel_rfl) (by kernel_rfl) (by kernel_rfl) (fun _ _ _ h => h) (Or.inl ⟨by rfl, ?_⟩) (by assumption) ?_
                      rotate_left 1
                      · intro w hSw; (try dsimp only at hSw); go_simp; (try with_reducible rfl)
                      simp only [Act.put, List.getElem_toArray, List.getElem_cons_zero, List.getElem_cons_succ, List.setIfInBounds_toArray, List.set_cons_zero, List.set_cons_succ]
                      refine wpAnyH_take (i := 1) (v := ?_) rfl (by kernel_rfl) (by kernel_rfl) (by kernel_rfl) (fun _ _ _ h => h) (Or.inl ⟨by rfl, ?_⟩) (by assumption) ?_
                      rotate_left 1
                      · intro w hSw; (try dsimp only at hSw); go_simp; (try with_reducible rfl)
                      simp only [Act.put, List.getElem_toArray, List.getElem_cons_zero, List.getElem_cons_succ, List.setIfInBounds_toArray, List.set_cons_zero, List.set_cons_succ]
                      refine wpAnyH_take (i := 3) (v := ?_) rfl (by kernel_rfl) (by kernel_rfl) (by kernel_rfl) (fun _ _ _ h => h) (Or.inl ⟨by rfl, ?_⟩) (by assumption) ?_
                      rotate_left 1
                      · intro w hSw; (try dsimp only at hSw); go_simp; (try with_reducible rfl)
                      simp only [Act.put, List.getElem_toArray, List.getElem_cons_zero, List.getElem_cons_succ, List.setIfInBounds_toArray, List.set_cons_zero, List.set_cons_succ]
                      refine wpAnyH_ready (rs := [2]) (by kernel_rfl) (by simp) ?_
                      refine AllReadyH.cons rfl (fun K hK => ?_) AllReadyH.nil
                      go_simp
                      refine (dFlushed d F3 s3 k wd BOD.out.m.at_).mono ?_
                      rw [HF.out]
                      rintro e z1 ⟨A8, n8, c8, rfl, hown, hb⟩
                      have V8 := Lib.hid (Rd.of_own hown)
                      replace Z1 := Lib.hid ((hb.cell (p := ⟨g1, k, none⟩) (rows_head_lt BOD.out.r1)).trans Z1.out)
                      replace Z2 := Lib.hid ((hb.cell (p := ⟨g2, k, none⟩) (rows_head_lt BOD.out.r2)).trans Z2.out)
                      replace BOD := Lib.hid (BOD.out.to hb)
                      replace DND := Lib.hid (own_below DND.out hb)
                      replace V1 := Lib.hid (V1.out.to hb)
                      replace V2 := Lib.hid (V2.out.to hb)
                      clear hown hb
                      go_wp2_with fail
                      refine hK.out _ _ (⟨Z1.out, Z2.out⟩) (fun hHeld => ?_)
                      clear hK K
                      refine wpAnyH_ready (rs := [4]) (by kernel_rfl) (by simp) ?_
                      refine AllReadyH.cons rfl (fun K hK => ?_) AllReadyH.nil
                      go_simp
                      refine (wSame A8 A6 n8 n6 c8 c6 _ (secAt (s).L k).1 (secAt (s).L k).1 _ V8.out V1.out).mono ?_
                      rw [show decide ((secAt (s).L k).1 = (secAt (s).L k).1) = true from decide_eq_true rfl]
                      rintro e z2 ⟨rfl, rfl⟩
                      go_wp2_with fail
                      refine hK.out _ _ (⟨Z1.out, Z2.out⟩) (fun hHeld => ?_)
                      clear hK K
                      refine wpAnyH_take (i := 5) (v := ?_) rfl (by kernel_rfl) (by kernel_rfl) (by kernel_rfl) (fun _ _ _ h => h) (Or.inl ⟨by rfl, ?_⟩) (by assumption) ?_
                      rotate_left 1
                      · intro w hSw; (try dsimp only at hSw); go_simp; (try with_reducible rfl)
                      simp only [Act.put, List.getElem_toArray, List.getElem_cons_zero, List.getElem_cons_succ, List.setIfInBounds_toArray, List.set_cons_zero, List.set_cons_succ]
                      refine wpAnyH_take (i := 6) (v := ?_) rfl (by kernel_rfl) (by kernel_rfl) (by kernel_rfl) (fun _ _ _ h => h) (Or.inl ⟨by rfl, ?_⟩) (by assumption) ?_
                      rotate_left 1
                      · intro w hSw; (try dsimp only at hSw); go_simp; (try with_reducible rfl)
                      simp only [Act.put, List.getElem_toArray, List.getElem_cons_zero, List.getElem_cons_succ, List.setIfInBounds_toArray, List.set_cons_zero, List.set_cons_succ]
                      refine wpAnyH_take (i := 7) (v := ?_) rfl (by kernel_rfl) (by kernel_rfl) (by kernel_rfl) (fun _ _ _ h => h) (Or.inl ⟨by rfl, ?_⟩) (by assumption) ?_
                      rotate_left 1
                      · intro w hSw; (try dsimp only at hSw); go_simp; (try with_reducible rfl)
                      simp only [Act.put, List.getElem_toArray, List.getElem_cons_zero, List.getElem_cons_succ, List.setIfInBounds_toArray, List.set_cons_zero, List.set_cons_succ]
                      refine wpAnyH_take (i := 8) (v := ?_) rfl (by kernel_rfl) (by kernel_rfl) (by kernel_rfl) (fun _ _ _ h => h) (Or.inl ⟨by rfl, ?_⟩) (by assumption) ?_
                      rotate_left 1
                      · intro w hSw; (try dsimp only at hSw); go_simp; (try with_reducible rfl)
                      simp only [Act.put, List.getElem_toArray, List.getElem_cons_zero, List.getElem_cons_succ, List.setIfInBounds_toArray, List.set_cons_zero, List.set_cons_succ]
                      refine wpAnyH_take (i := 9) (v := ?_) rfl (by kernel_rfl) (by kernel_rfl) (by kernel_rfl) (fun _ _ _ h => h) (Or.inl ⟨by rfl, ?_⟩) (by assumption) ?_
                      rotate_left 1
                      · intro w hSw; (try dsimp only at hSw); go_simp; (try with_reducible rfl)
                      simp only [Act.put, List.getElem_toArray, List.getElem_cons_zero, List.getElem_cons_succ, List.setIfInBounds_toArray, List.set_cons_zero, List.set_cons_succ]
                      refine wpAnyH_take (i := 10) (v := ?_) rfl (by kernel_rfl) (by kernel_rfl) (by kernel_rfl) (fun _ _ _ h => h) (Or.inl ⟨by rfl, ?_⟩) (by assumption) ?_
                      rotate_left 1
                      · intro w hSw; (try dsimp only at hSw); go_simp; (try with_reducible rfl)
                      simp only [Act.put, List.getElem_toArray, List.getElem_cons_zero, List.getElem_cons_succ, List.setIfInBounds_toArray, List.set_cons_zero, List.set_cons_succ]
                      refine wpAnyH_take (i := 11) (v := ?_) rfl (by kernel_rfl) (by kernel_rfl) (by kernel_rfl) (fun _ _ _ h => h) (Or.inl ⟨by rfl, ?_⟩) (by assumption) ?_
                      rotate_left 1
                      · intro w hSw; (try dsimp only at hSw); go_simp; (try with_reducible rfl)
                      simp only [Act.put, List.getElem_toArray, List.getElem_cons_zero, List.getElem_cons_succ, List.setIfInBounds_toArray, List.set_cons_zero, List.set_cons_succ]
                      refine wpAnyH_take (i := 12) (v := ?_) rfl (by kernel_rfl) (by kernel_rfl) (by kernel_rfl) (fun _ _ _ h => h) (Or.inl ⟨by rfl, ?_⟩) (by assumption) ?_
                      rotate_left 1
                      · intro w hSw; (try dsimp only at hSw); go_simp; (try with_reducible rfl)
                      simp only [Act.put, List.getElem_toArray, List.getElem_cons_zero, List.getElem_cons_succ, List.setIfInBounds_toArray, List.set_cons_zero, List.set_cons_succ]
                      refine wpAnyH_take (i := 13) (v := ?_) rfl (by kernel_rfl) (by kernel_rfl) (by kernel_rfl) (fun _ _ _ h => h) (Or.inl ⟨by rfl, ?_⟩) (by assumption) ?_
                      rotate_left 1
                      · intro w hSw; (try dsimp only at hSw); obtain ⟨hs1, hs2⟩ := hSw; go_simp; (try with_reducible rfl)
                      simp only [Act.put, List.getElem_toArray, List.getElem_cons_zero, List.getElem_cons_succ, List.setIfInBounds_toArray, List.set_cons_zero, List.set_cons_succ]
                      refine wpAnyH_take (i := 14) (v := ?_) rfl (by kernel_rfl) (by kernel_rfl) (by kernel_rfl) (fun _ _ _ h => h) (Or.inl ⟨by rfl, ?_⟩) (by assumption) ?_
                      rotate_left 1
                      · intro w hSw; (try dsimp only at hSw); go_simp; (try with_reducible rfl)
                      simp only [Act.put, List.getElem_toArray, List.getElem_cons_zero, List.getElem_cons_succ, List.setIfInBounds_toArray, List.set_cons_zero, List.set_cons_succ]
                      refine wpAnyH_take (i := 15) (v := ?_) rfl (by kernel_rfl) (by kernel_rfl) (by kernel_rfl) (fun _ _ _ h => h) (Or.inl ⟨by rfl, ?_⟩) (by assumption) ?_
                      rotate_left 1
                      · intro w hSw; (try dsimp only at hSw); go_simp; (try with_reducible rfl)
                      simp only [Act.put, List.getElem_toArray, List.getElem_cons_zero, List.getElem_cons_succ, List.setIfInBounds_toArray, List.set_cons_zero, List.set_cons_succ]
                      refine wpAnyH_take (i := 16) (v := ?_) rfl (by kernel_rfl) (by kernel_rfl) (by kernel_rfl) (fun _ _ _ h => h) (Or.inl ⟨by rfl, ?_⟩) (by assumption) ?_
                      rotate_left 1
                      · intro w hSw; (try dsimp only at hSw); go_simp; (try with_reducible rfl)
                      simp only [Act.put, List.getElem_toArray, List.getElem_cons_zero, List.getElem_cons_succ, List.setIfInBounds_toArray, List.set_cons_zero, List.set_cons_succ]
                      refine wpAnyH_take (i := 17) (v := ?_) rfl (by kernel_rfl) (by kernel_rfl) (by kernel_rfl) (fun _ _ _ h => h) (Or.inl ⟨by rfl, ?_⟩) (by assumption) ?_
                      rotate_left 1
                      · intro w hSw; (try dsimp only at hSw); obtain ⟨hs1, hs2⟩ := hSw; go_simp; (try with_reducible rfl)
                      simp only [Act.put, List.getElem_toArray, List.getElem_cons_zero, List.getElem_cons_succ, List.setIfInBounds_toArray, List.set_cons_zero, List.set_cons_succ]
                      refine wpAnyH_ready (rs := [18]) (by kernel_rfl) (by simp) ?_
                      refine AllReadyH.cons rfl (fun K hK => ?_) AllReadyH.nil
                      go_simp
                      refine (wSame A6 A7 n6 n7 c6 c7 _ (secAt (s).L k).1 (secAt (s).L k).1 _ V1.out V2.out).mono ?_
                      rw [show decide ((secAt (s).L k).1 = (secAt (s).L k).1) = true from decide_eq_true rfl]
                      rintro e z3 ⟨rfl, rfl⟩
                      go_wp2_with fail
                      refine hK.out _ _ (⟨Z1.out, Z2.out⟩) (fun hHeld => ?_)
                      clear hK K
                      refine wpAnyH_take (i := 19) (v := ?_) rfl (by kernel_rfl) (by kernel_rfl) (by kernel_rfl) (fun _ _ _ h => h) (Or.inl ⟨by rfl, ?_⟩) (by assumption) ?_
                      rotate_left 1
                      · intro w hSw; (try dsimp only at hSw); go_simp; (try with_reducible rfl)
                      simp only [Act.put, List.getElem_toArray, List.getElem_cons_zero, List.getElem_cons_succ, List.setIfInBounds_toArray, List.set_cons_zero, List.set_cons_succ]
                      refine wpAnyH_take (i := 20) (v := ?_) rfl (by kernel_rfl) (by kernel_rfl) (by kernel_rfl) (fun _ _ _ h => h) (Or.inl ⟨by rfl, ?_⟩) (by assumption) ?_
                      rotate_left 1
                      · intro w hSw; (try dsimp only at hSw); go_simp; (try with_reducible rfl)
                      simp only [Act.put, List.getElem_toArray, List.getElem_cons_zero, List.getElem_cons_succ, List.setIfInBounds_toArray, List.set_cons_zero, List.set_cons_succ]
                      refine wpAnyH_take (i := 21) (v := ?_) rfl (by kernel_rfl) (by kernel_rfl) (by kernel_rfl) (fun _ _ _ h => h) (Or.inl ⟨by rfl, ?_⟩) (by assumption) ?_
                      rotate_left 1
                      · intro w hSw; (try dsimp only at hSw); go_simp; (try with_reducible rfl)
                      simp only [Act.put, List.getElem_toArray, List.getElem_cons_zero, List.getElem_cons_succ, List.setIfInBounds_toArray, List.set_cons_zero, List.set_cons_succ]
                      refine wpAnyH_done (by kernel_rfl) ?_ _
                      go_wp2_with fail
                      go_roundw
                      case rel => exact ⟨k + 1, HLT.out, by go_num, BOD.out, DND.out⟩
                      case measure => have := HLT.out; simp [intOf]; omega
                    · rw [hat]
                      have HRK := Lib.hid hrk
                      have HSC := Lib.hid hsc
                      have e1 : (r : Int).tdiv 8 = ((r / 8 : Nat) : Int) := by rw [Int.tdiv_eq_ediv_of_nonneg (by omega)]; omega
                      have e2 : (r : Int).tmod 8 = ((r % 8 : Nat) : Int) := by rw [Int.tmod_eq_emod_of_nonneg (by omega)]; omega
                      clear hat hrk hsc
                      by_cases hq : r / 8 < len2
                      · obtain ⟨b, o, rfl, _, _⟩ := ST.out.2 (by omega)
                        have z0 := (ST.out.to BO.out.m.bel).at hq
                        have hqI : ((r / 8 : Nat) : Int) < (len2 : Int) := by omega
                        go_wp2_with fail
                        rotate_left 1
                        · have hsel : selB stay r = false := by
                            have hh : ((wrap64 (nth stay (r / 8) : Int) / 2 ^ (r % 8)).tmod 2 == 1) = false := by assumption
                            rw [bit64 _ _ (nth_lt _ _)] at hh; exact hh
                          have HF : Hid (s3.flushed (k : Int) = (secAt (s).L k).1) := by show _ = _; rw [HFL.out]; unfold left1; rw [HSC.out, HRK.out]; simp [hsel]
                          have BOD : Hid (Both w wr.drew d F3 s3 k0 (.slice (some ⟨g1, 0, none⟩) k0 cp1) (.slice (some ⟨g2, 0, none⟩) k0 cp2) (fun j => (secAt (s).L j).1) (fun j => Sec.now (secAt (s).L j)) G1 G2) := ⟨⟨BO.out.m.at_.kept (R := fun _ => False) (Keep.refl _ _).drew (fun _ _ h => h), BO.out.m.lo, BO.out.m.bel.drew⟩, BO.out.r1, BO.out.r2, BO.out.d1, BO.out.d2, BO.out.d12⟩
                          have DND : Hid (wr.drew.ownsRow w.heap.size 3 1 (.slice A4 D.length c4) D.length (D.map (kv .i64))) := DN.out
                          have V1 : Hid (Rd wr.drew wr.drew.heap.size A6 n6 (secAt (s).L k).1) := by
                            have h := W1.out
                            have e : Sec.now (secAt (s).L k) = c := by unfold Sec.now; rw [HSC.out]; rfl
                            try rw [e] at h
                            exact h
                          clear hsel
                          generalize hwd : wr.drew = wd at *
                          have HWD := Lib.hid hwd
                          clear hwd BO DN W1 W2 Y1 Y2 y1 y2
                          refine wp_region_held_drew (S := (fun _ => True)) (by kernel_rfl) (trivial) (fun hHeld => ?_)
                          rw [HWD.out]
                          refine wpAnyH_take (i := 0) (v := ?_) rfl (by kernel_rfl) (by kernel_rfl) (by kernel_rfl) (fun _ _ _ h => h) (Or.inl ⟨by rfl, ?_⟩) (by assumption) ?_
                          rotate_left 1
                          · intro w hSw; (try dsimp only at hSw); go_simp; (try with_reducible rfl)
                          simp only [Act.put, List.getElem_toArray, List.getElem_cons_zero, List.getElem_cons_succ, List.setIfInBounds_toArray, List.set_cons_zero, List.set_cons_succ]
                          refine wpAnyH_take (i := 1) (v := ?_) rfl (by kernel_rfl) (by kernel_rfl) (by kernel_rfl) (fun _ _ _ h => h) (Or.inl ⟨by rfl, ?_⟩) (by assumption) ?_
                          rotate_left 1
                          · intro w hSw; (try dsimp only at hSw); go_simp; (try with_reducible rfl)
                          simp only [Act.put, List.getElem_toArray, List.getElem_cons_zero, List.getElem_cons_succ, List.setIfInBounds_toArray, List.set_cons_zero, List.set_cons_succ]
                          refine wpAnyH_take (i := 3) (v := ?_) rfl (by kernel_rfl) (by kernel_rfl) (by kernel_rfl) (fun _ _ _ h => h) (Or.inl ⟨by rfl, ?_⟩) (by assumption) ?_
                          rotate_left 1
                          · intro w hSw; (try dsimp only at hSw); go_simp; (try with_reducible rfl)
                          simp only [Act.put, List.getElem_toArray, List.getElem_cons_zero, List.getElem_cons_succ, List.setIfInBounds_toArray, List.set_cons_zero, List.set_cons_succ]
                          refine wpAnyH_ready (rs := [2]) (by kernel_rfl) (by simp) ?_
                          refine AllReadyH.cons rfl (fun K hK => ?_) AllReadyH.nil
                          go_simp
                          refine (dFlushed d F3 s3 k wd BOD.out.m.at_).mono ?_
                          rw [HF.out]
                          rintro e z1 ⟨A8, n8, c8, rfl, hown, hb⟩
                          have V8 := Lib.hid (Rd.of_own hown)
                          replace BOD := Lib.hid (BOD.out.to hb)
                          replace DND := Lib.hid (own_below DND.out hb)
                          replace V1 := Lib.hid (V1.out.to hb)
                          clear hown hb
                          go_wp2_with fail
                          refine hK.out _ _ (trivial) (fun hHeld => ?_)
                          clear hK K
                          refine wpAnyH_ready (rs := [4]) (by kernel_rfl) (by simp) ?_
                          refine AllReadyH.cons rfl (fun K hK => ?_) AllReadyH.nil
                          go_simp
                          refine (wSame A8 A6 n8 n6 c8 c6 _ (secAt (s).L k).1 (secAt (s).L k).1 _ V8.out V1.out).mono ?_
                          rw [show decide ((secAt (s).L k).1 = (secAt (s).L k).1) = true from decide_eq_true rfl]
                          rintro e z2 ⟨rfl, rfl⟩
                          go_wp2_with fail
                          refine hK.out _ _ (trivial) (fun hHeld => ?_)
                          clear hK K
                          refine wpAnyH_take (i := 5) (v := ?_) rfl (by kernel_rfl) (by kernel_rfl) (by kernel_rfl) (fun _ _ _ h => h) (Or.inl ⟨by rfl, ?_⟩) (by assumption) ?_
                          rotate_left 1
                          · intro w hSw; (try dsimp only at hSw); go_simp; (try with_reducible rfl)
                          simp only [Act.put, List.getElem_toArray, List.getElem_cons_zero, List.getElem_cons_succ, List.setIfInBounds_toArray, List.set_cons_zero, List.set_cons_succ]
                          refine wpAnyH_take (i := 6) (v := ?_) rfl (by kernel_rfl) (by kernel_rfl) (by kernel_rfl) (fun _ _ _ h => h) (Or.inl ⟨by rfl, ?_⟩) (by assumption) ?_
                          rotate_left 1
                          · intro w hSw; (try dsimp only at hSw); go_simp; (try with_reducible rfl)
                          simp only [Act.put, List.getElem_toArray, List.getElem_cons_zero, List.getElem_cons_succ, List.setIfInBounds_toArray, List.set_cons_zero, List.set_cons_succ]
                          refine wpAnyH_take (i := 7) (v := ?_) rfl (by kernel_rfl) (by kernel_rfl) (by kernel_rfl) (fun _ _ _ h => h) (Or.inl ⟨by rfl, ?_⟩) (by assumption) ?_
                          rotate_left 1
                          · intro w hSw; (try dsimp only at hSw); go_simp; (try with_reducible rfl)
                          simp only [Act.put, List.getElem_toArray, List.getElem_cons_zero, List.getElem_cons_succ, List.setIfInBounds_toArray, List.set_cons_zero, List.set_cons_succ]
                          refine wpAnyH_take (i := 8) (v := ?_) rfl (by kernel_rfl) (by kernel_rfl) (by kernel_rfl) (fun _ _ _ h => h) (Or.inl ⟨by rfl, ?_⟩) (by assumption) ?_
                          rotate_left 1
                          · intro w hSw; (try dsimp only at hSw); go_simp; (try with_reducible rfl)
                          simp only [Act.put, List.getElem_toArray, List.getElem_cons_zero, List.getElem_cons_succ, List.setIfInBounds_toArray, List.set_cons_zero, List.set_cons_succ]
                          refine wpAnyH_take (i := 9) (v := ?_) rfl (by kernel_rfl) (by kernel_rfl) (by kernel_rfl) (fun _ _ _ h => h) (Or.inl ⟨by rfl, ?_⟩) (by assumption) ?_
                          rotate_left 1
                          · intro w hSw; (try dsimp only at hSw); go_simp; (try with_reducible rfl)
                          simp only [Act.put, List.getElem_toArray, List.getElem_cons_zero, List.getElem_cons_succ, List.setIfInBounds_toArray, List.set_cons_zero, List.set_cons_succ]
                          refine wpAnyH_take (i := 10) (v := undef) rfl (by kernel_rfl) (by kernel_rfl) (by kernel_rfl) (fun _ _ _ h => h) (Or.inr ⟨by rfl, rfl⟩) (by assumption) ?_
                          simp only [Act.put, List.getElem_toArray, List.getElem_cons_zero, List.getElem_cons_succ, List.setIfInBounds_toArray, List.set_cons_zero, List.set_cons_succ]
                          refine wpAnyH_take (i := 11) (v := undef) rfl (by kernel_rfl) (by kernel_rfl) (by kernel_rfl) (fun _ _ _ h => h) (Or.inr ⟨by rfl, rfl⟩) (by assumption) ?_
                          simp only [Act.put, List.getElem_toArray, List.getElem_cons_zero, List.getElem_cons_succ, List.setIfInBounds_toArray, List.set_cons_zero, List.set_cons_succ]
                          refine wpAnyH_take (i := 12) (v := undef) rfl (by kernel_rfl) (by kernel_rfl) (by kernel_rfl) (fun _ _ _ h => h) (Or.inr ⟨by rfl, rfl⟩) (by assumption) ?_
                          simp only [Act.put, List.getElem_toArray, List.getElem_cons_zero, List.getElem_cons_succ, List.setIfInBounds_toArray, List.set_cons_zero, List.set_cons_succ]
                          refine wpAnyH_take (i := 13) (v := undef) rfl (by kernel_rfl) (by kernel_rfl) (by kernel_rfl) (fun _ _ _ h => h) (Or.inr ⟨by rfl, rfl⟩) (by assumption) ?_
                          simp only [Act.put, List.getElem_toArray, List.getElem_cons_zero, List.getElem_cons_succ, List.setIfInBounds_toArray, List.set_cons_zero, List.set_cons_succ]
                          refine wpAnyH_take (i := 14) (v := undef) rfl (by kernel_rfl) (by kernel_rfl) (by kernel_rfl) (fun _ _ _ h => h) (Or.inr ⟨by rfl, rfl⟩) (by assumption) ?_
                          simp only [Act.put, List.getElem_toArray, List.getElem_cons_zero, List.getElem_cons_succ, List.setIfInBounds_toArray, List.set_cons_zero, List.set_cons_succ]
                          refine wpAnyH_take (i := 15) (v := undef) rfl (by kernel_rfl) (by kernel_rfl) (by kernel_rfl) (fun _ _ _ h => h) (Or.inr ⟨by rfl, rfl⟩) (by assumption) ?_
                          simp only [Act.put, List.getElem_toArray, List.getElem_cons_zero, List.getElem_cons_succ, List.setIfInBounds_toArray, List.set_cons_zero, List.set_cons_succ]
                          refine wpAnyH_take (i := 16) (v := undef) rfl (by kernel_rfl) (by kernel_rfl) (by kernel_rfl) (fun _ _ _ h => h) (Or.inr ⟨by rfl, rfl⟩) (by assumption) ?_
                          simp only [Act.put, List.getElem_toArray, List.getElem_cons_zero, List.getElem_cons_succ, List.setIfInBounds_toArray, List.set_cons_zero, List.set_cons_succ]
                          refine wpAnyH_take (i := 17) (v := undef) rfl (by kernel_rfl) (by kernel_rfl) (by kernel_rfl) (fun _ _ _ h => h) (Or.inr ⟨by rfl, rfl⟩) (by assumption) ?_
                          simp only [Act.put, List.getElem_toArray, List.getElem_cons_zero, List.getElem_cons_succ, List.setIfInBounds_toArray, List.set_cons_zero, List.set_cons_succ]
                          refine wpAnyH_take (i := 18) (v := undef) rfl (by kernel_rfl) (by kernel_rfl) (by kernel_rfl) (fun _ _ _ h => h) (Or.inr ⟨by rfl, rfl⟩) (by assumption) ?_
                          simp only [Act.put, List.getElem_toArray, List.getElem_cons_zero, List.getElem_cons_succ, List.setIfInBounds_toArray, List.set_cons_zero, List.set_cons_succ]
                          refine wpAnyH_take (i := 19) (v := undef) rfl (by kernel_rfl) (by kernel_rfl) (by kernel_rfl) (fun _ _ _ h => h) (Or.inr ⟨by rfl, rfl⟩) (by assumption) ?_
                          simp only [Act.put, List.getElem_toArray, List.getElem_cons_zero, List.getElem_cons_succ, List.setIfInBounds_toArray, List.set_cons_zero, List.set_cons_succ]
                          refine wpAnyH_take (i := 20) (v := ?_) rfl (by kernel_rfl) (by kernel_rfl) (by kernel_rfl) (fun _ _ _ h => h) (Or.inl ⟨by rfl, ?_⟩) (by assumption) ?_
                          rotate_left 1
                          · intro w hSw; (try dsimp only at hSw); go_simp; (try with_reducible rfl)
                          simp only [Act.put, List.getElem_toArray, List.getElem_cons_zero, List.getElem_cons_succ, List.setIfInBounds_toArray, List.set_cons_zero, List.set_cons_succ]
                          refine wpAnyH_take (i := 21) (v := ?_) rfl (by kernel_rfl) (by kernel_rfl) (by kernel_rfl) (fun _ _ _ h => h) (Or.inl ⟨by rfl, ?_⟩) (by assumption) ?_
                          rotate_left 1
                          · intro w hSw; (try dsimp only at hSw); go_simp; (try with_reducible rfl)
                          simp only [Act.put, List.getElem_toArray, List.getElem_cons_zero, List.getElem_cons_succ, List.setIfInBounds_toArray, List.set_cons_zero, List.set_cons_succ]
                          refine wpAnyH_done (by kernel_rfl) ?_ _
                          go_wp2_with fail
                          go_roundw
                          case rel => exact ⟨k + 1, HLT.out, by go_num, BOD.out, DND.out⟩
                          case measure => have := HLT.out; simp [intOf]; omega
                        have hsel : selB stay r = true := by
                          have hh : ((wrap64 (nth stay (r / 8) : Int) / 2 ^ (r % 8)).tmod 2 == 1) = true := by assumption
                          rw [bit64 _ _ (nth_lt _ _)] at hh; exact hh
                        have HF : Hid (s3.flushed (k : Int) = c) := by show _ = _; rw [HFL.out]; unfold left1; rw [HSC.out, HRK.out]; simp [hsel]
                        have BOD : Hid (Both w wr.drew d F3 s3 k0 (.slice (some ⟨g1, 0, none⟩) k0 cp1) (.slice (some ⟨g2, 0, none⟩) k0 cp2) (fun j => (secAt (s).L j).1) (fun j => Sec.now (secAt (s).L j)) G1 G2) := ⟨⟨BO.out.m.at_.kept (R := fun _ => False) (Keep.refl _ _).drew (fun _ _ h => h), BO.out.m.lo, BO.out.m.bel.drew⟩, BO.out.r1, BO.out.r2, BO.out.d1, BO.out.d2, BO.out.d12⟩
                        have DND : Hid (wr.drew.ownsRow w.heap.size 3 1 (.slice A4 D.length c4) D.length (D.map (kv .i64))) := DN.out
                        have V1 : Hid (Rd wr.drew wr.drew.heap.size A7 n7 c) := by
                          have h := W2.out
                          have e : Sec.now (secAt (s).L k) = c := by unfold Sec.now; rw [HSC.out]; rfl
                          try rw [e] at h
                          exact h
                        clear hsel
                        generalize hwd : wr.drew = wd at *
                        have HWD := Lib.hid hwd
                        clear hwd BO DN W1 W2 Y1 Y2 y1 y2
                        refine wp_region_held_drew (S := (fun _ => True)) (by kernel_rfl) (trivial) (fun hHeld => ?_)
                        rw [HWD.out]
                        refine wpAnyH_take (i := 0) (v := ?_) rfl (by kernel_rfl) (by kernel_rfl) (by kernel_rfl) (fun _ _ _ h => h) (Or.inl ⟨by rfl, ?_⟩) (by assumption) ?_
                        rotate_left 1
                        · intro w hSw; (try dsimp only at hSw); go_simp; (try with_reducible rfl)
                        simp only [Act.put, List.getElem_toArray, List.getElem_cons_zero, List.getElem_cons_succ, List.setIfInBounds_toArray, List.set_cons_zero, List.set_cons_succ]
                        refine wpAnyH_take (i := 1) (v := ?_) rfl (by kernel_rfl) (by kernel_rfl) (by kernel_rfl) (fun _ _ _ h => h) (Or.inl ⟨by rfl, ?_⟩) (by assumption) ?_
                        rotate_left 1
                        · intro w hSw; (try dsimp only at hSw); go_simp; (try with_reducible rfl)
                        simp only [Act.put, List.getElem_toArray, List.getElem_cons_zero, List.getElem_cons_succ, List.setIfInBounds_toArray, List.set_cons_zero, List.set_cons_succ]
                        refine wpAnyH_take (i := 3) (v := ?_) rfl (by kernel_rfl) (by kernel_rfl) (by kernel_rfl) (fun _ _ _ h => h) (Or.inl ⟨by rfl, ?_⟩) (by assumption) ?_
                        rotate_left 1
                        · intro w hSw; (try dsimp only at hSw); go_simp; (try with_reducible rfl)
                        simp only [Act.put, List.getElem_toArray, List.getElem_cons_zero, List.getElem_cons_succ, List.setIfInBounds_toArray, List.set_cons_zero, List.set_cons_succ]
                        refine wpAnyH_ready (rs := [2]) (by kernel_rfl) (by simp) ?_
                        refine AllReadyH.cons rfl (fun K hK => ?_) AllReadyH.nil
                        go_simp
                        refine (dFlushed d F3 s3 k wd BOD.out.m.at_).mono ?_
                        rw [HF.out]
                        rintro e z1 ⟨A8, n8, c8, rfl, hown, hb⟩
                        have V8 := Lib.hid (Rd.of_own hown)
                        replace BOD := Lib.hid (BOD.out.to hb)
                        replace DND := Lib.hid (own_below DND.out hb)
                        replace V1 := Lib.hid (V1.out.to hb)
                        clear hown hb
                        go_wp2_with fail
                        refine hK.out _ _ (trivial) (fun hHeld => ?_)
                        clear hK K
                        refine wpAnyH_ready (rs := [4]) (by kernel_rfl) (by simp) ?_
                        refine AllReadyH.cons rfl (fun K hK => ?_) AllReadyH.nil
                        go_simp
                        refine (wSame A8 A7 n8 n7 c8 c7 _ c c _ V8.out V1.out).mono ?_
                        rw [show decide (c = c) = true from decide_eq_true rfl]
                        rintro e z2 ⟨rfl, rfl⟩
                        go_wp2_with fail
                        refine hK.out _ _ (trivial) (fun hHeld => ?_)
                        clear hK K
                        refine wpAnyH_take (i := 5) (v := ?_) rfl (by kernel_rfl) (by kernel_rfl) (by kernel_rfl) (fun _ _ _ h => h) (Or.inl ⟨by rfl, ?_⟩) (by assumption) ?_
                        rotate_left 1
                        · intro w hSw; (try dsimp only at hSw); go_simp; (try with_reducible rfl)
                        simp only [Act.put, List.getElem_toArray, List.getElem_cons_zero, List.getElem_cons_succ, List.setIfInBounds_toArray, List.set_cons_zero, List.set_cons_succ]
                        refine wpAnyH_take (i := 6) (v := ?_) rfl (by kernel_rfl) (by kernel_rfl) (by kernel_rfl) (fun _ _ _ h => h) (Or.inl ⟨by rfl, ?_⟩) (by assumption) ?_
                        rotate_left 1
                        · intro w hSw; (try dsimp only at hSw); go_simp; (try with_reducible rfl)
                        simp only [Act.put, List.getElem_toArray, List.getElem_cons_zero, List.getElem_cons_succ, List.setIfInBounds_toArray, List.set_cons_zero, List.set_cons_succ]
                        refine wpAnyH_take (i := 7) (v := ?_) rfl (by kernel_rfl) (by kernel_rfl) (by kernel_rfl) (fun _ _ _ h => h) (Or.inl ⟨by rfl, ?_⟩) (by assumption) ?_
                        rotate_left 1
                        · intro w hSw; (try dsimp only at hSw); go_simp; (try with_reducible rfl)
                        simp only [Act.put, List.getElem_toArray, List.getElem_cons_zero, List.getElem_cons_succ, List.setIfInBounds_toArray, List.set_cons_zero, List.set_cons_succ]
                        refine wpAnyH_take (i := 8) (v := ?_) rfl (by kernel_rfl) (by kernel_rfl) (by kernel_rfl) (fun _ _ _ h => h) (Or.inl ⟨by rfl, ?_⟩) (by assumption) ?_
                        rotate_left 1
                        · intro w hSw; (try dsimp only at hSw); go_simp; (try with_reducible rfl)
                        simp only [Act.put, List.getElem_toArray, List.getElem_cons_zero, List.getElem_cons_succ, List.setIfInBounds_toArray, List.set_cons_zero, List.set_cons_succ]
                        refine wpAnyH_take (i := 9) (v := ?_) rfl (by kernel_rfl) (by kernel_rfl) (by kernel_rfl) (fun _ _ _ h => h) (Or.inl ⟨by rfl, ?_⟩) (by assumption) ?_
                        rotate_left 1
                        · intro w hSw; (try dsimp only at hSw); go_simp; (try with_reducible rfl)
                        simp only [Act.put, List.getElem_toArray, List.getElem_cons_zero, List.getElem_cons_succ, List.setIfInBounds_toArray, List.set_cons_zero, List.set_cons_succ]
                        refine wpAnyH_take (i := 10) (v := undef) rfl (by kernel_rfl) (by kernel_rfl) (by kernel_rfl) (fun _ _ _ h => h) (Or.inr ⟨by rfl, rfl⟩) (by assumption) ?_
                        simp only [Act.put, List.getElem_toArray, List.getElem_cons_zero, List.getElem_cons_succ, List.setIfInBounds_toArray, List.set_cons_zero, List.set_cons_succ]
                        refine wpAnyH_take (i := 11) (v := undef) rfl (by kernel_rfl) (by kernel_rfl) (by kernel_rfl) (fun _ _ _ h => h) (Or.inr ⟨by rfl, rfl⟩) (by assumption) ?_
                        simp only [Act.put, List.getElem_toArray, List.getElem_cons_zero, List.getElem_cons_succ, List.setIfInBounds_toArray, List.set_cons_zero, List.set_cons_succ]
                        refine wpAnyH_take (i := 12) (v := undef) rfl (by kernel_rfl) (by kernel_rfl) (by kernel_rfl) (fun _ _ _ h => h) (Or.inr ⟨by rfl, rfl⟩) (by assumption) ?_
                        simp only [Act.put, List.getElem_toArray, List.getElem_cons_zero, List.getElem_cons_succ, List.setIfInBounds_toArray, List.set_cons_zero, List.set_cons_succ]
                        refine wpAnyH_take (i := 13) (v := undef) rfl (by kernel_rfl) (by kernel_rfl) (by kernel_rfl) (fun _ _ _ h => h) (Or.inr ⟨by rfl, rfl⟩) (by assumption) ?_
                        simp only [Act.put, List.getElem_toArray, List.getElem_cons_zero, List.getElem_cons_succ, List.setIfInBounds_toArray, List.set_cons_zero, List.set_cons_succ]
                        refine wpAnyH_take (i := 14) (v := undef) rfl (by kernel_rfl) (by kernel_rfl) (by kernel_rfl) (fun _ _ _ h => h) (Or.inr ⟨by rfl, rfl⟩) (by assumption) ?_
                        simp only [Act.put, List.getElem_toArray, List.getElem_cons_zero, List.getElem_cons_succ, List.setIfInBounds_toArray, List.set_cons_zero, List.set_cons_succ]
                        refine wpAnyH_take (i := 15) (v := undef) rfl (by kernel_rfl) (by kernel_rfl) (by kernel_rfl) (fun _ _ _ h => h) (Or.inr ⟨by rfl, rfl⟩) (by assumption) ?_
                        simp only [Act.put, List.getElem_toArray, List.getElem_cons_zero, List.getElem_cons_succ, List.setIfInBounds_toArray, List.set_cons_zero, List.set_cons_succ]
                        refine wpAnyH_take (i := 16) (v := undef) rfl (by kernel_rfl) (by kernel_rfl) (by kernel_rfl) (fun _ _ _ h => h) (Or.inr ⟨by rfl, rfl⟩) (by assumption) ?_
                        simp only [Act.put, List.getElem_toArray, List.getElem_cons_zero, List.getElem_cons_succ, List.setIfInBounds_toArray, List.set_cons_zero, List.set_cons_succ]
                        refine wpAnyH_take (i := 17) (v := undef) rfl (by kernel_rfl) (by kernel_rfl) (by kernel_rfl) (fun _ _ _ h => h) (Or.inr ⟨by rfl, rfl⟩) (by assumption) ?_
                        simp only [Act.put, List.getElem_toArray, List.getElem_cons_zero, List.getElem_cons_succ, List.setIfInBounds_toArray, List.set_cons_zero, List.set_cons_succ]
                        refine wpAnyH_take (i := 18) (v := undef) rfl (by kernel_rfl) (by kernel_rfl) (by kernel_rfl) (fun _ _ _ h => h) (Or.inr ⟨by rfl, rfl⟩) (by assumption) ?_
                        simp only [Act.put, List.getElem_toArray, List.getElem_cons_zero, List.getElem_cons_succ, List.setIfInBounds_toArray, List.set_cons_zero, List.set_cons_succ]
                        refine wpAnyH_take (i := 19) (v := undef) rfl (by kernel_rfl) (by kernel_rfl) (by kernel_rfl) (fun _ _ _ h => h) (Or.inr ⟨by rfl, rfl⟩) (by assumption) ?_
                        simp only [Act.put, List.getElem_toArray, List.getElem_cons_zero, List.getElem_cons_succ, List.setIfInBounds_toArray, List.set_cons_zero, List.set_cons_succ]
                        refine wpAnyH_take (i := 20) (v := ?_) rfl (by kernel_rfl) (by kernel_rfl) (by kernel_rfl) (fun _ _ _ h => h) (Or.inl ⟨by rfl, ?_⟩) (by assumption) ?_
                        rotate_left 1
                        · intro w hSw; (try dsimp only at hSw); go_simp; (try with_reducible rfl)
                        simp only [Act.put, List.getElem_toArray, List.getElem_cons_zero, List.getElem_cons_succ, List.setIfInBounds_toArray, List.set_cons_zero, List.set_cons_succ]
                        refine wpAnyH_take (i := 21) (v := ?_) rfl (by kernel_rfl) (by kernel_rfl) (by kernel_rfl) (fun _ _ _ h => h) (Or.inl ⟨by rfl, ?_⟩) (by assumption) ?_
                        rotate_left 1
                        · intro w hSw; (try dsimp only at hSw); go_simp; (try with_reducible rfl)
                        simp only [Act.put, List.getElem_toArray, List.getElem_cons_zero, List.getElem_cons_succ, List.setIfInBounds_toArray, List.set_cons_zero, List.set_cons_succ]
                        refine wpAnyH_done (by kernel_rfl) ?_ _
                        go_wp2_with fail
                        go_roundw
                        case rel => exact ⟨k + 1, HLT.out, by go_num, BOD.out, DND.out⟩
                        case measure => have := HLT.out; simp [intOf]; omega
                      · have hqI : ¬ ((r / 8 : Nat) : Int) < (len2 : Int) := by omega
                        go_wp2_with fail
                        have hsel : selB stay r = false := by unfold selB; rw [show nth stay (r / 8) = 0 from by unfold nth; simp [List.getD, List.getElem?_eq_none (Nat.le_of_not_lt (show ¬ r / 8 < stay.length from by rw [ST.out.1]; exact hq))]]; simp
                        have HF : Hid (s3.flushed (k : Int) = (secAt (s).L k).1) := by show _ = _; rw [HFL.out]; unfold left1; rw [HSC.out, HRK.out]; simp [hsel]
                        have BOD : Hid (Both w wr.drew d F3 s3 k0 (.slice (some ⟨g1, 0, none⟩) k0 cp1) (.slice (some ⟨g2, 0, none⟩) k0 cp2) (fun j => (secAt (s).L j).1) (fun j => Sec.now (secAt (s).L j)) G1 G2) := ⟨⟨BO.out.m.at_.kept (R := fun _ => False) (Keep.refl _ _).drew (fun _ _ h => h), BO.out.m.lo, BO.out.m.bel.drew⟩, BO.out.r1, BO.out.r2, BO.out.d1, BO.out.d2, BO.out.d12⟩
                        have DND : Hid (wr.drew.ownsRow w.heap.size 3 1 (.slice A4 D.length c4) D.length (D.map (kv .i64))) := DN.out
                        have V1 : Hid (Rd wr.drew wr.drew.heap.size A6 n6 (secAt (s).L k).1) := by
                          have h := W1.out
                          have e : Sec.now (secAt (s).L k) = c := by unfold Sec.now; rw [HSC.out]; rfl
                          try rw [e] at h
                          exact h
                        clear hsel
                        generalize hwd : wr.drew = wd at *
                        have HWD := Lib.hid hwd
                        clear hwd BO DN W1 W2 Y1 Y2 y1 y2
                        refine wp_region_held_drew (S := (fun _ => True)) (by kernel_rfl) (trivial) (fun hHeld => ?_)
                        rw [HWD.out]
                        refine wpAnyH_take (i := 0) (v := ?_) rfl (by kernel_rfl) (by kernel_rfl) (by kernel_rfl) (fun _ _ _ h => h) (Or.inl ⟨by rfl, ?_⟩) (by assumption) ?_
                        rotate_left 1
                        · intro w hSw; (try dsimp only at hSw); go_simp; (try with_reducible rfl)
                        simp only [Act.put, List.getElem_toArray, List.getElem_cons_zero, List.getElem_cons_succ, List.setIfInBounds_toArray, List.set_cons_zero, List.set_cons_succ]
                        refine wpAnyH_take (i := 1) (v := ?_) rfl (by kernel_rfl) (by kernel_rfl) (by kernel_rfl) (fun _ _ _ h => h) (Or.inl ⟨by rfl, ?_⟩) (by assumption) ?_
                        rotate_left 1
                        · intro w hSw; (try dsimp only at hSw); go_simp; (try with_reducible rfl)
                        simp only [Act.put, List.getElem_toArray, List.getElem_cons_zero, List.getElem_cons_succ, List.setIfInBounds_toArray, List.set_cons_zero, List.set_cons_succ]
                        refine wpAnyH_take (i := 3) (v := ?_) rfl (by kernel_rfl) (by kernel_rfl) (by kernel_rfl) (fun _ _ _ h => h) (Or.inl ⟨by rfl, ?_⟩) (by assumption) ?_
                        rotate_left 1
                        · intro w hSw; (try dsimp only at hSw); go_simp; (try with_reducible rfl)
                        simp only [Act.put, List.getElem_toArray, List.getElem_cons_zero, List.getElem_cons_succ, List.setIfInBounds_toArray, List.set_cons_zero, List.set_cons_succ]
                        refine wpAnyH_ready (rs := [2]) (by kernel_rfl) (by simp) ?_
                        refine AllReadyH.cons rfl (fun K hK => ?_) AllReadyH.nil
                        go_simp
                        refine (dFlushed d F3 s3 k wd BOD.out.m.at_).mono ?_
                        rw [HF.out]
                        rintro e z1 ⟨A8, n8, c8, rfl, hown, hb⟩
                        have V8 := Lib.hid (Rd.of_own hown)
                        replace BOD := Lib.hid (BOD.out.to hb)
                        replace DND := Lib.hid (own_below DND.out hb)
                        replace V1 := Lib.hid (V1.out.to hb)
                        clear hown hb
                        go_wp2_with fail
                        refine hK.out _ _ (trivial) (fun hHeld => ?_)
                        clear hK K
                        refine wpAnyH_ready (rs := [4]) (by kernel_rfl) (by simp) ?_
                        refine AllReadyH.cons rfl (fun K hK => ?_) AllReadyH.nil
                        go_simp
                        refine (wSame A8 A6 n8 n6 c8 c6 _ (secAt (s).L k).1 (secAt (s).L k).1 _ V8.out V1.out).mono ?_
                        rw [show decide ((secAt (s).L k).1 = (secAt (s).L k).1) = true from decide_eq_true rfl]
                        rintro e z2 ⟨rfl, rfl⟩
                        go_wp2_with fail
                        refine hK.out _ _ (trivial) (fun hHeld => ?_)
                        clear hK K
                        refine wpAnyH_take (i := 5) (v := ?_) rfl (by kernel_rfl) (by kernel_rfl) (by kernel_rfl) (fun _ _ _ h => h) (Or.inl ⟨by rfl, ?_⟩) (by assumption) ?_
                        rotate_left 1
                        · intro w hSw; (try dsimp only at hSw); go_simp; (try with_reducible rfl)
                        simp only [Act.put, List.getElem_toArray, List.getElem_cons_zero, List.getElem_cons_succ, List.setIfInBounds_toArray, List.set_cons_zero, List.set_cons_succ]
                        refine wpAnyH_take (i := 6) (v := ?_) rfl (by kernel_rfl) (by kernel_rfl) (by kernel_rfl) (fun _ _ _ h => h) (Or.inl ⟨by rfl, ?_⟩) (by assumption) ?_
                        rotate_left 1
                        · intro w hSw; (try dsimp only at hSw); go_simp; (try with_reducible rfl)
                        simp only [Act.put, List.getElem_toArray, List.getElem_cons_zero, List.getElem_cons_succ, List.setIfInBounds_toArray, List.set_cons_zero, List.set_cons_succ]
                        refine wpAnyH_take (i := 7) (v := ?_) rfl (by kernel_rfl) (by kernel_rfl) (by kernel_rfl) (fun _ _ _ h => h) (Or.inl ⟨by rfl, ?_⟩) (by assumption) ?_
                        rotate_left 1
                        · intro w hSw; (try dsimp only at hSw); go_simp; (try with_reducible rfl)
                        simp only [Act.put, List.getElem_toArray, List.getElem_cons_zero, List.getElem_cons_succ, List.setIfInBounds_toArray, List.set_cons_zero, List.set_cons_succ]
                        refine wpAnyH_take (i := 8) (v := ?_) rfl (by kernel_rfl) (by kernel_rfl) (by kernel_rfl) (fun _ _ _ h => h) (Or.inl ⟨by rfl, ?_⟩) (by assumption) ?_
                        rotate_left 1
                        · intro w hSw; (try dsimp only at hSw); go_simp; (try with_reducible rfl)
                        simp only [Act.put, List.getElem_toArray, List.getElem_cons_zero, List.getElem_cons_succ, List.setIfInBounds_toArray, List.set_cons_zero, List.set_cons_succ]
                        refine wpAnyH_take (i := 9) (v := ?_) rfl (by kernel_rfl) (by kernel_rfl) (by kernel_rfl) (fun _ _ _ h => h) (Or.inl ⟨by rfl, ?_⟩) (by assumption) ?_
                        rotate_left 1
                        · intro w hSw; (try dsimp only at hSw); go_simp; (try with_reducible rfl)
                        simp only [Act.put, List.getElem_toArray, List.getElem_cons_zero, List.getElem_cons_succ, List.setIfInBounds_toArray, List.set_cons_zero, List.set_cons_succ]
                        refine wpAnyH_take (i := 10) (v := undef) rfl (by kernel_rfl) (by kernel_rfl) (by kernel_rfl) (fun _ _ _ h => h) (Or.inr ⟨by rfl, rfl⟩) (by assumption) ?_
                        simp only [Act.put, List.getElem_toArray, List.getElem_cons_zero, List.getElem_cons_succ, List.setIfInBounds_toArray, List.set_cons_zero, List.set_cons_succ]
                        refine wpAnyH_take (i := 11) (v := undef) rfl (by kernel_rfl) (by kernel_rfl) (by kernel_rfl) (fun _ _ _ h => h) (Or.inr ⟨by rfl, rfl⟩) (by assumption) ?_
                        simp only [Act.put, List.getElem_toArray, List.getElem_cons_zero, List.getElem_cons_succ, List.setIfInBounds_toArray, List.set_cons_zero, List.set_cons_succ]
                        refine wpAnyH_take (i := 12) (v := undef) rfl (by kernel_rfl) (by kernel_rfl) (by kernel_rfl) (fun _ _ _ h => h) (Or.inr ⟨by rfl, rfl⟩) (by assumption) ?_
                        simp only [Act.put, List.getElem_toArray, List.getElem_cons_zero, List.getElem_cons_succ, List.setIfInBounds_toArray, List.set_cons_zero, List.set_cons_succ]
                        refine wpAnyH_take (i := 13) (v := undef) rfl (by kernel_rfl) (by kernel_rfl) (by kernel_rfl) (fun _ _ _ h => h) (Or.inr ⟨by rfl, rfl⟩) (by assumption) ?_
                        simp only [Act.put, List.getElem_toArray, List.getElem_cons_zero, List.getElem_cons_succ, List.setIfInBounds_toArray, List.set_cons_zero, List.set_cons_succ]
                        refine wpAnyH_take (i := 14) (v := undef) rfl (by kernel_rfl) (by kernel_rfl) (by kernel_rfl) (fun _ _ _ h => h) (Or.inr ⟨by rfl, rfl⟩) (by assumption) ?_
                        simp only [Act.put, List.getElem_toArray, List.getElem_cons_zero, List.getElem_cons_succ, List.setIfInBounds_toArray, List.set_cons_zero, List.set_cons_succ]
                        refine wpAnyH_take (i := 15) (v := undef) rfl (by kernel_rfl) (by kernel_rfl) (by kernel_rfl) (fun _ _ _ h => h) (Or.inr ⟨by rfl, rfl⟩) (by assumption) ?_
                        simp only [Act.put, List.getElem_toArray, List.getElem_cons_zero, List.getElem_cons_succ, List.setIfInBounds_toArray, List.set_cons_zero, List.set_cons_succ]
                        refine wpAnyH_take (i := 16) (v := undef) rfl (by kernel_rfl) (by kernel_rfl) (by kernel_rfl) (fun _ _ _ h => h) (Or.inr ⟨by rfl, rfl⟩) (by assumption) ?_
                        simp only [Act.put, List.getElem_toArray, List.getElem_cons_zero, List.getElem_cons_succ, List.setIfInBounds_toArray, List.set_cons_zero, List.set_cons_succ]
                        refine wpAnyH_take (i := 17) (v := undef) rfl (by kernel_rfl) (by kernel_rfl) (by kernel_rfl) (fun _ _ _ h => h) (Or.inr ⟨by rfl, rfl⟩) (by assumption) ?_
                        simp only [Act.put, List.getElem_toArray, List.getElem_cons_zero, List.getElem_cons_succ, List.setIfInBounds_toArray, List.set_cons_zero, List.set_cons_succ]
                        refine wpAnyH_take (i := 18) (v := undef) rfl (by kernel_rfl) (by kernel_rfl) (by kernel_rfl) (fun _ _ _ h => h) (Or.inr ⟨by rfl, rfl⟩) (by assumption) ?_
                        simp only [Act.put, List.getElem_toArray, List.getElem_cons_zero, List.getElem_cons_succ, List.setIfInBounds_toArray, List.set_cons_zero, List.set_cons_succ]
                        refine wpAnyH_take (i := 19) (v := undef) rfl (by kernel_rfl) (by kernel_rfl) (by kernel_rfl) (fun _ _ _ h => h) (Or.inr ⟨by rfl, rfl⟩) (by assumption) ?_
                        simp only [Act.put, List.getElem_toArray, List.getElem_cons_zero, List.getElem_cons_succ, List.setIfInBounds_toArray, List.set_cons_zero, List.set_cons_succ]
                        refine wpAnyH_take (i := 20) (v := ?_) rfl (by kernel_rfl) (by kernel_rfl) (by kernel_rfl) (fun _ _ _ h => h) (Or.inl ⟨by rfl, ?_⟩) (by assumption) ?_
                        rotate_left 1
                        · intro w hSw; (try dsimp only at hSw); go_simp; (try with_reducible rfl)
                        simp only [Act.put, List.getElem_toArray, List.getElem_cons_zero, List.getElem_cons_succ, List.setIfInBounds_toArray, List.set_cons_zero, List.set_cons_succ]
                        refine wpAnyH_take (i := 21) (v := ?_) rfl (by kernel_rfl) (by kernel_rfl) (by kernel_rfl) (fun _ _ _ h => h) (Or.inl ⟨by rfl, ?_⟩) (by assumption) ?_
                        rotate_left 1
                        · intro w hSw; (try dsimp only at hSw); go_simp; (try with_reducible rfl)
                        simp only [Act.put, List.getElem_toArray, List.getElem_cons_zero, List.getElem_cons_succ, List.setIfInBounds_toArray, List.set_cons_zero, List.set_cons_succ]
                        refine wpAnyH_done (by kernel_rfl) ?_ _
                        go_wp2_with fail
                        go_roundw
                        case rel => exact ⟨k + 1, HLT.out, by go_num, BOD.out, DND.out⟩
                        case measure => have := HLT.out; simp [intOf]; omega
              · obtain rfl : k0 = k := by have := HK.out; omega
                go_wp2_with fail
                go_ret
                exact ⟨rfl, BO.out.m.bel⟩

set_option maxRecDepth 100000 in
theorem lifted (os : Os) (started : os.Started) (H : Type) (enc : TypeId × Value → H) :
    ReturnsInHanded {} Try.checked os 5 .any (Rows.diskWholeSpec.pre6 enc Try.prog Try.f5 Rows.diskWholeRow.domain false) (Rows.diskWholeSpec.post enc Try.prog Try.f5 false true false false) := by
  refine returnsInHanded_of_change_sized (C := Try.checked) own started (by kernel_rfl) Try.func5
    (ChangeSpec.witness6 (enc := enc) (C := Try.checked) false ⟨#[], #[.int .i64 0, .slice none 0 0, .slice none 0 0], []⟩ 8 (by kernel_rfl) (by kernel_rfl) (by kernel_rfl) (by kernel_rfl)) ?_
  intro W base args ds gs before hval0 hW hcnd hsz0 _
  have hval : ∀ (j : Nat) t v, Try.f5.params[j]? = some t → args[j]? = some v → Value.okWide Try.prog W .any base t v := hval0
  have hsz : (DataW.weightsEach Try.prog (Try.f5.params.toList ++ Rows.diskWholeSpec.plain.varTypes Try.prog) (ds ++ gs)).all (· ≤ reachBytes) = true := hsz0
  have hW' := hW
  obtain ⟨p, q, hA0, hV, rfl, hfz, hnd⟩ := hW
  have hA : DataW.TrodAll enc Try.prog W 0 (fun _ => true) true Try.f5.params.toList args.toList ds p := hA0
  rw [Try.params5] at hA hval hsz
  obtain ⟨v0, vs0, d0, ds0, p0, q0, hargs, rfl, rfl, h0, r0⟩ := trodAll_cons hA
  obtain ⟨v1, vs1, d1, ds1, p1, q1, rfl, rfl, rfl, h1, r1⟩ := trodAll_cons r0
  obtain ⟨v2, vs2, d2, ds2, p2, q2, rfl, rfl, rfl, h2, r2⟩ := trodAll_cons r1
  obtain ⟨rfl, rfl, rfl⟩ := trodAll_nil r2
  obtain rfl : args = #[v0, v1, v2] := by cases args; simp_all
  obtain ⟨rfl, rfl⟩ := trodVars_none hV
  have sz1 : ∀ x ∈ d1.weights Try.prog 22, x ≤ reachBytes := fun x hx => by simpa using List.all_eq_true.1 hsz _ (DataW.weights_mem_each (j := 1) rfl rfl x hx)
  obtain ⟨a0, rfl, rfl, rfl, w0⟩ := open_int Try.underlying3 (hval 0 3 v0 rfl rfl) h0
  have k1 := h1
  have lt1 : ∀ x ∈ p1, x.block < W.heap.size := by obtain ⟨m, hm⟩ := k1; exact DataW.trod_lt m _ _ _ hm
  obtain ⟨a1, len1, cap1, l1, rfl, w1⟩ := open_acts (hval 1 22 v1 rfl rfl) h1 sz1
  obtain ⟨a2, len2, cap2, rfl⟩ := okWide_slice Try.underlying32 (hval 2 32 v2 rfl rfl)
  have k2 := h2
  have lt2 : ∀ x ∈ p2, x.block < W.heap.size := by obtain ⟨m, hm⟩ := k2; exact DataW.trod_lt m _ _ _ hm
  obtain ⟨z2, w2⟩ : ∃ zs, IsRow .u8 W a2 len2 cap2 zs := by
    obtain ⟨fuel, hf⟩ := h2
    rcases open_ints Try.underlying32 Try.underlying5 (by kernel_rfl) hf with ⟨hcs, _⟩ | ⟨x, l, c, zs, hcs, _, hl, hm, hz, _, hcell, hwz⟩
    · simp [Value.cells] at hcs
      obtain ⟨rfl, rfl, rfl⟩ := hcs
      exact ⟨[], .inl ⟨rfl, rfl, rfl, rfl⟩⟩
    · simp [Value.cells] at hcs
      obtain ⟨rfl, rfl, rfl⟩ := hcs
      exact ⟨zs, .inr ⟨_, rfl, hl, hm, by simpa using hz, hcell, hwz⟩⟩
  clear hA0 hval0
  refine (walk a0 a1 len1 cap1 l1 a2 len2 cap2 z2 W w0 w1 w2).mono fun e W' ⟨he, bel⟩ => ?_
  subst he
  exact ⟨_, rfl, _, _, _, [], _, [], hW', trodAll_mk1 (shut_bool Try.underlying4 _), (trodAll_cons_mk (shut_int Try.underlying3 w0) (trodAll_cons_mk (Below.trod laidOut (by kernel_rfl) (of_decide_eq_true (by kernel_rfl)) k1 bel lt1) (trodAll_cons_mk (Below.trod laidOut (by kernel_rfl) (of_decide_eq_true (by kernel_rfl)) k2 bel lt2) trodAll_mk0))), rfl, bel.frame _, fun h => by cases h⟩

theorem over : Rows.diskWholeRow.holds Try.pinned (OpenSpec.ofChange Rows.diskWholeSpec) :=
  OpenClaim.holds_of_wide 5 Try.f5 rfl rfl rfl rfl rfl rfl rfl ⟨rfl, rfl, rfl, rfl, rfl⟩ rfl rfl rfl rfl rfl (by kernel_rfl) Try.func5 (by kernel_rfl)
    (of_decide_eq_true (by kernel_rfl)) (by unfold Func.isWrapper; first | (rw [if_pos (by decide +kernel)]; kernel_rfl) | (rw [if_neg (by decide +kernel)]; exact ⟨rfl, rfl⟩))
    (fun os started H enc _ => lifted os started H enc)

theorem proved : Rows.DiskWholeSaid := over
end Go.Proofs.Ytbkdgciaapkemaa.diskWhole
