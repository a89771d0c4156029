/- For every row of bytes, every n and every length the law WordsPieces of citadellaw01 returns true: the row is cut and padded as the document's own functions do it, the row stays as it is, and what is handed back is the caller's own. Conditions: none beyond those that the statement itself prints. -/
import Derived.Test.YtpknclidladncaaRows
import Derived.Test.YtpknclidladncaaOwn
import Derived.WalkKit
import Derived.ProofKit
import Derived.OpenShut
import Derived.ShutString
import Derived.ChangeOld
import Derived.Below
namespace Go.Proofs.Ytpknclidladncaa.wordsPieces
open Go.ChangeShapes Go.WideShapes Go.ChangeAt Go.RowKit
open Go.ChangeMaps (open_string shut_string)
set_option linter.unusedVariables false

theorem own : ownKnob Try.prog.godebug = none := by kernel_rfl
theorem laidOut : laidOutB Try.prog = true := by kernel_rfl

theorem Rd.takeAll {n : Nat} {xs : List UInt8} (h : xs.length = n) : xs.take n = xs := by rw [← h, List.take_length]
/-- At the head of a turn: the copy still reads as the row. -/
def TurnRel (B1 n1 : Nat) (A1 : Option Addr) (w : World) (bs : List UInt8) (t : Value) (wr : World) : Prop :=
  ∃ k : Nat, k ≤ 2 ∧ t = .int .i64 (k : Int) ∧ Rd wr B1 A1 n1 bs ∧ Below w.heap.size w wr ∧ B1 ≤ wr.heap.size
theorem u8_inc2 (n : Nat) : (((n : Int) + 1) % 256) = ((UInt8.ofNat (n + 1)).toNat : Int) := by
  rw [← u8_mod]; omega
theorem or_size {P : Prop} {gg g : Nat} {wr : World} {u : Value} (h : P ∨ gg = wr.heap.size + 1) : P ∨ gg = (wr.setCell ⟨g, 0, none⟩ u).heap.size + 1 := by
  rcases h with h | h
  · exact .inl h
  · right; simpa using h
/-- The round that raises each byte of the padded row. -/
def ByteRel (B n c : Nat) (A : Option Addr) (wo : World) (i : Value) (wr : World) : Prop :=
  ∃ k : Nat, k ≤ n ∧ i = .int .i64 (k : Int) ∧ (n = 0 ∨ ∃ pb : List UInt8, wr.ownsRow B 5 1 (.slice A n c) n (pb.map bval)) ∧ Below B wo wr
/-- The round that turns each piece. -/
def RowsRel (B gl cl L : Nat) (vs ps : List Value) (wo : World) (i : Value) (wr : World) : Prop :=
  ∃ (k : Nat) (us : List Value), k ≤ L ∧ i = .int .i64 (k : Int) ∧ Two B wr gl cl L us ps ∧ (∀ j, k ≤ j → us[j]? = vs[j]?) ∧ Below B wo wr
/-- The round that compares the pieces: nothing but draws. -/
def CmpRel (n : Nat) (X : World) (i : Value) (wr : World) : Prop := ∃ k : Nat, k ≤ n ∧ i = .int .i64 (k : Int) ∧ ∃ q, wr = X.drewN q
theorem grow_low {B : Nat} {wo wr w9 : World} {gl cl L i g m c gg cap : Nat} {vs ps xs : List Value} {z : Int} {tmp : Obj} (hb : Below B wo wr) (hT : Two B (wr.setCell ⟨g, 0, none⟩ (.int .u8 z)) gl cl L vs ps) (hi : vs[i]? = some (.slice (some ⟨g, 0, none⟩) m c))
    (_h : w9.ownsRow B 5 1 (.slice (some ⟨gg, 0, none⟩) (m + 1) cap) (m + 1) xs) (hgrow : ((wr.setCell ⟨g, 0, none⟩ (.int .u8 z)).alloc tmp).grownBy w9 (Value.slice (some ⟨g, 0, none⟩) m c).ownBlock) :
    ∀ (k : Nat) (u : Value), Below B wo (w9.setCell ⟨gl, k, none⟩ u) := fun k u => by
  obtain ⟨_, _, _, _, bs, ho⟩ := hT.one hi
  have hg : B ≤ g := (own_lt ho).1
  have hgl : B ≤ gl := (own_lt hT.out).1
  have hs : B ≤ wr.heap.size := by obtain ⟨_, cur, hh⟩ := own_lt ho; have := heap_lt hh; simp at this; omega
  have h1 := hb.setCell (p := ⟨g, 0, none⟩) hg (.int .u8 z)
  have h2 := (h1.alloc (by simp; omega) tmp).grown hgrow (by simp; omega) (fun j e => by simp [Value.ownBlock] at e; omega)
  exact h2.setCell (p := ⟨gl, k, none⟩) hgl u
set_option maxRecDepth 100000 in
set_option maxHeartbeats 2000000 in
theorem walk (a0 : Option Addr) (len0 cap0 : Nat) (z0 : List Int) (a1 : Int) (a2 : Int) (w : World) (w0 : IsRow .u8 w a0 len0 cap0 z0) (w1 : (Lit.int .i64 a1).wf = true) (w2 : (Lit.int .i64 a2).wf = true) :
    Calls Try.prog 4 #[.slice a0 len0 cap0, .int .i64 a1, .int .i64 a2] w fun e w' => e = .returned (.bool true) ∧ Below w.heap.size w w' := by
  obtain ⟨i1, hi1, hy0, hy1, hy2⟩ := info_parts isU8.info
  obtain ⟨hk1, hk2⟩ := wf_i64 w1
  obtain ⟨ht1, ht2⟩ := wf_i64 w2
  obtain ⟨r0, hcap, hcap'⟩ := w0.rd
  generalize bytesIn (z0.take len0) = bs at r0
  clear w0 w1 w2
  have R0 := Lib.hid r0
  clear r0
  by_cases h1000 : 1000 < len0
  · go_enter Try.func4, Try.ntmps4
    go_wp2_with fail
    go_ret
    exact ⟨rfl, Below.refl _ _⟩
  have hc2 : (3000 < a2 ∧ a2 < 65536) ∨ (¬ 3000 < a2) ∨ (3000 < a2 ∧ ¬ a2 < 65536) := by omega
  rcases hc2 with ⟨h3000, h65⟩ | h3000 | ⟨h3000, h65⟩
  · go_enter Try.func4, Try.ntmps4
    go_wp2_with fail
    go_ret
    exact ⟨rfl, Below.refl _ _⟩
  all_goals
    go_enter Try.func4, Try.ntmps4
    go_wp2_with fail
    refine (refCopy a0 len0 cap0 bs w R0.out (by omega)).mono ?_
    rintro e w1 ⟨A1, n1, c1, rfl, hown1, hbel1⟩
    obtain rfl : n1 = len0 := by rw [← (Rd.of_own hown1).1, R0.out.1]
    obtain ⟨hc1, hc1'⟩ := own_cap hown1
    have X1 := Lib.hid (Rd.of_own hown1)
    have B1 := Lib.hid hbel1
    clear hown1 hbel1
    go_wp2_with fail
    go_loopw [8] (fun t wr => TurnRel w1.heap.size n1 A1 w bs t wr) (fun t _ => 2 - (intOf t).toNat)
    case atStart => exact ⟨0, by omega, rfl, X1.out, B1.out, Nat.le_refl _⟩
    case round =>
      obtain ⟨t, ht, rfl, hX, hB, hsz⟩ := hrel
      by_cases htl : t < 2
      · obtain ⟨wo, rfl⟩ : ∃ wo : World, wo = wr := ⟨_, rfl⟩
        have XO := Lib.hid hX
        have BO := Lib.hid hB
        clear hX hB X1 B1
        go_wp2_with fail
        refine (wCut A1 n1 c1 a1 bs wo (XO.out.more hsz) hc1 hc1' (by omega) hk2).mono ?_
        rintro e w2 ⟨A2, n2, c2, vs, rfl, hown2, hO2, hbel2⟩
        have S2 := Lib.hid (OwnRows.rdS hown2 hO2)
        have O2 := Lib.hid (And.intro hown2 hO2)
        have X2 := Lib.hid ((XO.out.more hsz).to hbel2)
        have L2 := Lib.hid hbel2
        clear hown2 hO2 hbel2
        go_wp2_with fail
        refine (wPadded A1 n1 c1 a2 bs w2 X2.out (by omega) ht1 ht2).mono ?_
        rintro e w3 ⟨A3, n3, c3, rfl, hown3, hbel3⟩
        have P3 := Lib.hid hown3
        have hs2 := L2.out.size
        have G3 := Lib.hid ((BO.out.trans (L2.out.mono BO.out.size)).trans (hbel3.mono (Nat.le_trans BO.out.size hs2)))
        have K3 := Lib.hid (L2.out.trans (hbel3.mono hs2))
        have E3 := Lib.hid hbel3
        have hn3 : n3 ≤ 70000 := by
          have h := (Rd.of_own hown3).1; have h' := X2.out.1
          rw [← h]; unfold padTo; simp; omega
        clear hown3 hbel3 X2
        go_wp2_with fail
        refine (refPadded a0 n1 cap0 a2 bs w3 (R0.out.to G3.out) (by omega) ht1 ht2).mono ?_
        rintro e w4 ⟨A4, n4, c4, rfl, hown4, hbel4⟩
        have hn4 : n4 ≤ 70000 := by
          have h := (Rd.of_own hown4).1; have h' := R0.out.1
          rw [← h]; unfold padTo; simp; omega
        have Q4 := Lib.hid (Rd.of_own hown4)
        have P4 := Lib.hid ((Rd.of_own P3.out).to hbel4)
        clear hown4
        go_wp2_with fail
        refine (refSameT A3 A4 n3 n4 c3 c4 _ (padTo bs a2) (padTo bs a2) w4 rfl P4.out Q4.out (by omega) (by omega)).mono ?_
        rintro e w5 ⟨rfl, hq5⟩
        have D5 : Hid (Below w3.heap.size w3 w5) := by obtain ⟨q, rfl⟩ := hq5; exact below_drewN hbel4 q
        clear hq5 hbel4 Q4 P4
        have hs3 := E3.out.size
        go_wp2_with fail
        refine (refSameT A1 a0 n1 n1 c1 cap0 _ bs bs w5 rfl ((XO.out.below ((K3.out.trans (D5.out.mono K3.out.size)).mono hsz)).more (Nat.le_trans hsz (Nat.le_trans hs2 (Nat.le_trans hs3 D5.out.size)))) (R0.out.to (G3.out.trans (D5.out.mono G3.out.size))) (by omega) (by omega)).mono ?_
        rintro e w6 ⟨rfl, hq6⟩
        have D3 : Hid (Below w3.heap.size w3 w6) := by obtain ⟨q, rfl⟩ := hq6; exact below_drewN D5.out q
        have D2 := Lib.hid (E3.out.trans (D3.out.mono hs3))
        have DO := Lib.hid (K3.out.trans (D3.out.mono (Nat.le_trans hs2 hs3)))
        have G := Lib.hid (G3.out.trans (D3.out.mono G3.out.size))
        clear hq6 D5 G3 K3 E3 S2
        by_cases hk : a1 < 1
        · obtain rfl : n2 = 0 := by
            have h1 := O2.out.2.1
            rw [chopI, if_pos hk] at h1
            have h2 := O2.out.1.1
            simp at h1 h2; rw [h1] at h2; simpa using h2.symm
          have hk' : ¬ 1 ≤ a1 := by omega
          go_wp2_with fail
          have HP : Hid (n3 = 0 ∨ ∃ pb : List UInt8, w6.ownsRow wo.heap.size 5 1 (.slice A3 n3 c3) n3 (pb.map bval)) := .inr ⟨_, own_mono (own_below P3.out D3.out) hs2⟩
          have HY := Lib.hid DO.out
          refine wp_loop_rounds 1 ?_
          rw [rounds_succ]
          go_wp2_with fail
          go_loopw [14] (fun i wr => ByteRel wo.heap.size n3 c3 A3 wo i wr) (fun i _ => n3 - (intOf i).toNat)
          case atStart => exact ⟨0, Nat.zero_le _, rfl, HP.out, HY.out⟩
          case round =>
            obtain ⟨q, hq, rfl, hpo, hbel⟩ := hrel
            by_cases hql : q < n3
            · obtain ⟨pb, hpo⟩ : ∃ pb : List UInt8, wr.ownsRow wo.heap.size 5 1 (.slice A3 n3 c3) n3 (pb.map bval) := by
                rcases hpo with h | h
                · omega
                · exact h
              obtain ⟨gp, rfl, hgp⟩ := own_head hpo (by omega)
              obtain ⟨hcell, hfr⟩ := own_cell (j := q) hpo hql
              go_wp2_with fail
              go_roundw
              case rel =>
                obtain ⟨h1, h2⟩ := own_set (j := q) hpo hbel _ (u8_inc (nth pb q)) hgp
                exact ⟨q + 1, by omega, by go_num, .inr ⟨_, h1⟩, h2⟩
              case measure => simp [intOf]; omega
            · obtain rfl : q = n3 := by omega
              have HZ := Lib.hid hbel
              clear hbel hpo
              go_wp2_with fail
              go_roundw
              case rel => exact ⟨t + 1, by omega, by go_num, XO.out.below (HZ.out.mono hsz), BO.out.trans (HZ.out.mono BO.out.size), Nat.le_trans hsz HZ.out.size⟩
              case measure => simp [intOf]; omega
        · obtain ⟨kn, rfl⟩ := Int.eq_ofNat_of_zero_le (show 0 ≤ a1 by omega)
          have hk' : (1 : Int) ≤ (kn : Int) := by omega
          go_wp2_with fail
          refine (refCut a0 n1 cap0 kn bs w6 (R0.out.to G.out) (by omega) (by omega) (by omega)).mono ?_
          rintro e w7 ⟨A7, n7, c7, vs7, rfl, hown7, hO7, hbel7⟩
          have hci : chopI (kn : Int) bs = chop kn bs := by rw [chopI, if_neg (by omega), Int.toNat_natCast]
          obtain rfl : n7 = n2 := by
            have h1 := O2.out.2.1
            rw [hci, ← hO7.1] at h1
            have h2 := O2.out.1.1; have h3 := hown7.1
            simp at h2 h3; omega
          have hn7 : n7 ≤ 9223372036854775807 := by have := own_cap O2.out.1; omega
          have S7 := Lib.hid (OwnRows.rdS hown7 hO7)
          have Z2 := Lib.hid (D2.out.trans (hbel7.mono D2.out.size))
          have S2 : Hid (RdS w7 w7.heap.size A2 n7 (chop kn bs)) := by
            have h := OwnRows.rdS (own_below O2.out.1 Z2.out) (O2.out.2.keep fun k cur _ hh => Z2.out.block k (heap_lt hh))
            rw [hci] at h; exact h
          have Z3 := Lib.hid (D3.out.trans (hbel7.mono D3.out.size))
          have ZO := Lib.hid (DO.out.trans (hbel7.mono DO.out.size))
          clear hown7 hO7 hbel7 D2 D3 DO G hci
          go_wp2_with fail
          go_loopw [12] (fun i wr => CmpRel n7 w7 i wr) (fun i _ => n7 - (intOf i).toNat)
          case atStart => exact ⟨0, Nat.zero_le _, rfl, 0, rfl⟩
          case round =>
            obtain ⟨i, hi, rfl, hq⟩ := hrel
            by_cases hil : i < n7
            · obtain ⟨b1, o1, rfl, _, hc⟩ := S2.out.2 (by omega)
              obtain ⟨b2, o2, rfl, _, hd⟩ := S7.out.2 (by omega)
              obtain ⟨P1, m1, d1, hce, hr1⟩ := hc i hil
              obtain ⟨P2, m2, d2, hde, hr2⟩ := hd i hil
              have hce' : wr.cell? ⟨b1, o1 + i, none⟩ = some (.slice P1 m1 d1) := by obtain ⟨q, rfl⟩ := hq; exact hce
              have hde' : wr.cell? ⟨b2, o2 + i, none⟩ = some (.slice P2 m2 d2) := by obtain ⟨q, rfl⟩ := hq; exact hde
              have hm1 : m1 ≤ 1000 := by
                have h1 := tot_succ (bss := chop kn bs) (k := i) (by rw [S2.out.1]; exact hil)
                have h2 := tot_le (chop kn bs) (i + 1)
                rw [chop_flat (by omega) _ _ (Nat.le_refl _), XO.out.1] at h2
                have := hr1.1; omega
              have hm2 : m2 ≤ 1000 := by have := hr1.1; have := hr2.1; omega
              have HQ := Lib.hid hq
              have hcon : ∀ nq, Calls Try.prog 11 #[.slice P1 m1 d1, .slice P2 m2 d2] (wr.drewN nq) fun e w' => e = .returned (.bool true) ∧ ∃ k, w' = (wr.drewN nq).drewN k := fun nq => by
                obtain ⟨q, rfl⟩ := HQ.out
                exact refSameT P1 P2 m1 m2 d1 d2 _ _ _ _ rfl ((hr1.drewN q).drewN nq) ((hr2.drewN q).drewN nq) (by omega) (by omega)
              have HC := Lib.hid hcon
              have hi0 : (0 : Int) ≤ (i : Int) := by omega
              have hi1' : (i : Int) < (n7 : Int) := by omega
              clear hcon hr1 hr2 hc hd hce hde hq
              go_wp2_with fail
              go_quiet ((go_at_call 11; exact Calls.quiet_of (HC.out _)))
              go_wp2_with fail
              go_roundw
              case rel => exact ⟨i + 1, by omega, by go_num, by obtain ⟨q, rfl⟩ := HQ.out; exact drew2 _ _ _⟩
              case measure => simp [intOf]; omega
            · obtain rfl : n7 = i := by omega
              have D2 : Hid (Below w2.heap.size w2 wr) := by obtain ⟨q, rfl⟩ := hq; exact below_drewN Z2.out q
              have D3 : Hid (Below w3.heap.size w3 wr) := by obtain ⟨q, rfl⟩ := hq; exact below_drewN Z3.out q
              have DO : Hid (Below wo.heap.size wo wr) := by obtain ⟨q, rfl⟩ := hq; exact below_drewN ZO.out q
              clear hq Z2 Z3 ZO S2 S7
              obtain ⟨wb, rfl⟩ : ∃ wb : World, wb = wr := ⟨_, rfl⟩
              go_wp2_with fail
              by_cases hL0 : n7 = 0
              · subst hL0
                have HP : Hid (n3 = 0 ∨ ∃ pb : List UInt8, wb.ownsRow wo.heap.size 5 1 (.slice A3 n3 c3) n3 (pb.map bval)) := .inr ⟨_, own_mono (own_below P3.out D3.out) hs2⟩
                have HY := Lib.hid DO.out
                refine wp_loop_rounds 1 ?_
                rw [rounds_succ]
                go_wp2_with fail
                go_loopw [14] (fun i wr => ByteRel wo.heap.size n3 c3 A3 wo i wr) (fun i _ => n3 - (intOf i).toNat)
                case atStart => exact ⟨0, Nat.zero_le _, rfl, HP.out, HY.out⟩
                case round =>
                  obtain ⟨q, hq, rfl, hpo, hbel⟩ := hrel
                  by_cases hql : q < n3
                  · obtain ⟨pb, hpo⟩ : ∃ pb : List UInt8, wr.ownsRow wo.heap.size 5 1 (.slice A3 n3 c3) n3 (pb.map bval) := by
                      rcases hpo with h | h
                      · omega
                      · exact h
                    obtain ⟨gp, rfl, hgp⟩ := own_head hpo (by omega)
                    obtain ⟨hcell, hfr⟩ := own_cell (j := q) hpo hql
                    go_wp2_with fail
                    go_roundw
                    case rel =>
                      obtain ⟨h1, h2⟩ := own_set (j := q) hpo hbel _ (u8_inc (nth pb q)) hgp
                      exact ⟨q + 1, by omega, by go_num, .inr ⟨_, h1⟩, h2⟩
                    case measure => simp [intOf]; omega
                  · obtain rfl : q = n3 := by omega
                    have HZ := Lib.hid hbel
                    clear hbel hpo
                    go_wp2_with fail
                    go_roundw
                    case rel => exact ⟨t + 1, by omega, by go_num, XO.out.below (HZ.out.mono hsz), BO.out.trans (HZ.out.mono BO.out.size), Nat.le_trans hsz HZ.out.size⟩
                    case measure => simp [intOf]; omega
              · obtain ⟨gl, rfl, hgl⟩ := own_head O2.out.1 (by omega)
                obtain ⟨ps, hT, hps⟩ : ∃ ps, Two wo.heap.size wb gl c2 n7 vs ps ∧ (n3 = 0 ∨ ps = [.slice A3 n3 c3]) := by
                  by_cases h3 : n3 = 0
                  · exact ⟨[], Two.mk0 O2.out.1 O2.out.2 D2.out, .inl h3⟩
                  · exact ⟨[.slice A3 n3 c3], Two.mk' O2.out.1 O2.out.2 hs2 P3.out D2.out D3.out (by omega), .inr rfl⟩
                have HT := Lib.hid hT
                have HPS := Lib.hid hps
                clear hT hps
                go_loopw [13] (fun i wr => RowsRel wo.heap.size gl c2 n7 vs ps wo i wr) (fun i _ => n7 - (intOf i).toNat)
                case atStart => exact ⟨0, vs, Nat.zero_le _, rfl, HT.out, fun _ _ => rfl, DO.out⟩
                case round =>
                  obtain ⟨i, us, hi, rfl, hT, hsame, hbel⟩ := hrel
                  by_cases hil : i < n7
                  · have hul := hT.len
                    obtain ⟨g, m, c, hv, _, _⟩ := O2.out.2.2.1 i (by have := O2.out.1.1; simp at this; omega)
                    have hm := chopI_small O2.out.2 (n := 1000) (by rw [XO.out.1]; omega) i g m c hv
                    have hui : us[i]? = some (.slice (some ⟨g, 0, none⟩) m c) := (hsame i (Nat.le_refl _)).trans hv
                    obtain ⟨hc1, hf1, hne, hm0, bs1, ho1⟩ := hT.one hui
                    obtain ⟨hc2, hf2⟩ := own_cell (j := 0) ho1 hm0
                    have hT1 := hT.set hui _ (u8_inc2 (nth bs1 0))
                    obtain ⟨hc3, hf3, _, _, bs2, ho2⟩ := hT1.one hui
                    have HT1 := Lib.hid hT1
                    have HUI := Lib.hid hui
                    have HO2 := Lib.hid ho2
                    have HSM := Lib.hid hsame
                    have hm0' : (0 : Int) < (m : Int) := by omega
                    have hszw := hbel.size
                    have HBL := Lib.hid hbel
                    clear hT1 hT hui ho1 ho2 hsame hv hul hbel hne
                    go_wp2_with (at_builtin; (refine wpList_append_lies _ rfl _ _ 23 rfl wo.heap.size 5 i1 (.int .u8 0) 1 1 Try.underlying23 hi1 hy0 hy1 hy2 rfl (by decide) (.slice (some ⟨g, 0, none⟩) m c) m (bs2.map bval) rfl (HO2.out.alloc _) ⟨wr.heap.size, 0, none⟩ 1 1 [.int .u8 1] rfl rfl (by have := cell_one_new (wr.setCell ⟨g, 0, none⟩ (.int .u8 (((nth bs1 0 : Int) + 1) % 256))) (.int .u8 1) 5; simpa using this) (by simp [Value.oneCell']) (by omega) (by unfold maxLen; omega) (by omega) (by simp; omega) (wr.heap.size + 1) (by simp) ?_); (intro gg cap w9 hown9 hgrow9 hat9 hlt9; have hG := Lib.hid (HT1.out.grow HUI.out (y := 1) (by exact hown9) hgrow9 (or_size hat9)); have hG2 := Lib.hid (grow_low HBL.out HT1.out HUI.out hown9 hgrow9); have hc9 := hG.out.1; have hf9 := hG.out.2.1; clear hown9 hgrow9 hat9))
                    go_roundw
                    case rel => exact ⟨i + 1, _, by omega, by go_num, hG.out.2.2, fun j hj => by rw [List.getElem?_set_ne (by omega)]; exact HSM.out j (by omega), hG2.out i _⟩
                    case measure => simp [intOf]; omega
                  · obtain rfl : n7 = i := by omega
                    have HP : Hid (n3 = 0 ∨ ∃ pb : List UInt8, wr.ownsRow wo.heap.size 5 1 (.slice A3 n3 c3) n3 (pb.map bval)) := by
                      rcases HPS.out with h | h
                      · exact .inl h
                      · subst h; exact .inr hT.last
                    have HY := Lib.hid hbel
                    clear hbel hT hsame
                    go_wp2_with fail
                    go_loopw [14] (fun i wr => ByteRel wo.heap.size n3 c3 A3 wo i wr) (fun i _ => n3 - (intOf i).toNat)
                    case atStart => exact ⟨0, Nat.zero_le _, rfl, HP.out, HY.out⟩
                    case round =>
                      obtain ⟨q, hq, rfl, hpo, hbel⟩ := hrel
                      by_cases hql : q < n3
                      · obtain ⟨pb, hpo⟩ : ∃ pb : List UInt8, wr.ownsRow wo.heap.size 5 1 (.slice A3 n3 c3) n3 (pb.map bval) := by
                          rcases hpo with h | h
                          · omega
                          · exact h
                        obtain ⟨gp, rfl, hgp⟩ := own_head hpo (by omega)
                        obtain ⟨hcell, hfr⟩ := own_cell (j := q) hpo hql
                        go_wp2_with fail
                        go_roundw
                        case rel =>
                          obtain ⟨h1, h2⟩ := own_set (j := q) hpo hbel _ (u8_inc (nth pb q)) hgp
                          exact ⟨q + 1, by omega, by go_num, .inr ⟨_, h1⟩, h2⟩
                        case measure => simp [intOf]; omega
                      · obtain rfl : q = n3 := by omega
                        have HZ := Lib.hid hbel
                        clear hbel hpo
                        go_wp2_with fail
                        go_roundw
                        case rel => exact ⟨t + 1, by omega, by go_num, XO.out.below (HZ.out.mono hsz), BO.out.trans (HZ.out.mono BO.out.size), Nat.le_trans hsz HZ.out.size⟩
                        case measure => simp [intOf]; omega
      · obtain rfl : t = 2 := by omega
        go_wp2_with fail
        go_ret
        exact ⟨rfl, hB⟩

set_option maxRecDepth 100000 in
theorem lifted (os : Os) (started : os.Started) (H : Type) (enc : TypeId × Value → H) :
    ReturnsInHanded {} Try.checked os 4 .any (Rows.wordsPiecesSpec.pre6 enc Try.prog Try.f4 Rows.wordsPiecesRow.domain false) (Rows.wordsPiecesSpec.post enc Try.prog Try.f4 false true false false) := by
  refine returnsInHanded_of_change (C := Try.checked) own started (by kernel_rfl) Try.func4
    (ChangeSpec.witness6 (enc := enc) (C := Try.checked) false ⟨#[], #[.slice none 0 0, .int .i64 0, .int .i64 0], []⟩ 8 (by kernel_rfl) (by kernel_rfl) (by kernel_rfl) (by kernel_rfl)) ?_
  intro W base args ds gs before hval0 hW hcnd _
  have hval : ∀ (j : Nat) t v, Try.f4.params[j]? = some t → args[j]? = some v → Value.okWide Try.prog W .any base t v := hval0
  have hW' := hW
  obtain ⟨p, q, hA0, hV, rfl, hfz, hnd⟩ := hW
  have hA : DataW.TrodAll enc Try.prog W 0 (fun _ => true) true Try.f4.params.toList args.toList ds p := hA0
  rw [Try.params4] at hA hval
  obtain ⟨v0, vs0, d0, ds0, p0, q0, hargs, rfl, rfl, h0, r0⟩ := trodAll_cons hA
  obtain ⟨v1, vs1, d1, ds1, p1, q1, rfl, rfl, rfl, h1, r1⟩ := trodAll_cons r0
  obtain ⟨v2, vs2, d2, ds2, p2, q2, rfl, rfl, rfl, h2, r2⟩ := trodAll_cons r1
  obtain ⟨rfl, rfl, rfl⟩ := trodAll_nil r2
  obtain rfl : args = #[v0, v1, v2] := by cases args; simp_all
  obtain ⟨rfl, rfl⟩ := trodVars_none hV
  obtain ⟨a0, len0, cap0, rfl⟩ := okWide_slice Try.underlying23 (hval 0 23 v0 rfl rfl)
  have k0 := h0
  have lt0 : ∀ x ∈ p0, x.block < W.heap.size := by obtain ⟨m, hm⟩ := k0; exact DataW.trod_lt m _ _ _ hm
  obtain ⟨z0, w0⟩ : ∃ zs, IsRow .u8 W a0 len0 cap0 zs := by
    obtain ⟨fuel, hf⟩ := h0
    rcases open_ints Try.underlying23 Try.underlying5 (by kernel_rfl) hf with ⟨hcs, _⟩ | ⟨x, l, c, zs, hcs, _, hl, hm, hz, _, hcell, hwz⟩
    · simp [Value.cells] at hcs
      obtain ⟨rfl, rfl, rfl⟩ := hcs
      exact ⟨[], .inl ⟨rfl, rfl, rfl, rfl⟩⟩
    · simp [Value.cells] at hcs
      obtain ⟨rfl, rfl, rfl⟩ := hcs
      exact ⟨zs, .inr ⟨_, rfl, hl, hm, by simpa using hz, hcell, hwz⟩⟩
  obtain ⟨a1, rfl, rfl, rfl, w1⟩ := open_int Try.underlying3 (hval 1 3 v1 rfl rfl) h1
  obtain ⟨a2, rfl, rfl, rfl, w2⟩ := open_int Try.underlying3 (hval 2 3 v2 rfl rfl) h2
  clear hA0 hval0
  refine (walk a0 len0 cap0 z0 a1 a2 W w0 w1 w2).mono fun e W' ⟨he, bel⟩ => ?_
  subst he
  exact ⟨_, rfl, _, _, _, [], _, [], hW', trodAll_mk1 (shut_bool Try.underlying4 _), (trodAll_cons_mk (Below.trod laidOut (by kernel_rfl) (of_decide_eq_true (by kernel_rfl)) k0 bel lt0) (trodAll_cons_mk (shut_int Try.underlying3 w1) (trodAll_cons_mk (shut_int Try.underlying3 w2) trodAll_mk0))), rfl, bel.frame _, fun h => by cases h⟩

theorem over : Rows.wordsPiecesRow.holds Try.pinned (OpenSpec.ofChange Rows.wordsPiecesSpec) :=
  OpenClaim.holds_of_wide 4 Try.f4 rfl rfl rfl rfl rfl rfl rfl ⟨rfl, rfl, rfl, rfl, rfl⟩ rfl rfl rfl rfl rfl (by kernel_rfl) Try.func4 (by kernel_rfl)
    (of_decide_eq_true (by kernel_rfl)) (by unfold Func.isWrapper; first | (rw [if_pos (by decide +kernel)]; kernel_rfl) | (rw [if_neg (by decide +kernel)]; exact ⟨rfl, rfl⟩))
    (fun os started H enc _ => lifted os started H enc)


theorem proved : Rows.WordsPiecesSaid := over
end Go.Proofs.Ytpknclidladncaa.wordsPieces
