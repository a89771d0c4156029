/- For any at most 1000 bytes and any at most 60 fields the law WireTakes of citadellaw05 returns true: what wire's reader takes, and tells, is as the chapter says. Conditions: none beyond those that the statement itself prints. -/
import Derived.Test.YtmhknpkiddgcpaaRows
import Derived.Test.YtmhknpkiddgcpaaWireSame
import Derived.Test.YtmhknpkiddgcpaaArrEq
import Derived.Deep.RegionHeld
import Derived.SizedLaws
import Derived.WalkKit
import Derived.ProofKit
import Derived.OpenShut
import Derived.ShutString
import Derived.ChangeOld
import Derived.Below
namespace Go.Proofs.Ytmhknpkiddgcpaa.wireTakes
open Go.ChangeShapes Go.WideShapes Go.ChangeAt Go.RowKit
open Go.ChangeMaps (open_string shut_string)
set_option linter.unusedVariables false
set_option linter.unusedSimpArgs false

theorem own : ownKnob Try.prog.godebug = none := by kernel_rfl
theorem laidOut : laidOutB Try.prog = true := by kernel_rfl

theorem wpList_load_midG {P : Program} {ops : Array Oper} {rest : List Oper} {op : Oper} {a : Act} {w : World} {Q : Exit → Act → World → Prop} (hw : Region.wanted op (yielded ops a.tmps) = true) (ty : TypeId) (x : Operand) (ho : op.op = .load ty x)
    (b o : Nat) (hx : a.eval x = .pointer (some ⟨b, o, none⟩)) (cs : List Value) (d : TypeDesc) (hc : w.rangeAt b o cs)
    (hu : P.underlying ty = some d) (hd : d.isRow = true) (hi : (P.info? ty).map (·.size) = some cs.length)
    (h : wpList P ops Q rest (a.put op.dst (.agg cs.toArray)) w) : wpList P ops Q (op :: rest) a w :=
  wpList_step fun K hK => by rw [if_pos hw]; exact wp_load_mid ty x ho b o hx cs d hc hu hd hi (hK _ _ h)
def TakesRel (w1 : World) (n gp gr : Nat) (gb : Option Nat) (i : Value) (wr : World) : Prop :=
  ∃ (k : Nat) (s : RS) (F : Nat → Prop), k ≤ n + 1 ∧ i = .int .i64 (k : Int) ∧ Both wr gp gr F gb s ∧ (∀ k, F k → w1.heap.size ≤ k) ∧ Below w1.heap.size w1 wr
set_option maxRecDepth 100000 in
set_option maxHeartbeats 4000000 in
theorem walk (a0 : Option Addr) (len0 cap0 : Nat) (z0 : List Int) (a1 : Option Addr) (len1 cap1 : Nat) (fs1 : List Fld) (w : World) (w0 : IsRow .u8 w a0 len0 cap0 z0) (w1 : RdF w w.heap.size a1 len1 fs1 ∧ len1 ≤ cap1 ∧ cap1 * 88 ≤ 140737488351232) :
    Calls Try.prog 4 #[.slice a0 len0 cap0, .slice a1 len1 cap1] w fun e w' => e = .returned (.bool true) ∧ Below w.heap.size w w' := by
  obtain ⟨r0, hcap0, hcap0'⟩ := w0.rd
  obtain ⟨r1, hcap1, hcap1'⟩ := w1
  generalize bytesIn (z0.take len0) = bs at r0
  clear w0
  have R := Lib.hid r0
  have S := Lib.hid r1
  clear r0 r1
  by_cases hout : 1000 < len0 ∨ 60 < len1
  · go_enter Try.func4, Try.ntmps4
    by_cases h1 : 1000 < len0
    · go_wp2_with fail
      go_ret
      exact ⟨rfl, Below.refl _ _⟩
    have h3 : 60 < len1 := by omega
    go_wp2_with fail
    go_ret
    exact ⟨rfl, Below.refl _ _⟩
  have hl0 : len0 ≤ 1000 := by omega
  have hl1 : len1 ≤ 60 := by omega
  clear hout
  go_enter Try.func4, Try.ntmps4
  go_wp2_with fail
  refine (refCopy a0 len0 cap0 bs w R.out (by omega)).mono ?_
  rintro e w1 ⟨A1, n1, c1, rfl, hown1, hb⟩
  have M := Lib.hid (Rd.of_own hown1)
  obtain rfl : n1 = len0 := (Rd.of_own hown1).1.symm.trans R.out.1
  obtain ⟨hcp1, hcp1'⟩ := own_cap hown1
  have B := Lib.hid hb
  replace R := Lib.hid (R.out.to hb)
  replace S := Lib.hid (S.out.to hb)
  clear hown1 hb
  go_wp2_with fail
  refine (pNew A1 n1 c1 bs w1 M.out hcp1 hcp1' (by omega)).mono ?_
  rintro e w2 ⟨gp, F, rfl, hp, hF, hb⟩
  have P := Lib.hid hp
  have HF := Lib.hid hF
  have B1 := Lib.hid hb
  have HFL := Lib.hid hp.lt
  clear hp hF hb
  go_wp2_with fail
  refine (rdNew a0 n1 cap0 bs w2 (R.out.to B1.out) (by omega)).mono ?_
  rintro e w3 ⟨gr, gb, rfl, hr, hgr, hgb, hb⟩
  have HGR : Hid (w2.heap.size ≤ gr) := hgr
  have BO : Hid (Both w3 gp gr F gb (newRS bs)) := ⟨P.out.kept (R := fun _ => False) (Keep.of_below hb) (fun _ _ h => h), hr, fun h => by have := HFL.out _ h; omega, fun b e h => by have := HFL.out _ h; have := (hgb b e).1; omega, fun b e => (hgb b e).2⟩
  have HGR1 : Hid (w1.heap.size ≤ gr) := Nat.le_trans B1.out.size hgr
  replace B1 := Lib.hid (B1.out.trans (hb.mono B1.out.size))
  clear hr hgr hgb hb P
  go_wp2_with fail
  go_loopw [8] (fun i wr => TakesRel w1 len1 gp gr gb i wr) (fun i _ => len1 + 1 - (intOf i).toNat)
  case atStart => exact ⟨0, _, F, Nat.zero_le _, rfl, BO.out, HF.out, B1.out⟩
  case round =>
    clear BO HF B1 HFL
    obtain ⟨k, s, F, hk, rfl, hbo, hF, hb1⟩ := hrel
    have BO := Lib.hid hbo
    have HF := Lib.hid hF
    have B1 := Lib.hid hb1
    have HK := Lib.hid hk
    clear hbo hF hb1 hk
    by_cases hle : k ≤ len1
    · go_wp2_with fail
      replace BO : Hid (Both wr.drew gp gr F gb s) := ⟨BO.out.p.kept (R := fun _ => False) (Keep.refl _ wr).drew (fun _ _ h => h), BO.out.r, BO.out.nr, BO.out.nb, BO.out.bl⟩
      replace B1 := Lib.hid B1.out.drew
      generalize hwd : wr.drew = wd at *
      have HWD := Lib.hid hwd
      clear hwd
      obtain ⟨_, _, _, _, _, _, x2, _, _⟩ := BO.out.r.cells
      have X2 := Lib.hid x2
      have HGL := Lib.hid BO.out.r.lt
      clear x2
      refine wp_region_held_drew (S := (fun w' => w'.cell? ⟨gr, 2, none⟩ = some (.int .i64 (s.e : Int)))) (by kernel_rfl) ((by rw [HWD.out]; exact X2.out)) (fun hHeld => ?_)
      rw [HWD.out] at hHeld ⊢
      refine wpAnyH_take (i := 0) (v := ?_) rfl (by kernel_rfl) (by kernel_rfl) (by kernel_rfl) (fun _ _ _ h => h) (Or.inl ⟨by rfl, ?_⟩) (by assumption) ?_
      rotate_left 1
      · intro w hSw; (try dsimp only at hSw); go_simp; (try with_reducible rfl)
      simp only [Act.put, List.getElem_toArray, List.getElem_cons_zero, List.getElem_cons_succ, List.setIfInBounds_toArray, List.set_cons_zero, List.set_cons_succ]
      refine wpAnyH_take (i := 2) (v := ?_) rfl (by kernel_rfl) (by kernel_rfl) (by kernel_rfl) (fun _ _ _ h => h) (Or.inl ⟨by rfl, ?_⟩) (by assumption) ?_
      rotate_left 1
      · intro w hSw; (try dsimp only at hSw); go_simp; (try with_reducible rfl)
      simp only [Act.put, List.getElem_toArray, List.getElem_cons_zero, List.getElem_cons_succ, List.setIfInBounds_toArray, List.set_cons_zero, List.set_cons_succ]
      refine wpAnyH_ready (rs := [1]) (by kernel_rfl) (by simp) ?_
      refine AllReadyH.cons rfl (fun K hK => ?_) AllReadyH.nil
      go_simp
      refine (pLeft gp F s wd BO.out.p).mono ?_
      rintro e w4 ⟨rfl, hb⟩
      have BT := Lib.hid hb
      clear hb
      go_wp2_with fail
      refine hK.out _ _ (((BT.out.cell HGL.out).trans X2.out)) (fun hHeld => ?_)
      clear hK K
      refine wpAnyH_ready (rs := [3]) (by kernel_rfl) (by simp) ?_
      refine AllReadyH.cons rfl (fun K hK => ?_) AllReadyH.nil
      go_simp
      refine (rdLeft gr gb s w4 (BO.out.below BT.out).r).mono ?_
      rintro e w5 ⟨rfl, q, rfl⟩
      replace BT := Lib.hid (below_drewN BT.out q)
      go_wp2_with fail
      refine hK.out _ _ (((BT.out.cell HGL.out).trans X2.out)) (fun hHeld => ?_)
      clear hK K
      refine wpAnyH_take (i := 4) (v := ?_) rfl (by kernel_rfl) (by kernel_rfl) (by kernel_rfl) (fun _ _ _ h => h) (Or.inl ⟨by rfl, ?_⟩) (by assumption) ?_
      rotate_left 1
      · intro w hSw; (try dsimp only at hSw); go_simp; (try with_reducible rfl)
      simp only [Act.put, List.getElem_toArray, List.getElem_cons_zero, List.getElem_cons_succ, List.setIfInBounds_toArray, List.set_cons_zero, List.set_cons_succ]
      refine wpAnyH_take (i := 5) (v := ?_) rfl (by kernel_rfl) (by kernel_rfl) (by kernel_rfl) (fun _ _ _ h => h) (Or.inl ⟨by rfl, ?_⟩) (by assumption) ?_
      rotate_left 1
      · intro w hSw; (try dsimp only at hSw); go_simp; (try with_reducible rfl)
      simp only [Act.put, List.getElem_toArray, List.getElem_cons_zero, List.getElem_cons_succ, List.setIfInBounds_toArray, List.set_cons_zero, List.set_cons_succ]
      refine wpAnyH_take (i := 6) (v := ?_) rfl (by kernel_rfl) (by kernel_rfl) (by kernel_rfl) (fun _ _ _ h => h) (Or.inl ⟨by rfl, ?_⟩) (by assumption) ?_
      rotate_left 1
      · intro w hSw; (try dsimp only at hSw); go_simp; (try with_reducible rfl)
      simp only [Act.put, List.getElem_toArray, List.getElem_cons_zero, List.getElem_cons_succ, List.setIfInBounds_toArray, List.set_cons_zero, List.set_cons_succ]
      refine wpAnyH_take (i := 8) (v := ?_) rfl (by kernel_rfl) (by kernel_rfl) (by kernel_rfl) (fun _ _ _ h => h) (Or.inl ⟨by rfl, ?_⟩) (by assumption) ?_
      rotate_left 1
      · intro w hSw; (try dsimp only at hSw); go_simp; (try with_reducible rfl)
      simp only [Act.put, List.getElem_toArray, List.getElem_cons_zero, List.getElem_cons_succ, List.setIfInBounds_toArray, List.set_cons_zero, List.set_cons_succ]
      refine wpAnyH_take (i := 9) (v := ?_) rfl (by kernel_rfl) (by kernel_rfl) (by kernel_rfl) (fun _ _ _ h => h) (Or.inl ⟨by rfl, ?_⟩) (by assumption) ?_
      rotate_left 1
      · intro w hSw; (try dsimp only at hSw); go_simp; (try with_reducible rfl)
      simp only [Act.put, List.getElem_toArray, List.getElem_cons_zero, List.getElem_cons_succ, List.setIfInBounds_toArray, List.set_cons_zero, List.set_cons_succ]
      refine wpAnyH_take (i := 10) (v := ?_) rfl (by kernel_rfl) (by kernel_rfl) (by kernel_rfl) (fun _ _ _ h => h) (Or.inl ⟨by rfl, ?_⟩) (by assumption) ?_
      rotate_left 1
      · intro w hSw; (try dsimp only at hSw); go_simp; (try with_reducible rfl)
      simp only [Act.put, List.getElem_toArray, List.getElem_cons_zero, List.getElem_cons_succ, List.setIfInBounds_toArray, List.set_cons_zero, List.set_cons_succ]
      refine wpAnyH_take (i := 11) (v := ?_) rfl (by kernel_rfl) (by kernel_rfl) (by kernel_rfl) (fun _ _ _ h => h) (Or.inl ⟨by rfl, ?_⟩) (by assumption) ?_
      rotate_left 1
      · intro w hSw; (try dsimp only at hSw); go_simp; (try with_reducible rfl)
      simp only [Act.put, List.getElem_toArray, List.getElem_cons_zero, List.getElem_cons_succ, List.setIfInBounds_toArray, List.set_cons_zero, List.set_cons_succ]
      refine wpAnyH_ready (rs := [7]) (by kernel_rfl) (by simp) ?_
      refine AllReadyH.cons rfl (fun K hK => ?_) AllReadyH.nil
      go_simp
      refine (pErr gp F s _ (BO.out.below BT.out).p).mono ?_
      rintro e w6 ⟨rfl, hb⟩
      replace BT := Lib.hid (BT.out.trans (hb.mono BT.out.size))
      clear hb
      go_wp2_with fail
      refine hK.out _ _ (((BT.out.cell HGL.out).trans X2.out)) (fun hHeld => ?_)
      clear hK K
      refine wpAnyH_take (i := 12) (v := ?_) rfl (by kernel_rfl) (by kernel_rfl) (by kernel_rfl) (fun _ _ _ h => h) (Or.inl ⟨by rfl, ?_⟩) (by assumption) ?_
      rotate_left 1
      · intro w hSw; (try dsimp only at hSw); go_simp; (try with_reducible rfl)
      simp only [Act.put, List.getElem_toArray, List.getElem_cons_zero, List.getElem_cons_succ, List.setIfInBounds_toArray, List.set_cons_zero, List.set_cons_succ]
      refine wpAnyH_take (i := 13) (v := ?_) rfl (by kernel_rfl) (by kernel_rfl) (by kernel_rfl) (fun _ _ _ h => h) (Or.inl ⟨by rfl, ?_⟩) (by assumption) ?_
      rotate_left 1
      · intro w hSw; (try dsimp only at hSw); go_simp; (try with_reducible rfl)
      simp only [Act.put, List.getElem_toArray, List.getElem_cons_zero, List.getElem_cons_succ, List.setIfInBounds_toArray, List.set_cons_zero, List.set_cons_succ]
      refine wpAnyH_take (i := 14) (v := ?_) rfl (by kernel_rfl) (by kernel_rfl) (by kernel_rfl) (fun _ _ _ h => h) (Or.inl ⟨by rfl, ?_⟩) (by assumption) ?_
      rotate_left 1
      · intro w hSw; (try dsimp only at hSw); go_simp; (try with_reducible rfl)
      simp only [Act.put, List.getElem_toArray, List.getElem_cons_zero, List.getElem_cons_succ, List.setIfInBounds_toArray, List.set_cons_zero, List.set_cons_succ]
      refine wpAnyH_take (i := 15) (v := ?_) rfl (by kernel_rfl) (by kernel_rfl) (by kernel_rfl) (fun _ _ _ h => h) (Or.inl ⟨by rfl, ?_⟩) (by assumption) ?_
      rotate_left 1
      · intro w hSw; (try dsimp only at hSw); go_simp; (try with_reducible rfl)
      simp only [Act.put, List.getElem_toArray, List.getElem_cons_zero, List.getElem_cons_succ, List.setIfInBounds_toArray, List.set_cons_zero, List.set_cons_succ]
      refine wpAnyH_take (i := 17) (v := ?_) rfl (by kernel_rfl) (by kernel_rfl) (by kernel_rfl) (fun _ _ _ h => h) (Or.inl ⟨by rfl, ?_⟩) (by assumption) ?_
      rotate_left 1
      · intro w hSw; (try dsimp only at hSw); go_simp; (try with_reducible rfl)
      simp only [Act.put, List.getElem_toArray, List.getElem_cons_zero, List.getElem_cons_succ, List.setIfInBounds_toArray, List.set_cons_zero, List.set_cons_succ]
      refine wpAnyH_ready (rs := [16]) (by kernel_rfl) (by simp) ?_
      refine AllReadyH.cons rfl (fun K hK => ?_) AllReadyH.nil
      go_simp
      refine (pEnd gp F s _ (BO.out.below BT.out).p).mono ?_
      rintro e w7 ⟨rfl, hb⟩
      replace BT := Lib.hid (BT.out.trans (hb.mono BT.out.size))
      clear hb
      go_wp2_with fail
      refine hK.out _ _ (((BT.out.cell HGL.out).trans X2.out)) (fun hHeld => ?_)
      clear hK K
      refine wpAnyH_ready (rs := [18]) (by kernel_rfl) (by simp) ?_
      refine AllReadyH.cons rfl (fun K hK => ?_) AllReadyH.nil
      go_simp
      refine (rdEnd gr gb s _ (BO.out.below BT.out).r).mono ?_
      rintro e w8 ⟨rfl, q2, rfl⟩
      replace BT := Lib.hid (below_drewN BT.out q2)
      go_wp2_with fail
      refine hK.out _ _ (((BT.out.cell HGL.out).trans X2.out)) (fun hHeld => ?_)
      clear hK K
      refine wpAnyH_take (i := 19) (v := ?_) rfl (by kernel_rfl) (by kernel_rfl) (by kernel_rfl) (fun _ _ _ h => h) (Or.inl ⟨by rfl, ?_⟩) (by assumption) ?_
      rotate_left 1
      · intro w hSw; (try dsimp only at hSw); go_simp; (try with_reducible rfl)
      simp only [Act.put, List.getElem_toArray, List.getElem_cons_zero, List.getElem_cons_succ, List.setIfInBounds_toArray, List.set_cons_zero, List.set_cons_succ]
      refine wpAnyH_take (i := 20) (v := ?_) rfl (by kernel_rfl) (by kernel_rfl) (by kernel_rfl) (fun _ _ _ h => h) (Or.inl ⟨by rfl, ?_⟩) (by assumption) ?_
      rotate_left 1
      · intro w hSw; (try dsimp only at hSw); go_simp; (try with_reducible rfl)
      simp only [Act.put, List.getElem_toArray, List.getElem_cons_zero, List.getElem_cons_succ, List.setIfInBounds_toArray, List.set_cons_zero, List.set_cons_succ]
      refine wpAnyH_take (i := 21) (v := ?_) rfl (by kernel_rfl) (by kernel_rfl) (by kernel_rfl) (fun _ _ _ h => h) (Or.inl ⟨by rfl, ?_⟩) (by assumption) ?_
      rotate_left 1
      · intro w hSw; (try dsimp only at hSw); go_simp; (try with_reducible rfl)
      simp only [Act.put, List.getElem_toArray, List.getElem_cons_zero, List.getElem_cons_succ, List.setIfInBounds_toArray, List.set_cons_zero, List.set_cons_succ]
      refine wpAnyH_take (i := 22) (v := ?_) rfl (by kernel_rfl) (by kernel_rfl) (by kernel_rfl) (fun _ _ _ h => h) (Or.inl ⟨by rfl, ?_⟩) (by assumption) ?_
      rotate_left 1
      · intro w hSw; (try dsimp only at hSw); go_simp; (try with_reducible rfl)
      simp only [Act.put, List.getElem_toArray, List.getElem_cons_zero, List.getElem_cons_succ, List.setIfInBounds_toArray, List.set_cons_zero, List.set_cons_succ]
      refine wpAnyH_take (i := 23) (v := ?_) rfl (by kernel_rfl) (by kernel_rfl) (by kernel_rfl) (fun _ _ _ h => h) (Or.inl ⟨by rfl, ?_⟩) (by assumption) ?_
      rotate_left 1
      · intro w hSw; (try dsimp only at hSw); go_simp; (try with_reducible rfl)
      simp only [Act.put, List.getElem_toArray, List.getElem_cons_zero, List.getElem_cons_succ, List.setIfInBounds_toArray, List.set_cons_zero, List.set_cons_succ]
      refine wpAnyH_ready (rs := [24]) (by kernel_rfl) (by simp) ?_
      refine AllReadyH.cons rfl (fun K hK => ?_) AllReadyH.nil
      go_simp
      refine (refSameBT A1 a0 n1 n1 c1 cap0 bs bs _ rfl ((M.out.to B1.out).to BT.out) ((R.out.to B1.out).to BT.out) (by omega) (by omega)).mono ?_
      rintro e w9 ⟨rfl, hb⟩
      replace BT := Lib.hid (BT.out.trans (hb.mono BT.out.size))
      clear hb
      go_wp2_with fail
      refine hK.out _ _ (((BT.out.cell HGL.out).trans X2.out)) (fun hHeld => ?_)
      clear hK K
      refine wpAnyH_take (i := 25) (v := ?_) rfl (by kernel_rfl) (by kernel_rfl) (by kernel_rfl) (fun _ _ _ h => h) (Or.inl ⟨by rfl, ?_⟩) (by assumption) ?_
      rotate_left 1
      · intro w hSw; (try dsimp only at hSw); go_simp; (try with_reducible rfl)
      simp only [Act.put, List.getElem_toArray, List.getElem_cons_zero, List.getElem_cons_succ, List.setIfInBounds_toArray, List.set_cons_zero, List.set_cons_succ]
      refine wpAnyH_take (i := 26) (v := ?_) rfl (by kernel_rfl) (by kernel_rfl) (by kernel_rfl) (fun _ _ _ h => h) (Or.inl ⟨by rfl, ?_⟩) (by assumption) ?_
      rotate_left 1
      · intro w hSw; (try dsimp only at hSw); go_simp; (try with_reducible rfl)
      simp only [Act.put, List.getElem_toArray, List.getElem_cons_zero, List.getElem_cons_succ, List.setIfInBounds_toArray, List.set_cons_zero, List.set_cons_succ]
      refine wpAnyH_done (by kernel_rfl) ?_ _
      clear hHeld
      replace BO := Lib.hid (BO.out.below BT.out)
      replace B1 := Lib.hid (B1.out.trans (BT.out.mono B1.out.size))
      clear BT X2 HGL HWD
      by_cases hlt : k < len1
      · obtain ⟨b, o, rfl, hbo, hc⟩ := S.out.2 (by omega)
        obtain ⟨A', m, c', h1, h2⟩ := hc k hlt
        have hrng := rangeAt_below h1 (B1.out.mono (Nat.le_refl _)) hbo
        have HOKF := Lib.hid (h2.to B1.out)
        have hu := Try.underlying31
        have S37 := Lib.hid (show (Try.prog.info? 31).map (·.size) = some (fldL (fs1.getD k Fld.zero) A' m c').length by rw [fldL_len h2.tl]; kernel_rfl)
        clear hc h1 h2 hbo
        generalize fs1.getD k Fld.zero = f at *
        go_wp2_with (refine wpList_load_midG (by rfl) 31 _ rfl b (o + k * 37) rfl (fldL f A' m c') _ hrng hu rfl S37.out ?_)
        refine (rSame gp gr F gb s f A' m c' w9 BO.out HOKF.out).mono ?_
        rintro e w10 ⟨rfl, F', s', hbo, hs, hk⟩
        have BO2 := Lib.hid hbo
        have HF2 : Hid (∀ k, F' k → w1.heap.size ≤ k) := fun k h => by
          rcases hs k h with h | h
          · exact HF.out k h
          · have := B1.out.size; omega
        have B2 := Lib.hid (Keep.below B1.out hk B1.out.size (fun k h => by
          rcases h with h | h
          · exact HF.out k h
          · rw [h]; exact HGR1.out))
        clear hbo hs hk hrng hu
        have hk60 : (k : Int) ≤ 60 := by omega
        go_wp2_with fail
        go_roundw
        case rel => exact ⟨k + 1, s', F', by omega, by go_num, BO2.out, HF2.out, B2.out⟩
        case measure => simp [intOf]; omega
      · have hk60 : (k : Int) ≤ 60 := by omega
        go_wp2_with fail
        go_roundw
        case rel => exact ⟨k + 1, s, F, by omega, by go_num, BO.out, HF.out, B1.out⟩
        case measure => simp [intOf]; omega
    · obtain rfl : k = len1 + 1 := by have := HK.out; omega
      go_wp2_with fail
      go_ret
      exact ⟨rfl, B.out.trans (B1.out.mono B.out.size)⟩

set_option maxRecDepth 100000 in
theorem lifted (os : Os) (started : os.Started) (H : Type) (enc : TypeId × Value → H) :
    ReturnsInHanded {} Try.checked os 4 .any (Rows.wireTakesSpec.pre6 enc Try.prog Try.f4 Rows.wireTakesRow.domain false) (Rows.wireTakesSpec.post enc Try.prog Try.f4 false true false false) := by
  refine returnsInHanded_of_change_sized (C := Try.checked) own started (by kernel_rfl) Try.func4
    (ChangeSpec.witness6 (enc := enc) (C := Try.checked) false ⟨#[], #[.slice none 0 0, .slice none 0 0], []⟩ 8 (by kernel_rfl) (by kernel_rfl) (by kernel_rfl) (by kernel_rfl)) ?_
  intro W base args ds gs before hval0 hW hcnd hsz0 _
  have hval : ∀ (j : Nat) t v, Try.f4.params[j]? = some t → args[j]? = some v → Value.okWide Try.prog W .any base t v := hval0
  have hsz : (DataW.weightsEach Try.prog (Try.f4.params.toList ++ Rows.wireTakesSpec.plain.varTypes Try.prog) (ds ++ gs)).all (· ≤ reachBytes) = true := hsz0
  have hW' := hW
  obtain ⟨p, q, hA0, hV, rfl, hfz, hnd⟩ := hW
  have hA : DataW.TrodAll enc Try.prog W 0 (fun _ => true) true Try.f4.params.toList args.toList ds p := hA0
  rw [Try.params4] at hA hval hsz
  obtain ⟨v0, vs0, d0, ds0, p0, q0, hargs, rfl, rfl, h0, r0⟩ := trodAll_cons hA
  obtain ⟨v1, vs1, d1, ds1, p1, q1, rfl, rfl, rfl, h1, r1⟩ := trodAll_cons r0
  obtain ⟨rfl, rfl, rfl⟩ := trodAll_nil r1
  obtain rfl : args = #[v0, v1] := by cases args; simp_all
  obtain ⟨rfl, rfl⟩ := trodVars_none hV
  have sz1 : ∀ x ∈ d1.weights Try.prog 22, x ≤ reachBytes := fun x hx => by simpa using List.all_eq_true.1 hsz _ (DataW.weights_mem_each (j := 1) rfl rfl x hx)
  obtain ⟨a0, len0, cap0, rfl⟩ := okWide_slice Try.underlying26 (hval 0 26 v0 rfl rfl)
  have k0 := h0
  have lt0 : ∀ x ∈ p0, x.block < W.heap.size := by obtain ⟨m, hm⟩ := k0; exact DataW.trod_lt m _ _ _ hm
  obtain ⟨z0, w0⟩ : ∃ zs, IsRow .u8 W a0 len0 cap0 zs := by
    obtain ⟨fuel, hf⟩ := h0
    rcases open_ints Try.underlying26 Try.underlying5 (by kernel_rfl) hf with ⟨hcs, _⟩ | ⟨x, l, c, zs, hcs, _, hl, hm, hz, _, hcell, hwz⟩
    · simp [Value.cells] at hcs
      obtain ⟨rfl, rfl, rfl⟩ := hcs
      exact ⟨[], .inl ⟨rfl, rfl, rfl, rfl⟩⟩
    · simp [Value.cells] at hcs
      obtain ⟨rfl, rfl, rfl⟩ := hcs
      exact ⟨zs, .inr ⟨_, rfl, hl, hm, by simpa using hz, hcell, hwz⟩⟩
  have k1 := h1
  have lt1 : ∀ x ∈ p1, x.block < W.heap.size := by obtain ⟨m, hm⟩ := k1; exact DataW.trod_lt m _ _ _ hm
  obtain ⟨a1, len1, cap1, fs1, rfl, w1⟩ := open_flds (hval 1 22 v1 rfl rfl) h1 sz1
  clear hA0 hval0
  refine (walk a0 len0 cap0 z0 a1 len1 cap1 fs1 W w0 w1).mono fun e W' ⟨he, bel⟩ => ?_
  subst he
  exact ⟨_, rfl, _, _, _, [], _, [], hW', trodAll_mk1 (shut_bool Try.underlying4 _), (trodAll_cons_mk (Below.trod laidOut (by kernel_rfl) (of_decide_eq_true (by kernel_rfl)) k0 bel lt0) (trodAll_cons_mk (Below.trod laidOut (by kernel_rfl) (of_decide_eq_true (by kernel_rfl)) k1 bel lt1) trodAll_mk0)), rfl, bel.frame _, fun h => by cases h⟩

theorem over : Rows.wireTakesRow.holds Try.pinned (OpenSpec.ofChange Rows.wireTakesSpec) :=
  OpenClaim.holds_of_wide 4 Try.f4 rfl rfl rfl rfl rfl rfl rfl ⟨rfl, rfl, rfl, rfl, rfl⟩ rfl rfl rfl rfl rfl (by kernel_rfl) Try.func4 (by kernel_rfl)
    (of_decide_eq_true (by kernel_rfl)) (by unfold Func.isWrapper; first | (rw [if_pos (by decide +kernel)]; kernel_rfl) | (rw [if_neg (by decide +kernel)]; exact ⟨rfl, rfl⟩))
    (fun os started H enc _ => lifted os started H enc)

theorem proved : Rows.WireTakesSaid := over
end Go.Proofs.Ytmhknpkiddgcpaa.wireTakes
