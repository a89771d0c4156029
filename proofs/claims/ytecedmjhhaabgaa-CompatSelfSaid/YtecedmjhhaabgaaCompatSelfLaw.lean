/- For any configuration the law CompatSelf of citadellaw13 returns true: a valid one may follow itself; then just the partitions with Keep survive, and the channels between them (compat.Check, Parts, Leaving, Channels). -/
import Derived.Test.YtecedmjhhaabgaaRows
import Derived.Test.YtecedmjhhaabgaaCpW
import Derived.Test.YtecedmjhhaabgaaCpL
import Derived.Test.YtecedmjhhaabgaaCpPq
import Derived.Test.YtecedmjhhaabgaaCpQ
import Derived.Test.YtecedmjhhaabgaaVaPq
import Derived.Test.YtecedmjhhaabgaaCfLq
import Derived.Test.YtecedmjhhaabgaaHeldQ
import Derived.Deep.DeepCutAuto
import Derived.SizedLaws
import Derived.WalkKit
import Derived.ProofKit
import Derived.OpenShut
import Derived.ShutString
import Derived.ChangeOld
import Derived.Below
namespace Go.Proofs.Ytecedmjhhaabgaa.compatSelf
open Go.ChangeShapes Go.WideShapes Go.ChangeAt Go.RowKit
open Go.ChangeMaps (open_string shut_string)
set_option linter.unusedVariables false
set_option linter.unusedSimpArgs false

theorem own : ownKnob Try.prog.godebug = none := by kernel_rfl
theorem laidOut : laidOutB Try.prog = true := by kernel_rfl

theorem partV_I {c : Cf} {id : Int} (h : hasP c id = true) : partV c id = ptI c id := by
  unfold partV ptI
  rw [if_pos (of_decide_eq_true h)]
/-- A partition that was looked up, in a box. -/
def PtC (c : Cf) (id : Int) (w : World) (s t : Value) (wx : World) : Prop :=
  ∃ (g m k : Nat) (A : Option Addr), s = .pointer (some ⟨g, 0, none⟩) ∧ t = .bool (hasP c id) ∧ Bx wx g 43 [.int .i64 (partV c id).id, .int .i64 (partV c id).base, .int .i64 (partV c id).size, .bool (partV c id).keep, .slice A m k] ∧ Below w.heap.size w wx
def selP (c : Cf) (lv : Bool) (k : Nat) : List Int := ((c.ps.take k).filter (fun p => p.keep != lv)).map Pt.id
theorem selP_succ {c : Cf} {lv : Bool} {k : Nat} (h : k < c.ps.length) : selP c lv (k + 1) = selP c lv k ++ (if ((ptAt c.ps k).keep != lv) = true then [(ptAt c.ps k).id] else []) := by
  unfold selP
  rw [List.take_succ_eq_append_getElem h, List.filter_append, List.map_append, ptAt_lt h]
  congr 1
  by_cases hb : (c.ps[k].keep != lv) = true
  · rw [if_pos hb]; simp [hb]
  · rw [if_neg hb]; simp [hb]
theorem selP_len (c : Cf) (lv : Bool) (k : Nat) : (selP c lv k).length ≤ k := by
  unfold selP
  rw [List.length_map]
  refine Nat.le_trans (List.length_filter_le _ _) ?_
  rw [List.length_take]; omega
theorem selP_all (c : Cf) (lv : Bool) : selP c lv c.ps.length = (c.ps.filter (fun p => p.keep != lv)).map Pt.id := by unfold selP; rw [List.take_length]
def selC (c : Cf) (k : Nat) : List Int := ((c.cs.take k).filter (betw c)).map Ch.id
theorem selC_succ {c : Cf} {k : Nat} (h : k < c.cs.length) : selC c (k + 1) = selC c k ++ (if betw c (chAt c.cs k) = true then [(chAt c.cs k).id] else []) := by
  unfold selC
  rw [List.take_succ_eq_append_getElem h, List.filter_append, List.map_append, chAt_lt h]
  congr 1
  by_cases hb : betw c c.cs[k] = true
  · rw [if_pos hb]; simp [hb]
  · rw [if_neg hb]; simp [hb]
theorem selC_len (c : Cf) (k : Nat) : (selC c k).length ≤ k := by
  unfold selC
  rw [List.length_map]
  refine Nat.le_trans (List.length_filter_le _ _) ?_
  rw [List.length_take]; omega
theorem selC_all (c : Cf) : selC c c.cs.length = (c.cs.filter (betw c)).map Ch.id := by unfold selC; rw [List.take_length]
set_option maxRecDepth 1000000 in
set_option maxHeartbeats 4000000 in
theorem walk (x0 : CV) (c0 : Cf) (w : World) (w0 : RdCf w w.heap.size x0 c0 ∧ x0.kw ≤ 9223372036854775807 ∧ x0.kp ≤ 9223372036854775807 ∧ x0.kc ≤ 9223372036854775807 ∧ CfWf c0) :
    Calls Try.prog 6 #[.agg #[.slice x0.aw x0.nw x0.kw, .slice x0.ap x0.np x0.kp, .slice x0.ac x0.nc x0.kc]] w fun e w' => e = .returned (.bool true) ∧ Below w.heap.size w w' := by
  obtain ⟨r0, -, -, -, -⟩ := w0
  obtain ⟨wa, hwa, hb1, hx, hr⟩ := one_box w r0
  have HWA := Lib.hid hwa
  have B := Lib.hid hb1
  have X := Lib.hid hx
  have R := Lib.hid hr
  clear r0 hwa hb1 hx hr
  go_enter Try.func6, Try.ntmps6
  go_upto_region 1 with (fail)
  rw [HWA.out]
  clear HWA
  obtain ⟨p1, p2, p3⟩ := cf_cells X.out
  go_wp2_with fail
  refine (lGreat x0 c0 wa R.out).mono ?_
  rintro e wb ⟨rfl, hb⟩
  replace X := Lib.hid (X.out.to hb)
  replace R := Lib.hid (R.out.to hb)
  replace B := Lib.hid (B.out.trans (hb.mono B.out.size))
  clear hb p1 p2 p3
  cases hg : greatC c0
  rotate_left 1
  · skip
    go_wp2_with fail
    refine (lAwake13 _).mono ?_
    rintro e wz ⟨rfl, hb⟩
    have BZ := Lib.hid (B.out.trans (hb.mono B.out.size))
    clear hb
    go_wp2_with fail
    go_ret
    exact ⟨rfl, BZ.out⟩
  obtain ⟨hnw, hnp, hnc, -⟩ := bounds_of R.out hg
  have DA : Hid (Bd x0) := ⟨hnw, hnp, hnc⟩
  clear hg hnw hnp hnc
  obtain ⟨p1, p2, p3⟩ := cf_cells X.out
  go_wp2_with fail
  refine (wFitsV x0 c0 wb R.out DA.out.1 DA.out.2.1 DA.out.2.2).mono ?_
  rintro e wk ⟨rfl, hb⟩
  replace X := Lib.hid (X.out.to hb)
  replace R := Lib.hid (R.out.to hb)
  replace B := Lib.hid (B.out.trans (hb.mono B.out.size))
  clear hb p1 p2 p3
  cases hf : fitsV c0
  · skip
    go_wp2_with fail
    refine (lAwake13 _).mono ?_
    rintro e wz ⟨rfl, hb⟩
    have BZ := Lib.hid (B.out.trans (hb.mono B.out.size))
    clear hb
    go_wp2_with fail
    go_ret
    exact ⟨rfl, BZ.out⟩
  have VA := Lib.hid (val_of hf)
  clear hf
  have LP : Hid (c0.ps.length = x0.np) := R.out.pp.1
  have LC : Hid (c0.cs.length = x0.nc) := R.out.cc.1
  go_wp2_with fail
  go_loopw [3, 4, 6] (fun s3 s4 s6 wr => ∃ k : Nat, k ≤ x0.np ∧ s6 = .int .i64 (k : Int) ∧ wr.ownsRow wk.heap.size 3 1 s3 (selP c0 false k).length ((selP c0 false k).map iv) ∧ wr.ownsRow wk.heap.size 3 1 s4 (selP c0 true k).length ((selP c0 true k).map iv) ∧ (∀ b, s3.ownBlock = some b → s4.ownBlock ≠ some b) ∧ Below wk.heap.size wk wr) (fun _ _ s6 _ => x0.np - (intOf s6).toNat)
  case atStart => exact ⟨0, Nat.zero_le _, rfl, ⟨rfl, .inl ⟨rfl, rfl⟩⟩, ⟨rfl, .inl ⟨rfl, rfl⟩⟩, (fun b hb => by cases hb), Below.refl _ _⟩
  case round =>
    obtain ⟨k, hk, rfl, ho3, ho4, hap, hbel⟩ := hrel
    obtain ⟨A3, c3, rfl⟩ := own_slV ho3
    obtain ⟨A4, c4, rfl⟩ := own_slV ho4
    have O3 := Lib.hid ho3
    have O4 := Lib.hid ho4
    have AP := Lib.hid hap
    have BD := Lib.hid hbel
    have HK := Lib.hid hk
    clear ho3 ho4 hap hbel hk
    obtain ⟨gl3, hg3⟩ : ∃ n, (selP c0 false k).length = n := ⟨_, rfl⟩
    obtain ⟨gl4, hg4⟩ : ∃ n, (selP c0 true k).length = n := ⟨_, rfl⟩
    have HG3 : Hid (gl3 ≤ 1000) := by (show _ ≤ _); have := selP_len c0 false k; have := HK.out; have := DA.out.2.1; omega
    have HG4 : Hid (gl4 ≤ 1000) := by (show _ ≤ _); have := selP_len c0 true k; have := HK.out; have := DA.out.2.1; omega
    have HE3 := Lib.hid hg3
    have HE4 := Lib.hid hg4
    rw [hg3] at O3 AP ⊢
    rw [hg4] at O4 AP ⊢
    clear hg3 hg4
    obtain ⟨p1, p2, p3⟩ := cf_cells (X.out.to BD.out)
    by_cases hlt : k < x0.np
    · have hltI : (k : Int) < (x0.np : Int) := by omega
      have HLT := Lib.hid hlt
      have HKL : Hid (k < c0.ps.length) := by (show _ < _); rw [LP.out]; exact hlt
      have hwk : IntKind.i64.wrap ((k : Int) + 1) = (k : Int) + 1 := by have := DA.out.2.1; rw [IntKind.wrap_i64]; omega
      obtain ⟨bb, o, A', m, c', hA, y0, y1, y2, y3, y4, -⟩ := (R.out.to BD.out).pp.at_ hlt
      obtain ⟨id, hid⟩ : ∃ x, (ptAt c0.ps k).id = x := ⟨_, rfl⟩
      obtain ⟨kp, hkp⟩ : ∃ x, (ptAt c0.ps k).keep = x := ⟨_, rfl⟩
      have HID := Lib.hid hid
      have HKK := Lib.hid hkp
      rw [hid] at y0
      rw [hkp] at y3
      rw [hA] at p2
      clear hid hkp hA hlt y1 y2 y4
      cases kp
      · skip
        have HE : Hid (selP c0 true (k + 1) = selP c0 true k ++ [id]) := by (show _ = _); rw [selP_succ HKL.out, HID.out, if_pos (by rw [HKK.out]; rfl)]
        have HO : Hid (selP c0 false (k + 1) = selP c0 false k) := by (show _ = _); rw [selP_succ HKL.out, if_neg (by rw [HKK.out]; decide), List.append_nil]
        have hal := (Below.refl wr.heap.size wr).alloc (Nat.le_refl _) (.cells #[.int .i64 id] 3)
        have O7 := Lib.hid (own_bv O4.out hal)
        have OO := Lib.hid (own_bv O3.out hal)
        have N7 := Lib.hid (cells_newV wr 3 [.int .i64 id])
        have B8 := Lib.hid (BD.out.trans (hal.mono BD.out.size))
        have HB9 := Lib.hid B8.out.size
        clear hal
        go_wp2_with (at_builtin; refine wpList_pushV vtI rfl (.tmp 42) (.tmp 49) rfl rfl rfl O7.out (m := 1) (news := [.int .i64 id]) rfl (fun _ => ⟨_, rfl, N7.out⟩) (one_int _) HB9.out (by have := HG4.out; omega) ?_; intro v9 w9 hown9 hk9 hv9; obtain ⟨A9, c9, rfl⟩ := own_slV hown9; have B9 := Lib.hid (hk9.below B8.out HB9.out (fun k hk => (O7.out.lt k hk).1)); have O9 := Lib.hid hown9; have K9 := Lib.hid hk9; have V9 := Lib.hid hv9; clear hown9 hk9 hv9)
        have OP := Lib.hid (own_kv OO.out K9.out (fun b hb hh => AP.out b hb hh))
        have AP2 : Hid (∀ b, (Value.slice A3 gl3 c3).ownBlock = some b → (Value.slice A9 (gl4 + 1) c9).ownBlock ≠ some b) := fun b hb hh => by
          rcases V9.out b hh with h | h
          · exact AP.out b hb h
          · have := (OO.out.lt b hb).2; omega
        have OE : Hid (w9.ownsRow wk.heap.size 3 1 (.slice A9 (gl4 + 1) c9) (selP c0 true (k + 1)).length ((selP c0 true (k + 1)).map iv)) := by (show World.ownsRow _ _ _ _ _ _ _); rw [HE.out, List.length_append, List.map_append, HE4.out]; exact O9.out
        have OF : Hid (w9.ownsRow wk.heap.size 3 1 (.slice A3 gl3 c3) (selP c0 false (k + 1)).length ((selP c0 false (k + 1)).map iv)) := by (show World.ownsRow _ _ _ _ _ _ _); rw [HO.out, HE3.out]; exact OP.out
        go_roundw
        case rel => exact ⟨k + 1, HLT.out, by go_num, OF.out, OE.out, AP2.out, B9.out⟩
        case measure => simp [intOf]; omega
      · skip
        have HE : Hid (selP c0 false (k + 1) = selP c0 false k ++ [id]) := by (show _ = _); rw [selP_succ HKL.out, HID.out, if_pos (by rw [HKK.out]; rfl)]
        have HO : Hid (selP c0 true (k + 1) = selP c0 true k) := by (show _ = _); rw [selP_succ HKL.out, if_neg (by rw [HKK.out]; decide), List.append_nil]
        have hal := (Below.refl wr.heap.size wr).alloc (Nat.le_refl _) (.cells #[.int .i64 id] 3)
        have O7 := Lib.hid (own_bv O3.out hal)
        have OO := Lib.hid (own_bv O4.out hal)
        have N7 := Lib.hid (cells_newV wr 3 [.int .i64 id])
        have B8 := Lib.hid (BD.out.trans (hal.mono BD.out.size))
        have HB9 := Lib.hid B8.out.size
        clear hal
        go_wp2_with (at_builtin; refine wpList_pushV vtI rfl (.tmp 33) (.tmp 40) rfl rfl rfl O7.out (m := 1) (news := [.int .i64 id]) rfl (fun _ => ⟨_, rfl, N7.out⟩) (one_int _) HB9.out (by have := HG3.out; omega) ?_; intro v9 w9 hown9 hk9 hv9; obtain ⟨A9, c9, rfl⟩ := own_slV hown9; have B9 := Lib.hid (hk9.below B8.out HB9.out (fun k hk => (O7.out.lt k hk).1)); have O9 := Lib.hid hown9; have K9 := Lib.hid hk9; have V9 := Lib.hid hv9; clear hown9 hk9 hv9)
        have OP := Lib.hid (own_kv OO.out K9.out (fun b hb hh => AP.out b hh hb))
        have AP2 : Hid (∀ b, (Value.slice A9 (gl3 + 1) c9).ownBlock = some b → (Value.slice A4 gl4 c4).ownBlock ≠ some b) := fun b hb hh => by
          rcases V9.out b hb with h | h
          · exact AP.out b h hh
          · have := (OO.out.lt b hh).2; omega
        have OE : Hid (w9.ownsRow wk.heap.size 3 1 (.slice A9 (gl3 + 1) c9) (selP c0 false (k + 1)).length ((selP c0 false (k + 1)).map iv)) := by (show World.ownsRow _ _ _ _ _ _ _); rw [HE.out, List.length_append, List.map_append, HE3.out]; exact O9.out
        have OF : Hid (w9.ownsRow wk.heap.size 3 1 (.slice A4 gl4 c4) (selP c0 true (k + 1)).length ((selP c0 true (k + 1)).map iv)) := by (show World.ownsRow _ _ _ _ _ _ _); rw [HO.out, HE4.out]; exact OP.out
        go_roundw
        case rel => exact ⟨k + 1, HLT.out, by go_num, OE.out, OF.out, AP2.out, B9.out⟩
        case measure => simp [intOf]; omega
    · obtain rfl : k = x0.np := by have := HK.out; omega
      have HP : Hid (selP c0 false x0.np = partsC c0 c0 false) := by (show _ = _); rw [← LP.out, selP_all, VA.out.parts_self]
      have HL : Hid (selP c0 true x0.np = partsC c0 c0 true) := by (show _ = _); rw [← LP.out, selP_all, VA.out.parts_self]
      replace O3 : Hid (wr.ownsRow wk.heap.size 3 1 (.slice A3 gl3 c3) gl3 ((partsC c0 c0 false).map iv)) := by (show World.ownsRow _ _ _ _ _ _ _); rw [← HP.out]; exact O3.out
      replace O4 : Hid (wr.ownsRow wk.heap.size 3 1 (.slice A4 gl4 c4) gl4 ((partsC c0 c0 true).map iv)) := by (show World.ownsRow _ _ _ _ _ _ _); rw [← HL.out]; exact O4.out
      clear HP HL HE3 HE4 hlt AP
      go_wp2_with fail
      replace X := Lib.hid (X.out.to BD.out)
      replace R := Lib.hid (R.out.to BD.out)
      replace B := Lib.hid (B.out.trans (BD.out.mono B.out.size))
      clear BD p1 p2 p3
      obtain ⟨wL, hwL⟩ : ∃ x, x = wr := ⟨_, rfl⟩
      subst hwL
      go_loopw [5, 7, 8, 9, 10, 11] (fun s5 s7 _ _ _ _ wr => ∃ k : Nat, k ≤ x0.nc ∧ s7 = .int .i64 (k : Int) ∧ wr.ownsRow wL.heap.size 3 1 s5 (selC c0 k).length ((selC c0 k).map iv) ∧ Below wL.heap.size wL wr) (fun _ s7 _ _ _ _ _ => x0.nc - (intOf s7).toNat)
      case atStart => exact ⟨0, Nat.zero_le _, rfl, ⟨rfl, .inl ⟨rfl, rfl⟩⟩, Below.refl _ _⟩
      case round =>
        obtain ⟨k, hk, rfl, ho, hbel⟩ := hrel
        obtain ⟨A5, c5, rfl⟩ := own_slV ho
        have O5 := Lib.hid ho
        have BD := Lib.hid hbel
        have HK := Lib.hid hk
        clear ho hbel hk
        obtain ⟨gl, hgl⟩ : ∃ n, (selC c0 k).length = n := ⟨_, rfl⟩
        have HGL : Hid (gl ≤ 1000) := by (show _ ≤ _); have := selC_len c0 k; have := HK.out; have := DA.out.2.2; omega
        have HGE := Lib.hid hgl
        rw [hgl] at O5 ⊢
        clear hgl
        by_cases hlt : k < x0.nc
        · have HLT := Lib.hid hlt
          have HKL : Hid (k < c0.cs.length) := by (show _ < _); rw [LC.out]; exact hlt
          have hltI : (k : Int) < (x0.nc : Int) := by omega
          have hwk : IntKind.i64.wrap ((k : Int) + 1) = (k : Int) + 1 := by have := DA.out.2.2; rw [IntKind.wrap_i64]; omega
          obtain ⟨bb, o, hA, y0, y1, y2, y3, y4⟩ := R.out.cc.at_ hlt
          obtain ⟨id, hid⟩ : ∃ x, (chAt c0.cs k).id = x := ⟨_, rfl⟩
          obtain ⟨fr, hfr⟩ : ∃ x, (chAt c0.cs k).fr = x := ⟨_, rfl⟩
          obtain ⟨ds, hds⟩ : ∃ x, (chAt c0.cs k).dst = x := ⟨_, rfl⟩
          have HID := Lib.hid hid
          rw [hid] at y0
          rw [hfr] at y1
          rw [hds] at y2
          have C0 := Lib.hid y0
          have C1 := Lib.hid y1
          have C2 := Lib.hid y2
          have HBB : Hid (bb < wL.heap.size) := cell_block y0
          have HA := Lib.hid hA
          have H1 : Hid (hasP c0 fr = true) := by (show _ = _); rw [← hfr]; exact (VA.out.chs k HKL.out).1
          have H2 : Hid (hasP c0 ds = true) := by (show _ = _); rw [← hds]; exact (VA.out.chs k HKL.out).2
          have HBW : Hid (betw c0 (chAt c0.cs k) = ((ptI c0 fr).keep && (ptI c0 ds).keep)) := by (show _ = _); unfold betw; rw [hfr, hds]
          clear hid hfr hds hA y0 y1 y2 y3 y4 hlt
          obtain ⟨p1, p2, p3⟩ := cf_cells (X.out.to BD.out)
          rw [HA.out] at p3
          go_wp2_with fail
          clear p1 p2 p3
          go_upto_region 13 with (fail)
          go_cut [8, 9] from 58 to 68 (fun s t wx => PtC c0 fr wr s t wx)
          case first =>
            obtain ⟨wd, hwd⟩ : ∃ wd, wr.drew = wd := ⟨_, rfl⟩
            have BR : Hid (Below wr.heap.size wr wd) := by (show Below _ _ _); rw [← hwd]; exact (Below.refl _ wr).drew
            refine wp_region_held_drew (S := (fun w' => Below wL.heap.size wL w')) (by kernel_rfl) (BD.out.drew) (fun hHeld => ?_)
            rw [hwd] at hHeld ⊢
            clear hwd
            have BS := Lib.hid hHeld
            refine wpAnyH_takeD (i := 0) (d := 59) (v := ?_) rfl rfl (by kernel_rfl) (by kernel_rfl) (by kernel_rfl) (fun _ _ _ h => h) (Or.inl ⟨by rfl, ?_⟩) (by assumption) ?_
            rotate_left 1
            · intro w hSw; (try dsimp only at hSw); have t := cf_cells (X.out.to hSw); obtain ⟨t1, t2, t3⟩ := t; go_simp; (try with_reducible rfl)
            simp only [List.setIfInBounds_toArray, List.set_cons_zero, List.set_cons_succ]
            refine wpAnyH_takeD (i := 1) (d := 60) (v := ?_) rfl rfl (by kernel_rfl) (by kernel_rfl) (by kernel_rfl) (fun _ _ _ h => h) (Or.inl ⟨by rfl, ?_⟩) (by assumption) ?_
            rotate_left 1
            · intro w hSw; (try dsimp only at hSw); go_simp; (try with_reducible rfl)
            simp only [List.setIfInBounds_toArray, List.set_cons_zero, List.set_cons_succ]
            refine wpAnyH_takeD (i := 2) (d := 61) (v := ?_) rfl rfl (by kernel_rfl) (by kernel_rfl) (by kernel_rfl) (fun _ _ _ h => h) (Or.inl ⟨by rfl, ?_⟩) (by assumption) ?_
            rotate_left 1
            · intro w hSw; (try dsimp only at hSw); have t := cf_cells (X.out.to hSw); obtain ⟨t1, t2, t3⟩ := t; rw [HA.out] at t3; go_simp; (try with_reducible rfl)
            simp only [List.setIfInBounds_toArray, List.set_cons_zero, List.set_cons_succ]
            refine wpAnyH_takeD (i := 3) (d := 62) (v := ?_) rfl rfl (by kernel_rfl) (by kernel_rfl) (by kernel_rfl) (fun _ _ _ h => h) (Or.inl ⟨by rfl, ?_⟩) (by assumption) ?_
            rotate_left 1
            · intro w hSw; (try dsimp only at hSw); go_simp; (try with_reducible rfl)
            simp only [List.setIfInBounds_toArray, List.set_cons_zero, List.set_cons_succ]
            refine wpAnyH_takeD (i := 4) (d := 63) (v := ?_) rfl rfl (by kernel_rfl) (by kernel_rfl) (by kernel_rfl) (fun _ _ _ h => h) (Or.inl ⟨by rfl, ?_⟩) (by assumption) ?_
            rotate_left 1
            · intro w hSw; (try dsimp only at hSw); go_simp; (try with_reducible rfl)
            simp only [List.setIfInBounds_toArray, List.set_cons_zero, List.set_cons_succ]
            refine wpAnyH_takeD (i := 5) (d := 64) (v := ?_) rfl rfl (by kernel_rfl) (by kernel_rfl) (by kernel_rfl) (fun _ _ _ h => h) (Or.inl ⟨by rfl, ?_⟩) (by assumption) ?_
            rotate_left 1
            · intro w hSw; (try dsimp only at hSw); go_simp; (try with_reducible rfl)
            simp only [List.setIfInBounds_toArray, List.set_cons_zero, List.set_cons_succ]
            refine wpAnyH_takeD (i := 6) (d := 65) (v := ?_) rfl rfl (by kernel_rfl) (by kernel_rfl) (by kernel_rfl) (fun _ _ _ h => h) (Or.inl ⟨by rfl, ?_⟩) (by assumption) ?_
            rotate_left 1
            · intro w hSw; (try dsimp only at hSw); have t1 := (hSw.cell (p := ⟨bb, o + k * 5 + 1, none⟩) HBB.out).trans C1.out; go_simp; (try with_reducible rfl)
            simp only [List.setIfInBounds_toArray, List.set_cons_zero, List.set_cons_succ]
            refine wpAnyH_ready (rs := [7, 11]) (by kernel_rfl) (by simp) ?_
            refine AllReadyH.cons rfl (fun K hK => ?_) (AllReadyH.cons rfl (fun K hK => ?_) AllReadyH.nil)
            · skip
              go_simp
              refine (wPart x0 c0 fr wd (R.out.to BS.out) DA.out.2.1).mono ?_
              rintro e we ⟨A8, m8, k8, rfl, ho, hm1, hm2, hb⟩
              dsimp only
              replace BR := Lib.hid (BR.out.trans (hb.mono BR.out.size))
              replace BS := Lib.hid (BS.out.trans (hb.mono BS.out.size))
              clear ho hm1 hm2 hb hHeld
              go_wp2_with fail
              refine hK.out _ _ (BS.out) (fun hHeld => ?_)
              clear hK K
              refine wpAnyH_takeD (i := 8) (d := 58) (v := ?_) rfl rfl (by kernel_rfl) (by kernel_rfl) (by kernel_rfl) (fun _ _ _ h => h) (Or.inl ⟨by rfl, ?_⟩) (by assumption) ?_
              rotate_left 1
              · intro w hSw; (try dsimp only at hSw); go_simp; (try with_reducible rfl)
              simp only [List.setIfInBounds_toArray, List.set_cons_zero, List.set_cons_succ]
              refine wpAnyH_takeD (i := 9) (d := 67) (v := ?_) rfl rfl (by kernel_rfl) (by kernel_rfl) (by kernel_rfl) (fun _ _ _ h => h) (Or.inl ⟨by rfl, ?_⟩) (by assumption) ?_
              rotate_left 1
              · intro w hSw; (try dsimp only at hSw); go_simp; (try with_reducible rfl)
              simp only [List.setIfInBounds_toArray, List.set_cons_zero, List.set_cons_succ]
              refine wpAnyH_takeD (i := 10) (d := 68) (v := ?_) rfl rfl (by kernel_rfl) (by kernel_rfl) (by kernel_rfl) (fun _ _ _ h => h) (Or.inl ⟨by rfl, ?_⟩) (by assumption) ?_
              rotate_left 1
              · intro w hSw; (try dsimp only at hSw); go_simp; (try with_reducible rfl)
              simp only [List.setIfInBounds_toArray, List.set_cons_zero, List.set_cons_succ]
              refine wpAnyH_ready (rs := [11]) (by kernel_rfl) (by simp) ?_
              refine AllReadyH.cons rfl (fun K hK => ?_) AllReadyH.nil
              go_simp
              refine hK.out _ _ ((BS.out.alloc BS.out.size (.cells #[.int .i64 0, .int .i64 0, .int .i64 0, .bool false, .slice none 0 0] 43))) (fun hHeld => ?_)
              clear hK K
              have hal := (Below.refl we.heap.size we).alloc (Nat.le_refl _) (.cells #[.int .i64 0, .int .i64 0, .int .i64 0, .bool false, .slice none 0 0] 43)
              have ZB := Lib.hid (Bx.new we 43 [.int .i64 0, .int .i64 0, .int .i64 0, .bool false, .slice none 0 0])
              have hs1 := BR.out.size
              have hs2 := BS.out.size
              replace BR := Lib.hid (BR.out.trans (hal.mono BR.out.size))
              replace BS := Lib.hid (BS.out.trans (hal.mono BS.out.size))
              clear hal
              generalize hgg : we.heap.size = gg at *
              have HGG := Lib.hid hs2
              have HGR := Lib.hid hs1
              replace hgg := Lib.hid hgg
              clear hs1 hs2
              generalize we.alloc (.cells #[.int .i64 0, .int .i64 0, .int .i64 0, .bool false, .slice none 0 0] 43) = wf at *
              have a0 := ZB.out.at (j := 0) rfl
              have a1 := ZB.out.at (j := 1) rfl
              have a2 := ZB.out.at (j := 2) rfl
              have a3 := ZB.out.at (j := 3) rfl
              have a4 := ZB.out.at (j := 4) rfl
              have f0 := ZB.out.fz 0
              have f1 := ZB.out.fz 1
              have f2 := ZB.out.fz 2
              have f3 := ZB.out.fz 3
              have f4 := ZB.out.fz 4
              refine wpAnyH_ready (rs := [12]) (by kernel_rfl) (by simp) ?_
              refine AllReadyH.cons rfl (fun K hK => ?_) AllReadyH.nil
              go_simp
              refine hK.out _ _ ((below_sets HGG.out [.int .i64 (partV c0 fr).id, .int .i64 (partV c0 fr).base, .int .i64 (partV c0 fr).size, .bool (partV c0 fr).keep, .slice A8 m8 k8] 0 BS.out)) (fun hHeld => ?_)
              clear hK K
              have P9 := Lib.hid (ZB.out.sets [.int .i64 (partV c0 fr).id, .int .i64 (partV c0 fr).base, .int .i64 (partV c0 fr).size, .bool (partV c0 fr).keep, .slice A8 m8 k8] rfl)
              have BR9 := Lib.hid (below_sets HGR.out [.int .i64 (partV c0 fr).id, .int .i64 (partV c0 fr).base, .int .i64 (partV c0 fr).size, .bool (partV c0 fr).keep, .slice A8 m8 k8] 0 BR.out)
              clear a0 a1 a2 a3 a4 f0 f1 f2 f3 f4
              refine wpAnyH_takeD (i := 13) (d := 9) (v := ?_) rfl rfl (by kernel_rfl) (by kernel_rfl) (by kernel_rfl) (fun _ _ _ h => h) (Or.inl ⟨by rfl, ?_⟩) (by assumption) ?_
              rotate_left 1
              · intro w hSw; (try dsimp only at hSw); go_simp; (try with_reducible rfl)
              simp only [List.setIfInBounds_toArray, List.set_cons_zero, List.set_cons_succ]
              refine wpAnyH_done (by kernel_rfl) ?_ _
              clear hHeld
              go_wp2_with fail
              go_meet
              exact ⟨gg, m8, k8, A8, rfl, rfl, P9.out, BR9.out⟩
            · skip
              go_simp
              refine hK.out _ _ ((BS.out.alloc BS.out.size (.cells #[.int .i64 0, .int .i64 0, .int .i64 0, .bool false, .slice none 0 0] 43))) (fun hHeld => ?_)
              clear hK K
              have hal := (Below.refl wd.heap.size wd).alloc (Nat.le_refl _) (.cells #[.int .i64 0, .int .i64 0, .int .i64 0, .bool false, .slice none 0 0] 43)
              have ZB := Lib.hid (Bx.new wd 43 [.int .i64 0, .int .i64 0, .int .i64 0, .bool false, .slice none 0 0])
              have hs1 := BR.out.size
              have hs2 := BS.out.size
              replace BR := Lib.hid (BR.out.trans (hal.mono BR.out.size))
              replace BS := Lib.hid (BS.out.trans (hal.mono BS.out.size))
              clear hal
              generalize hgg : wd.heap.size = gg at *
              have HGG := Lib.hid hs2
              have HGR := Lib.hid hs1
              replace hgg := Lib.hid hgg
              clear hs1 hs2
              generalize wd.alloc (.cells #[.int .i64 0, .int .i64 0, .int .i64 0, .bool false, .slice none 0 0] 43) = we at *
              refine wpAnyH_ready (rs := [7]) (by kernel_rfl) (by simp) ?_
              refine AllReadyH.cons rfl (fun K hK => ?_) AllReadyH.nil
              go_simp
              refine (wPart x0 c0 fr we (R.out.to BS.out) DA.out.2.1).mono ?_
              rintro e wf ⟨A8, m8, k8, rfl, ho, hm1, hm2, hb⟩
              dsimp only
              replace ZB := Lib.hid (ZB.out.to hb)
              replace BR := Lib.hid (BR.out.trans (hb.mono BR.out.size))
              replace BS := Lib.hid (BS.out.trans (hb.mono BS.out.size))
              clear ho hm1 hm2 hb hHeld
              go_wp2_with fail
              refine hK.out _ _ (BS.out) (fun hHeld => ?_)
              clear hK K
              refine wpAnyH_takeD (i := 8) (d := 58) (v := ?_) rfl rfl (by kernel_rfl) (by kernel_rfl) (by kernel_rfl) (fun _ _ _ h => h) (Or.inl ⟨by rfl, ?_⟩) (by assumption) ?_
              rotate_left 1
              · intro w hSw; (try dsimp only at hSw); go_simp; (try with_reducible rfl)
              simp only [List.setIfInBounds_toArray, List.set_cons_zero, List.set_cons_succ]
              refine wpAnyH_takeD (i := 9) (d := 67) (v := ?_) rfl rfl (by kernel_rfl) (by kernel_rfl) (by kernel_rfl) (fun _ _ _ h => h) (Or.inl ⟨by rfl, ?_⟩) (by assumption) ?_
              rotate_left 1
              · intro w hSw; (try dsimp only at hSw); go_simp; (try with_reducible rfl)
              simp only [List.setIfInBounds_toArray, List.set_cons_zero, List.set_cons_succ]
              refine wpAnyH_takeD (i := 10) (d := 68) (v := ?_) rfl rfl (by kernel_rfl) (by kernel_rfl) (by kernel_rfl) (fun _ _ _ h => h) (Or.inl ⟨by rfl, ?_⟩) (by assumption) ?_
              rotate_left 1
              · intro w hSw; (try dsimp only at hSw); go_simp; (try with_reducible rfl)
              simp only [List.setIfInBounds_toArray, List.set_cons_zero, List.set_cons_succ]
              have a0 := ZB.out.at (j := 0) rfl
              have a1 := ZB.out.at (j := 1) rfl
              have a2 := ZB.out.at (j := 2) rfl
              have a3 := ZB.out.at (j := 3) rfl
              have a4 := ZB.out.at (j := 4) rfl
              have f0 := ZB.out.fz 0
              have f1 := ZB.out.fz 1
              have f2 := ZB.out.fz 2
              have f3 := ZB.out.fz 3
              have f4 := ZB.out.fz 4
              refine wpAnyH_ready (rs := [12]) (by kernel_rfl) (by simp) ?_
              refine AllReadyH.cons rfl (fun K hK => ?_) AllReadyH.nil
              go_simp
              refine hK.out _ _ ((below_sets HGG.out [.int .i64 (partV c0 fr).id, .int .i64 (partV c0 fr).base, .int .i64 (partV c0 fr).size, .bool (partV c0 fr).keep, .slice A8 m8 k8] 0 BS.out)) (fun hHeld => ?_)
              clear hK K
              have P9 := Lib.hid (ZB.out.sets [.int .i64 (partV c0 fr).id, .int .i64 (partV c0 fr).base, .int .i64 (partV c0 fr).size, .bool (partV c0 fr).keep, .slice A8 m8 k8] rfl)
              have BR9 := Lib.hid (below_sets HGR.out [.int .i64 (partV c0 fr).id, .int .i64 (partV c0 fr).base, .int .i64 (partV c0 fr).size, .bool (partV c0 fr).keep, .slice A8 m8 k8] 0 BR.out)
              clear a0 a1 a2 a3 a4 f0 f1 f2 f3 f4
              refine wpAnyH_takeD (i := 13) (d := 9) (v := ?_) rfl rfl (by kernel_rfl) (by kernel_rfl) (by kernel_rfl) (fun _ _ _ h => h) (Or.inl ⟨by rfl, ?_⟩) (by assumption) ?_
              rotate_left 1
              · intro w hSw; (try dsimp only at hSw); go_simp; (try with_reducible rfl)
              simp only [List.setIfInBounds_toArray, List.set_cons_zero, List.set_cons_succ]
              refine wpAnyH_done (by kernel_rfl) ?_ _
              clear hHeld
              go_wp2_with fail
              go_meet
              exact ⟨gg, m8, k8, A8, rfl, rfl, P9.out, BR9.out⟩
          case rest =>
          obtain ⟨g5, m5, k5, A5q, rfl, rfl, hx5, hb⟩ := hcut
          replace O5 := Lib.hid (own_bv O5.out hb)
          replace BD := Lib.hid (BD.out.trans (hb.mono BD.out.size))
          rw [partV_I H1.out] at hx5
          have P5 := Lib.hid hx5
          clear hx5 hb
          obtain ⟨ws, hws⟩ : ∃ x, x = wc := ⟨_, rfl⟩
          subst hws
          go_upto_region 14 with (fail)
          go_cut [10, 11] from 69 to 79 (fun s t wx => PtC c0 ds ws s t wx)
          case first =>
            obtain ⟨wd, hwd⟩ : ∃ wd, ws.drew = wd := ⟨_, rfl⟩
            have BR : Hid (Below ws.heap.size ws wd) := by (show Below _ _ _); rw [← hwd]; exact (Below.refl _ ws).drew
            refine wp_region_held_drew (S := (fun w' => Below wL.heap.size wL w')) (by kernel_rfl) (BD.out.drew) (fun hHeld => ?_)
            rw [hwd] at hHeld ⊢
            clear hwd
            have BS := Lib.hid hHeld
            refine wpAnyH_takeD (i := 0) (d := 70) (v := ?_) rfl rfl (by kernel_rfl) (by kernel_rfl) (by kernel_rfl) (fun _ _ _ h => h) (Or.inl ⟨by rfl, ?_⟩) (by assumption) ?_
            rotate_left 1
            · intro w hSw; (try dsimp only at hSw); have t := cf_cells (X.out.to hSw); obtain ⟨t1, t2, t3⟩ := t; go_simp; (try with_reducible rfl)
            simp only [List.setIfInBounds_toArray, List.set_cons_zero, List.set_cons_succ]
            refine wpAnyH_takeD (i := 1) (d := 71) (v := ?_) rfl rfl (by kernel_rfl) (by kernel_rfl) (by kernel_rfl) (fun _ _ _ h => h) (Or.inl ⟨by rfl, ?_⟩) (by assumption) ?_
            rotate_left 1
            · intro w hSw; (try dsimp only at hSw); go_simp; (try with_reducible rfl)
            simp only [List.setIfInBounds_toArray, List.set_cons_zero, List.set_cons_succ]
            refine wpAnyH_takeD (i := 2) (d := 72) (v := ?_) rfl rfl (by kernel_rfl) (by kernel_rfl) (by kernel_rfl) (fun _ _ _ h => h) (Or.inl ⟨by rfl, ?_⟩) (by assumption) ?_
            rotate_left 1
            · intro w hSw; (try dsimp only at hSw); have t := cf_cells (X.out.to hSw); obtain ⟨t1, t2, t3⟩ := t; rw [HA.out] at t3; go_simp; (try with_reducible rfl)
            simp only [List.setIfInBounds_toArray, List.set_cons_zero, List.set_cons_succ]
            refine wpAnyH_takeD (i := 3) (d := 73) (v := ?_) rfl rfl (by kernel_rfl) (by kernel_rfl) (by kernel_rfl) (fun _ _ _ h => h) (Or.inl ⟨by rfl, ?_⟩) (by assumption) ?_
            rotate_left 1
            · intro w hSw; (try dsimp only at hSw); go_simp; (try with_reducible rfl)
            simp only [List.setIfInBounds_toArray, List.set_cons_zero, List.set_cons_succ]
            refine wpAnyH_takeD (i := 4) (d := 74) (v := ?_) rfl rfl (by kernel_rfl) (by kernel_rfl) (by kernel_rfl) (fun _ _ _ h => h) (Or.inl ⟨by rfl, ?_⟩) (by assumption) ?_
            rotate_left 1
            · intro w hSw; (try dsimp only at hSw); go_simp; (try with_reducible rfl)
            simp only [List.setIfInBounds_toArray, List.set_cons_zero, List.set_cons_succ]
            refine wpAnyH_takeD (i := 5) (d := 75) (v := ?_) rfl rfl (by kernel_rfl) (by kernel_rfl) (by kernel_rfl) (fun _ _ _ h => h) (Or.inl ⟨by rfl, ?_⟩) (by assumption) ?_
            rotate_left 1
            · intro w hSw; (try dsimp only at hSw); go_simp; (try with_reducible rfl)
            simp only [List.setIfInBounds_toArray, List.set_cons_zero, List.set_cons_succ]
            refine wpAnyH_takeD (i := 6) (d := 76) (v := ?_) rfl rfl (by kernel_rfl) (by kernel_rfl) (by kernel_rfl) (fun _ _ _ h => h) (Or.inl ⟨by rfl, ?_⟩) (by assumption) ?_
            rotate_left 1
            · intro w hSw; (try dsimp only at hSw); have t1 := (hSw.cell (p := ⟨bb, o + k * 5 + 2, none⟩) HBB.out).trans C2.out; go_simp; (try with_reducible rfl)
            simp only [List.setIfInBounds_toArray, List.set_cons_zero, List.set_cons_succ]
            refine wpAnyH_ready (rs := [7, 11]) (by kernel_rfl) (by simp) ?_
            refine AllReadyH.cons rfl (fun K hK => ?_) (AllReadyH.cons rfl (fun K hK => ?_) AllReadyH.nil)
            · skip
              go_simp
              refine (wPart x0 c0 ds wd (R.out.to BS.out) DA.out.2.1).mono ?_
              rintro e we ⟨A8, m8, k8, rfl, ho, hm1, hm2, hb⟩
              dsimp only
              replace BR := Lib.hid (BR.out.trans (hb.mono BR.out.size))
              replace BS := Lib.hid (BS.out.trans (hb.mono BS.out.size))
              clear ho hm1 hm2 hb hHeld
              go_wp2_with fail
              refine hK.out _ _ (BS.out) (fun hHeld => ?_)
              clear hK K
              refine wpAnyH_takeD (i := 8) (d := 69) (v := ?_) rfl rfl (by kernel_rfl) (by kernel_rfl) (by kernel_rfl) (fun _ _ _ h => h) (Or.inl ⟨by rfl, ?_⟩) (by assumption) ?_
              rotate_left 1
              · intro w hSw; (try dsimp only at hSw); go_simp; (try with_reducible rfl)
              simp only [List.setIfInBounds_toArray, List.set_cons_zero, List.set_cons_succ]
              refine wpAnyH_takeD (i := 9) (d := 78) (v := ?_) rfl rfl (by kernel_rfl) (by kernel_rfl) (by kernel_rfl) (fun _ _ _ h => h) (Or.inl ⟨by rfl, ?_⟩) (by assumption) ?_
              rotate_left 1
              · intro w hSw; (try dsimp only at hSw); go_simp; (try with_reducible rfl)
              simp only [List.setIfInBounds_toArray, List.set_cons_zero, List.set_cons_succ]
              refine wpAnyH_takeD (i := 10) (d := 79) (v := ?_) rfl rfl (by kernel_rfl) (by kernel_rfl) (by kernel_rfl) (fun _ _ _ h => h) (Or.inl ⟨by rfl, ?_⟩) (by assumption) ?_
              rotate_left 1
              · intro w hSw; (try dsimp only at hSw); go_simp; (try with_reducible rfl)
              simp only [List.setIfInBounds_toArray, List.set_cons_zero, List.set_cons_succ]
              refine wpAnyH_ready (rs := [11]) (by kernel_rfl) (by simp) ?_
              refine AllReadyH.cons rfl (fun K hK => ?_) AllReadyH.nil
              go_simp
              refine hK.out _ _ ((BS.out.alloc BS.out.size (.cells #[.int .i64 0, .int .i64 0, .int .i64 0, .bool false, .slice none 0 0] 43))) (fun hHeld => ?_)
              clear hK K
              have hal := (Below.refl we.heap.size we).alloc (Nat.le_refl _) (.cells #[.int .i64 0, .int .i64 0, .int .i64 0, .bool false, .slice none 0 0] 43)
              have ZB := Lib.hid (Bx.new we 43 [.int .i64 0, .int .i64 0, .int .i64 0, .bool false, .slice none 0 0])
              have hs1 := BR.out.size
              have hs2 := BS.out.size
              replace BR := Lib.hid (BR.out.trans (hal.mono BR.out.size))
              replace BS := Lib.hid (BS.out.trans (hal.mono BS.out.size))
              clear hal
              generalize hgg : we.heap.size = gg at *
              have HGG := Lib.hid hs2
              have HGR := Lib.hid hs1
              replace hgg := Lib.hid hgg
              clear hs1 hs2
              generalize we.alloc (.cells #[.int .i64 0, .int .i64 0, .int .i64 0, .bool false, .slice none 0 0] 43) = wf at *
              have a0 := ZB.out.at (j := 0) rfl
              have a1 := ZB.out.at (j := 1) rfl
              have a2 := ZB.out.at (j := 2) rfl
              have a3 := ZB.out.at (j := 3) rfl
              have a4 := ZB.out.at (j := 4) rfl
              have f0 := ZB.out.fz 0
              have f1 := ZB.out.fz 1
              have f2 := ZB.out.fz 2
              have f3 := ZB.out.fz 3
              have f4 := ZB.out.fz 4
              refine wpAnyH_ready (rs := [12]) (by kernel_rfl) (by simp) ?_
              refine AllReadyH.cons rfl (fun K hK => ?_) AllReadyH.nil
              go_simp
              refine hK.out _ _ ((below_sets HGG.out [.int .i64 (partV c0 ds).id, .int .i64 (partV c0 ds).base, .int .i64 (partV c0 ds).size, .bool (partV c0 ds).keep, .slice A8 m8 k8] 0 BS.out)) (fun hHeld => ?_)
              clear hK K
              have P9 := Lib.hid (ZB.out.sets [.int .i64 (partV c0 ds).id, .int .i64 (partV c0 ds).base, .int .i64 (partV c0 ds).size, .bool (partV c0 ds).keep, .slice A8 m8 k8] rfl)
              have BR9 := Lib.hid (below_sets HGR.out [.int .i64 (partV c0 ds).id, .int .i64 (partV c0 ds).base, .int .i64 (partV c0 ds).size, .bool (partV c0 ds).keep, .slice A8 m8 k8] 0 BR.out)
              clear a0 a1 a2 a3 a4 f0 f1 f2 f3 f4
              refine wpAnyH_takeD (i := 13) (d := 11) (v := ?_) rfl rfl (by kernel_rfl) (by kernel_rfl) (by kernel_rfl) (fun _ _ _ h => h) (Or.inl ⟨by rfl, ?_⟩) (by assumption) ?_
              rotate_left 1
              · intro w hSw; (try dsimp only at hSw); go_simp; (try with_reducible rfl)
              simp only [List.setIfInBounds_toArray, List.set_cons_zero, List.set_cons_succ]
              refine wpAnyH_done (by kernel_rfl) ?_ _
              clear hHeld
              go_wp2_with fail
              go_meet
              exact ⟨gg, m8, k8, A8, rfl, rfl, P9.out, BR9.out⟩
            · skip
              go_simp
              refine hK.out _ _ ((BS.out.alloc BS.out.size (.cells #[.int .i64 0, .int .i64 0, .int .i64 0, .bool false, .slice none 0 0] 43))) (fun hHeld => ?_)
              clear hK K
              have hal := (Below.refl wd.heap.size wd).alloc (Nat.le_refl _) (.cells #[.int .i64 0, .int .i64 0, .int .i64 0, .bool false, .slice none 0 0] 43)
              have ZB := Lib.hid (Bx.new wd 43 [.int .i64 0, .int .i64 0, .int .i64 0, .bool false, .slice none 0 0])
              have hs1 := BR.out.size
              have hs2 := BS.out.size
              replace BR := Lib.hid (BR.out.trans (hal.mono BR.out.size))
              replace BS := Lib.hid (BS.out.trans (hal.mono BS.out.size))
              clear hal
              generalize hgg : wd.heap.size = gg at *
              have HGG := Lib.hid hs2
              have HGR := Lib.hid hs1
              replace hgg := Lib.hid hgg
              clear hs1 hs2
              generalize wd.alloc (.cells #[.int .i64 0, .int .i64 0, .int .i64 0, .bool false, .slice none 0 0] 43) = we at *
              refine wpAnyH_ready (rs := [7]) (by kernel_rfl) (by simp) ?_
              refine AllReadyH.cons rfl (fun K hK => ?_) AllReadyH.nil
              go_simp
              refine (wPart x0 c0 ds we (R.out.to BS.out) DA.out.2.1).mono ?_
              rintro e wf ⟨A8, m8, k8, rfl, ho, hm1, hm2, hb⟩
              dsimp only
              replace ZB := Lib.hid (ZB.out.to hb)
              replace BR := Lib.hid (BR.out.trans (hb.mono BR.out.size))
              replace BS := Lib.hid (BS.out.trans (hb.mono BS.out.size))
              clear ho hm1 hm2 hb hHeld
              go_wp2_with fail
              refine hK.out _ _ (BS.out) (fun hHeld => ?_)
              clear hK K
              refine wpAnyH_takeD (i := 8) (d := 69) (v := ?_) rfl rfl (by kernel_rfl) (by kernel_rfl) (by kernel_rfl) (fun _ _ _ h => h) (Or.inl ⟨by rfl, ?_⟩) (by assumption) ?_
              rotate_left 1
              · intro w hSw; (try dsimp only at hSw); go_simp; (try with_reducible rfl)
              simp only [List.setIfInBounds_toArray, List.set_cons_zero, List.set_cons_succ]
              refine wpAnyH_takeD (i := 9) (d := 78) (v := ?_) rfl rfl (by kernel_rfl) (by kernel_rfl) (by kernel_rfl) (fun _ _ _ h => h) (Or.inl ⟨by rfl, ?_⟩) (by assumption) ?_
              rotate_left 1
              · intro w hSw; (try dsimp only at hSw); go_simp; (try with_reducible rfl)
              simp only [List.setIfInBounds_toArray, List.set_cons_zero, List.set_cons_succ]
              refine wpAnyH_takeD (i := 10) (d := 79) (v := ?_) rfl rfl (by kernel_rfl) (by kernel_rfl) (by kernel_rfl) (fun _ _ _ h => h) (Or.inl ⟨by rfl, ?_⟩) (by assumption) ?_
              rotate_left 1
              · intro w hSw; (try dsimp only at hSw); go_simp; (try with_reducible rfl)
              simp only [List.setIfInBounds_toArray, List.set_cons_zero, List.set_cons_succ]
              have a0 := ZB.out.at (j := 0) rfl
              have a1 := ZB.out.at (j := 1) rfl
              have a2 := ZB.out.at (j := 2) rfl
              have a3 := ZB.out.at (j := 3) rfl
              have a4 := ZB.out.at (j := 4) rfl
              have f0 := ZB.out.fz 0
              have f1 := ZB.out.fz 1
              have f2 := ZB.out.fz 2
              have f3 := ZB.out.fz 3
              have f4 := ZB.out.fz 4
              refine wpAnyH_ready (rs := [12]) (by kernel_rfl) (by simp) ?_
              refine AllReadyH.cons rfl (fun K hK => ?_) AllReadyH.nil
              go_simp
              refine hK.out _ _ ((below_sets HGG.out [.int .i64 (partV c0 ds).id, .int .i64 (partV c0 ds).base, .int .i64 (partV c0 ds).size, .bool (partV c0 ds).keep, .slice A8 m8 k8] 0 BS.out)) (fun hHeld => ?_)
              clear hK K
              have P9 := Lib.hid (ZB.out.sets [.int .i64 (partV c0 ds).id, .int .i64 (partV c0 ds).base, .int .i64 (partV c0 ds).size, .bool (partV c0 ds).keep, .slice A8 m8 k8] rfl)
              have BR9 := Lib.hid (below_sets HGR.out [.int .i64 (partV c0 ds).id, .int .i64 (partV c0 ds).base, .int .i64 (partV c0 ds).size, .bool (partV c0 ds).keep, .slice A8 m8 k8] 0 BR.out)
              clear a0 a1 a2 a3 a4 f0 f1 f2 f3 f4
              refine wpAnyH_takeD (i := 13) (d := 11) (v := ?_) rfl rfl (by kernel_rfl) (by kernel_rfl) (by kernel_rfl) (fun _ _ _ h => h) (Or.inl ⟨by rfl, ?_⟩) (by assumption) ?_
              rotate_left 1
              · intro w hSw; (try dsimp only at hSw); go_simp; (try with_reducible rfl)
              simp only [List.setIfInBounds_toArray, List.set_cons_zero, List.set_cons_succ]
              refine wpAnyH_done (by kernel_rfl) ?_ _
              clear hHeld
              go_wp2_with fail
              go_meet
              exact ⟨gg, m8, k8, A8, rfl, rfl, P9.out, BR9.out⟩
          case rest =>
          obtain ⟨g5, m5, k5, A5q, rfl, rfl, hx5, hb⟩ := hcut
          replace O5 := Lib.hid (own_bv O5.out hb)
          replace BD := Lib.hid (BD.out.trans (hb.mono BD.out.size))
          replace P5 := Lib.hid (P5.out.to hb)
          rw [partV_I H2.out] at hx5
          have P6 := Lib.hid hx5
          clear hx5 hb
          obtain ⟨wt, hwt⟩ : ∃ x, x = wc := ⟨_, rfl⟩
          subst hwt
          obtain ⟨k1, hk1⟩ : ∃ x, (ptI c0 fr).keep = x := ⟨_, rfl⟩
          obtain ⟨k2, hk2⟩ : ∃ x, (ptI c0 ds).keep = x := ⟨_, rfl⟩
          have z1 := P5.out.at (j := 3) rfl
          have z2 := P6.out.at (j := 3) rfl
          rw [hk1, hk2] at HBW
          rw [hk1] at z1
          rw [hk2] at z2
          clear hk1 hk2
          cases k1
          · skip
            have HOE : Hid (selC c0 (k + 1) = selC c0 k) := by (show _ = _); rw [selC_succ HKL.out, if_neg (by rw [HBW.out]; simp), List.append_nil]
            go_wp2_with fail
            go_roundw
            case rel => exact ⟨k + 1, HLT.out, by go_num, by rw [HOE.out, HGE.out]; exact O5.out, BD.out⟩
            case measure => simp [intOf]; omega
          cases k2
          · skip
            have HOE : Hid (selC c0 (k + 1) = selC c0 k) := by (show _ = _); rw [selC_succ HKL.out, if_neg (by rw [HBW.out]; simp), List.append_nil]
            go_wp2_with fail
            go_roundw
            case rel => exact ⟨k + 1, HLT.out, by go_num, by rw [HOE.out, HGE.out]; exact O5.out, BD.out⟩
            case measure => simp [intOf]; omega
          have HOE : Hid (selC c0 (k + 1) = selC c0 k ++ [id]) := by (show _ = _); rw [selC_succ HKL.out, HID.out, if_pos (by rw [HBW.out]; rfl)]
          obtain ⟨p1, p2, p3⟩ := cf_cells (X.out.to BD.out)
          rw [HA.out] at p3
          have y0 := (BD.out.cell (p := ⟨bb, o + k * 5, none⟩) HBB.out).trans C0.out
          have hal := (Below.refl wt.heap.size wt).alloc (Nat.le_refl _) (.cells #[.int .i64 id] 3)
          have O7 := Lib.hid (own_bv O5.out hal)
          have N7 := Lib.hid (cells_newV wt 3 [.int .i64 id])
          have B8 := Lib.hid (BD.out.trans (hal.mono BD.out.size))
          clear hal
          go_wp2_with (at_builtin; refine wpList_pushV vtI rfl (.tmp 86) (.tmp 93) rfl rfl rfl O7.out (m := 1) (news := [.int .i64 id]) rfl (fun _ => ⟨_, rfl, N7.out⟩) (one_int _) B8.out.size (by have := HGL.out; omega) ?_; intro v9 w9 hown9 hk9 hv9; obtain ⟨A9, c9, rfl⟩ := own_slV hown9; have B9 := Lib.hid (hk9.below B8.out B8.out.size (fun k hk => (O7.out.lt k hk).1)); have O9 := Lib.hid hown9; clear hown9 hk9 hv9)
          have O10 : Hid (w9.ownsRow wL.heap.size 3 1 (.slice A9 (gl + 1) c9) (selC c0 (k + 1)).length ((selC c0 (k + 1)).map iv)) := by (show World.ownsRow _ _ _ _ _ _ _); rw [HOE.out, List.length_append, List.map_append, HGE.out]; exact O9.out
          go_roundw
          case rel => exact ⟨k + 1, HLT.out, by go_num, O10.out, B9.out⟩
          case measure => simp [intOf]; omega
        · obtain rfl : k = x0.nc := by have := HK.out; omega
          have HC : Hid (selC c0 x0.nc = chansC c0 c0) := by (show _ = _); rw [← LC.out, selC_all, VA.out.chans_self]
          replace O5 : Hid (wr.ownsRow wL.heap.size 3 1 (.slice A5 gl c5) gl ((chansC c0 c0).map iv)) := by (show World.ownsRow _ _ _ _ _ _ _); rw [← HC.out]; exact O5.out
          clear hlt HC HGE
          have Z3 := Lib.hid ((RdZ.of_own O3.out).to BD.out)
          have Z4 := Lib.hid ((RdZ.of_own O4.out).to BD.out)
          have Z5 := Lib.hid (RdZ.of_own O5.out)
          replace X := Lib.hid (X.out.to BD.out)
          replace R := Lib.hid (R.out.to BD.out)
          replace B := Lib.hid (B.out.trans (BD.out.mono B.out.size))
          clear BD O3 O4 O5
          have NL3 : Hid ((partsC c0 c0 false).length ≤ 6) := listTo_len _ _
          have NL4 : Hid ((partsC c0 c0 true).length ≤ 6) := listTo_len _ _
          have NL5 : Hid ((chansC c0 c0).length ≤ 8) := listTo_len _ _
          obtain ⟨l3, hl3⟩ : ∃ l, partsC c0 c0 false = l := ⟨_, rfl⟩
          obtain ⟨l4, hl4⟩ : ∃ l, partsC c0 c0 true = l := ⟨_, rfl⟩
          obtain ⟨l5, hl5⟩ : ∃ l, chansC c0 c0 = l := ⟨_, rfl⟩
          rw [hl3] at Z3 NL3
          rw [hl4] at Z4 NL4
          rw [hl5] at Z5 NL5
          have HL3 := Lib.hid hl3
          have HL4 := Lib.hid hl4
          have HL5 := Lib.hid hl5
          clear hl3 hl4 hl5
          obtain ⟨p1, p2, p3⟩ := cf_cells X.out
          go_wp2_with fail
          refine (wCheckZ x0 x0 c0 c0 VA.out.check_self _ R.out R.out DA.out DA.out).mono ?_
          rintro e e1 ⟨rfl, hb⟩
          replace X := Lib.hid (X.out.to hb)
          replace R := Lib.hid (R.out.to hb)
          replace B := Lib.hid (B.out.trans (hb.mono B.out.size))
          replace Z3 := Lib.hid (Z3.out.to hb)
          replace Z4 := Lib.hid (Z4.out.to hb)
          replace Z5 := Lib.hid (Z5.out.to hb)
          clear hb p1 p2 p3
          obtain ⟨p1, p2, p3⟩ := cf_cells X.out
          go_wp2_with fail
          refine (wPartsZ x0 x0 c0 c0 HL3.out _ R.out R.out DA.out DA.out).mono ?_
          rintro e f1 ⟨u, rfl, ⟨A1, n1, k1, rfl, hr1⟩, hb⟩
          replace X := Lib.hid (X.out.to hb)
          replace R := Lib.hid (R.out.to hb)
          replace B := Lib.hid (B.out.trans (hb.mono B.out.size))
          replace Z3 := Lib.hid (Z3.out.to hb)
          replace Z4 := Lib.hid (Z4.out.to hb)
          replace Z5 := Lib.hid (Z5.out.to hb)
          have HR1 := Lib.hid hr1
          have HN1 : Hid (n1 ≤ 1000) := by (show _ ≤ _); have h1 := hr1.1; have h2 := NL3.out; omega
          clear hb hr1 p1 p2 p3
          go_wp2_with fail
          refine (lSame13 A1 A3 n1 gl3 k1 c3 l3 l3 _ HR1.out Z3.out HN1.out).mono ?_
          rw [show decide (l3 = l3) = true from decide_eq_true rfl]
          rintro e g1 ⟨rfl, hb⟩
          replace X := Lib.hid (X.out.to hb)
          replace R := Lib.hid (R.out.to hb)
          replace B := Lib.hid (B.out.trans (hb.mono B.out.size))
          replace Z3 := Lib.hid (Z3.out.to hb)
          replace Z4 := Lib.hid (Z4.out.to hb)
          replace Z5 := Lib.hid (Z5.out.to hb)
          clear hb HR1 HN1
          obtain ⟨p1, p2, p3⟩ := cf_cells X.out
          go_wp2_with fail
          refine (wLeavZ x0 x0 c0 c0 HL4.out _ R.out R.out DA.out DA.out).mono ?_
          rintro e f2 ⟨u, rfl, ⟨A1, n1, k1, rfl, hr1⟩, hb⟩
          replace X := Lib.hid (X.out.to hb)
          replace R := Lib.hid (R.out.to hb)
          replace B := Lib.hid (B.out.trans (hb.mono B.out.size))
          replace Z3 := Lib.hid (Z3.out.to hb)
          replace Z4 := Lib.hid (Z4.out.to hb)
          replace Z5 := Lib.hid (Z5.out.to hb)
          have HR1 := Lib.hid hr1
          have HN1 : Hid (n1 ≤ 1000) := by (show _ ≤ _); have h1 := hr1.1; have h2 := NL4.out; omega
          clear hb hr1 p1 p2 p3
          go_wp2_with fail
          refine (lSame13 A1 A4 n1 gl4 k1 c4 l4 l4 _ HR1.out Z4.out HN1.out).mono ?_
          rw [show decide (l4 = l4) = true from decide_eq_true rfl]
          rintro e g2 ⟨rfl, hb⟩
          replace X := Lib.hid (X.out.to hb)
          replace R := Lib.hid (R.out.to hb)
          replace B := Lib.hid (B.out.trans (hb.mono B.out.size))
          replace Z3 := Lib.hid (Z3.out.to hb)
          replace Z4 := Lib.hid (Z4.out.to hb)
          replace Z5 := Lib.hid (Z5.out.to hb)
          clear hb HR1 HN1
          obtain ⟨p1, p2, p3⟩ := cf_cells X.out
          go_wp2_with fail
          refine (wChansZ x0 x0 c0 c0 HL5.out _ R.out R.out DA.out DA.out).mono ?_
          rintro e f3 ⟨u, rfl, ⟨A1, n1, k1, rfl, hr1⟩, hb⟩
          replace X := Lib.hid (X.out.to hb)
          replace R := Lib.hid (R.out.to hb)
          replace B := Lib.hid (B.out.trans (hb.mono B.out.size))
          replace Z3 := Lib.hid (Z3.out.to hb)
          replace Z4 := Lib.hid (Z4.out.to hb)
          replace Z5 := Lib.hid (Z5.out.to hb)
          have HR1 := Lib.hid hr1
          have HN1 : Hid (n1 ≤ 1000) := by (show _ ≤ _); have h1 := hr1.1; have h2 := NL5.out; omega
          clear hb hr1 p1 p2 p3
          go_wp2_with fail
          refine (lSame13 A1 A5 n1 gl k1 c5 l5 l5 _ HR1.out Z5.out HN1.out).mono ?_
          rw [show decide (l5 = l5) = true from decide_eq_true rfl]
          rintro e g3 ⟨rfl, hb⟩
          replace X := Lib.hid (X.out.to hb)
          replace R := Lib.hid (R.out.to hb)
          replace B := Lib.hid (B.out.trans (hb.mono B.out.size))
          replace Z3 := Lib.hid (Z3.out.to hb)
          replace Z4 := Lib.hid (Z4.out.to hb)
          replace Z5 := Lib.hid (Z5.out.to hb)
          clear hb HR1 HN1
          go_wp2_with fail
          refine (lAwake13 _).mono ?_
          rintro e wz ⟨rfl, hb⟩
          have BZ := Lib.hid (B.out.trans (hb.mono B.out.size))
          clear hb
          go_wp2_with fail
          go_ret
          exact ⟨rfl, BZ.out⟩

set_option maxRecDepth 100000 in
theorem lifted (os : Os) (started : os.Started) (H : Type) (enc : TypeId × Value → H) :
    ReturnsInHanded {} Try.checked os 6 .any (Rows.compatSelfSpec.pre6 enc Try.prog Try.f6 Rows.compatSelfRow.domain false) (Rows.compatSelfSpec.post enc Try.prog Try.f6 false true false false) := by
  refine returnsInHanded_of_change_sized (C := Try.checked) own started (by kernel_rfl) Try.func6
    (ChangeSpec.witness6 (enc := enc) (C := Try.checked) false ⟨#[], #[.agg #[.slice none 0 0, .slice none 0 0, .slice none 0 0]], []⟩ 8 (by kernel_rfl) (by kernel_rfl) (by kernel_rfl) (by kernel_rfl)) ?_
  intro W base args ds gs before hval0 hW hcnd hsz0 _
  have hval : ∀ (j : Nat) t v, Try.f6.params[j]? = some t → args[j]? = some v → Value.okWide Try.prog W .any base t v := hval0
  have hsz : (DataW.weightsEach Try.prog (Try.f6.params.toList ++ Rows.compatSelfSpec.plain.varTypes Try.prog) (ds ++ gs)).all (· ≤ reachBytes) = true := hsz0
  have hW' := hW
  obtain ⟨p, q, hA0, hV, rfl, hfz, hnd⟩ := hW
  have hA : DataW.TrodAll enc Try.prog W 0 (fun _ => true) true Try.f6.params.toList args.toList ds p := hA0
  rw [Try.params6] at hA hval hsz
  obtain ⟨v0, vs0, d0, ds0, p0, q0, hargs, rfl, rfl, h0, r0⟩ := trodAll_cons hA
  obtain ⟨rfl, rfl, rfl⟩ := trodAll_nil r0
  obtain rfl : args = #[v0] := by cases args; simp_all
  obtain ⟨rfl, rfl⟩ := trodVars_none hV
  have sz0 : ∀ x ∈ d0.weights Try.prog 26, x ≤ reachBytes := fun x hx => by simpa using List.all_eq_true.1 hsz _ (DataW.weights_mem_each (j := 0) rfl rfl x hx)
  have k0 := h0
  have lt0 : ∀ x ∈ p0, x.block < W.heap.size := by obtain ⟨m, hm⟩ := k0; exact DataW.trod_lt m _ _ _ hm
  obtain ⟨x0, c0, rfl, w0⟩ := open_config (hval 0 26 v0 rfl rfl) h0 sz0
  clear hA0 hval0
  refine (walk x0 c0 W w0).mono fun e W' ⟨he, bel⟩ => ?_
  subst he
  exact ⟨_, rfl, _, _, _, [], _, [], hW', trodAll_mk1 (shut_bool Try.underlying4 _), (trodAll_cons_mk (Below.trod laidOut (by kernel_rfl) (of_decide_eq_true (by kernel_rfl)) k0 bel lt0) trodAll_mk0), rfl, bel.frame _, fun h => by cases h⟩

theorem over : Rows.compatSelfRow.holds Try.pinned (OpenSpec.ofChange Rows.compatSelfSpec) :=
  OpenClaim.holds_of_wide 6 Try.f6 rfl rfl rfl rfl rfl rfl rfl ⟨rfl, rfl, rfl, rfl, rfl⟩ rfl rfl rfl rfl rfl (by kernel_rfl) Try.func6 (by kernel_rfl)
    (of_decide_eq_true (by kernel_rfl)) (by unfold Func.isWrapper; first | (rw [if_pos (by decide +kernel)]; kernel_rfl) | (rw [if_neg (by decide +kernel)]; exact ⟨rfl, rfl⟩))
    (fun os started H enc _ => lifted os started H enc)

theorem proved : Rows.CompatSelfSaid := over
end Go.Proofs.Ytecedmjhhaabgaa.compatSelf
