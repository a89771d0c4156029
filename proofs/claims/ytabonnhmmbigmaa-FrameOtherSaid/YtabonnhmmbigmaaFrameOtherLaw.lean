/- For any kind, any payload of at most 58 bytes, any place and any number put over four bytes there by exclusive or the law FrameOther of citadellaw07 returns true: a frame in which up to 4 bytes, one behind the other, are otherwise, all of them of its first 60, or of its last 4, is none. Conditions: none beyond those that the statement itself prints. -/
import Derived.Test.YtabonnhmmbigmaaRows
import Derived.Test.YtabonnhmmbigmaaFrameAwake
import Derived.WalkKit
import Derived.ProofKit
import Derived.OpenShut
import Derived.ShutString
import Derived.ChangeOld
import Derived.Below
namespace Go.Proofs.Ytabonnhmmbigmaa.frameOther
open Go.ChangeShapes Go.WideShapes Go.ChangeAt Go.RowKit
open Go.ChangeMaps (open_string shut_string)
set_option linter.unusedVariables false
set_option linter.unusedSimpArgs false

theorem own : ownKnob Try.prog.godebug = none := by kernel_rfl
theorem laidOut : laidOutB Try.prog = true := by kernel_rfl

def OtherRel (B g n c p gz : Nat) (xs zs : List UInt8) (w : World) (i : Value) (wr : World) : Prop :=
  ∃ k : Nat, k ≤ 4 ∧ i = .int .i64 (k : Int) ∧ wr.ownsRow B 5 1 (.slice (some ⟨g, 0, none⟩) n c) n ((patch xs p zs k).map bval) ∧ Rd wr (gz + 1) (some ⟨gz, 0, none⟩) 4 zs ∧ Below B w wr
theorem xor_u8F (a b : UInt8) : bits .xor .u8 (a.toNat : Int) (b.toNat : Int) = ((a ^^^ b).toNat : Int) := by
  rw [UInt8.toNat_xor]
  exact u8_xor_nat _ _ a.toNat_lt b.toNat_lt
set_option maxRecDepth 1000000 in
set_option maxHeartbeats 4000000 in
theorem walk (a0 : Int) (a1 : Option Addr) (len1 cap1 : Nat) (z1 : List Int) (a2 : Int) (a3 : Int) (w : World) (w0 : (Lit.int .u8 a0).wf = true) (w1 : IsRow .u8 w a1 len1 cap1 z1) (w2 : (Lit.int .i64 a2).wf = true) (w3 : (Lit.int .u32 a3).wf = true) :
    Calls Try.prog 6 #[.int .u8 a0, .slice a1 len1 cap1, .int .i64 a2, .int .u32 a3] w fun e w' => e = .returned (.bool true) ∧ Below w.heap.size w w' := by
  obtain ⟨r1, hcap1, hcap1'⟩ := w1.rd
  obtain ⟨k, hk⟩ := u8v w0
  obtain ⟨hn1, hn2⟩ := wf_i64 w2
  obtain ⟨over, rfl, ho⟩ := wf_u32 w3
  generalize bytesIn (z1.take len1) = xs at r1
  clear w0 w1 w2 w3
  have R := Lib.hid r1
  have HK := Lib.hid hk
  clear r1 hk
  by_cases hout : 58 < len1 ∨ a2 < 0 ∨ a2 > 60 ∨ (a2 > 56 ∧ a2 < 60) ∨ over = 0
  · go_enter Try.func6, Try.ntmps6
    go_wp2_with fail
    refine (awake w).mono ?_
    rintro e w1 ⟨rfl, hb⟩
    have B := Lib.hid hb
    clear hb
    by_cases h1 : 58 < len1
    · have h1I : (len1 : Int) > 58 := by omega
      clear hout
      go_wp2_with fail
      go_ret
      exact ⟨rfl, B.out⟩
    have h1I : ¬ ((len1 : Int) > 58) := by omega
    by_cases h2 : a2 < 0
    · clear hout
      go_wp2_with fail
      go_ret
      exact ⟨rfl, B.out⟩
    by_cases h3 : a2 > 60
    · clear hout
      go_wp2_with fail
      go_ret
      exact ⟨rfl, B.out⟩
    by_cases h4 : a2 > 56
    · by_cases h5 : a2 < 60
      · clear hout
        go_wp2_with fail
        go_ret
        exact ⟨rfl, B.out⟩
      · obtain rfl : over = 0 := by omega
        clear hout
        go_wp2_with fail
        go_ret
        exact ⟨rfl, B.out⟩
    · obtain rfl : over = 0 := by omega
      clear hout
      go_wp2_with fail
      go_ret
      exact ⟨rfl, B.out⟩
  obtain ⟨p, rfl⟩ := Int.eq_ofNat_of_zero_le (show 0 ≤ a2 by omega)
  have hl1 : len1 ≤ 58 := by omega
  have h1I : ¬ ((len1 : Int) > 58) := by omega
  have h3I : ¬ ((p : Int) > 60) := by omega
  have hp60 : (p : Int) < 61 := by omega
  have hov0 : ((over : Int) == 0) = false := by simp; omega
  have hov1 : (over == 0) = false := by simp; omega
  have HPP : Hid (p ≤ 56 ∨ p = 60) := by (show _ ∨ _); omega
  have HO0 : Hid (over ≠ 0) := by (show _ ≠ _); omega
  have HXL : Hid (xs.length ≤ 58) := by (show _ ≤ _); rw [R.out.1]; exact hl1
  have hor : ¬ ((p : Int) > 56) ∨ (p : Int) > 56 ∧ ¬ ((p : Int) < 60) := by omega
  clear hout hn1 hn2
  go_enter Try.func6, Try.ntmps6
  go_wp2_with fail
  refine (awake w).mono ?_
  rintro e w1 ⟨rfl, hb⟩
  have B := Lib.hid hb
  replace R := Lib.hid (R.out.to hb)
  clear hb
  rcases hor with h56 | ⟨h56, h60⟩
  ·
    go_wp2_with fail
    clear hov0 hov1
    refine (wSealZ a1 len1 cap1 k a0 HK.out xs w1 R.out hl1).mono ?_
    rintro e w2 ⟨A2, n2, c2, rfl, hown2, hb⟩
    have X := Lib.hid (Rd.of_own hown2)
    obtain rfl : n2 = 64 := by rw [← X.out.1]; exact frm_len HXL.out
    obtain ⟨g, rfl, hg⟩ := own_head hown2 (by decide)
    obtain ⟨hcp, hcp'⟩ := own_cap hown2
    have O := Lib.hid (own_mono hown2 B.out.size)
    have hgM := X.out.blk (show 0 < 64 by decide)
    have HG : Hid (w.heap.size ≤ g) := Nat.le_trans B.out.size hg
    replace B := Lib.hid (B.out.trans (hb.mono B.out.size))
    clear hown2 hb R X
    go_wp2_with fail
    refine (wPut32 over w2 ho).mono ?_
    rintro e w3 ⟨A3, n3, c3, rfl, hown3, hb⟩
    have Z := Lib.hid (Rd.of_own hown3)
    obtain rfl : n3 = 4 := by rw [← Z.out.1, enc_len]
    obtain ⟨gz, rfl, hgz⟩ := own_head hown3 (by decide)
    clear hown3
    replace O := Lib.hid (own_below O.out hb)
    replace B := Lib.hid (B.out.trans (hb.mono B.out.size))
    clear hb
    go_wp2_with fail
    have HZ : Hid (Rd w3 (gz + 1) (some ⟨gz, 0, none⟩) 4 (enc over 4)) := by
      refine ⟨Z.out.1, fun _ => ⟨gz, 0, rfl, by omega, fun j hj => ?_⟩⟩
      have := Z.out.at hj
      simpa using this
    have HT := Lib.hid (frm_turned (k := k) HXL.out ho HO0.out HPP.out)
    have HGZ : Hid (gz ≠ g) := by (show _ ≠ _); omega
    clear Z HO0 HPP hgz hgM hg
    generalize enc over 4 = zs at *
    generalize frm k xs = fs at *
    go_loopw [12] (fun i wr => OtherRel w.heap.size g 64 c2 p gz fs zs w i wr) (fun i _ => 4 - (intOf i).toNat)
    case atStart => exact ⟨0, Nat.zero_le _, rfl, O.out, HZ.out, B.out⟩
    case round =>
      obtain ⟨j, hj, rfl, hown, hz, hb⟩ := hrel
      clear O HZ B
      by_cases hlt : j < 4
      · have hltI : (j : Int) < 4 := by omega
        have HJ := Lib.hid hlt
        have hcz := hz.at (j := j) hlt
        rw [Nat.zero_add] at hcz
        obtain ⟨q, hq⟩ : ∃ q, q = p + j := ⟨_, rfl⟩
        have hqn : q < 64 := by omega
        obtain ⟨hcell, hfr⟩ := own_cell (j := q) hown hqn
        have hx := xor_u8F ((patch fs p zs j).getD q 0) (zs.getD j 0)
        change bits .xor .u8 (nth (patch fs p zs j) q : Int) (nth zs j : Int) = _ at hx
        generalize hy : (patch fs p zs j).getD q 0 ^^^ zs.getD j 0 = y at *
        have HY := Lib.hid hy
        clear hy
        have hw : IntKind.i64.wrap ((p : Int) + (j : Int)) = (q : Int) := by rw [hq]; exact IntWalk.i64_in _ (by omega)
        have HQ := Lib.hid hq
        clear hq
        have HO := Lib.hid hown
        have HZ' := Lib.hid hz
        have HB := Lib.hid hb
        clear hown hz hb hlt hj
        go_wp2_with fail
        go_region
        all_goals
          go_wp2
          go_roundw
          case rel =>
            have h := own_set (j := q) HO.out HB.out y rfl HG.out
            refine ⟨j + 1, by have := HJ.out; omega, by go_num, ?_, ?_, ?_⟩
            · rw [patch, ← HQ.out, HY.out]; exact h.1
            · exact HZ'.out.setOther _ _ HGZ.out
            · exact h.2.drew
          case measure => simp [intOf]; omega
      · obtain rfl : j = 4 := by omega
        have M := Lib.hid (Rd.of_own hown)
        have B4 := Lib.hid hb
        clear hown hz hb
        go_wp2_with fail
        refine (wKind _ 64 c2 _ wr M.out hcp hcp').mono ?_
        rw [HT.out]
        generalize kindOf (patch fs p zs 4) = kd at *
        rintro e w5 ⟨rfl, hb⟩
        clear M
        replace B4 := Lib.hid (B4.out.trans (hb.mono B4.out.size))
        clear hb
        go_wp2_with fail
        go_ret
        exact ⟨rfl, B4.out⟩
  ·
    go_wp2_with fail
    clear hov0 hov1
    refine (wSealZ a1 len1 cap1 k a0 HK.out xs w1 R.out hl1).mono ?_
    rintro e w2 ⟨A2, n2, c2, rfl, hown2, hb⟩
    have X := Lib.hid (Rd.of_own hown2)
    obtain rfl : n2 = 64 := by rw [← X.out.1]; exact frm_len HXL.out
    obtain ⟨g, rfl, hg⟩ := own_head hown2 (by decide)
    obtain ⟨hcp, hcp'⟩ := own_cap hown2
    have O := Lib.hid (own_mono hown2 B.out.size)
    have hgM := X.out.blk (show 0 < 64 by decide)
    have HG : Hid (w.heap.size ≤ g) := Nat.le_trans B.out.size hg
    replace B := Lib.hid (B.out.trans (hb.mono B.out.size))
    clear hown2 hb R X
    go_wp2_with fail
    refine (wPut32 over w2 ho).mono ?_
    rintro e w3 ⟨A3, n3, c3, rfl, hown3, hb⟩
    have Z := Lib.hid (Rd.of_own hown3)
    obtain rfl : n3 = 4 := by rw [← Z.out.1, enc_len]
    obtain ⟨gz, rfl, hgz⟩ := own_head hown3 (by decide)
    clear hown3
    replace O := Lib.hid (own_below O.out hb)
    replace B := Lib.hid (B.out.trans (hb.mono B.out.size))
    clear hb
    go_wp2_with fail
    have HZ : Hid (Rd w3 (gz + 1) (some ⟨gz, 0, none⟩) 4 (enc over 4)) := by
      refine ⟨Z.out.1, fun _ => ⟨gz, 0, rfl, by omega, fun j hj => ?_⟩⟩
      have := Z.out.at hj
      simpa using this
    have HT := Lib.hid (frm_turned (k := k) HXL.out ho HO0.out HPP.out)
    have HGZ : Hid (gz ≠ g) := by (show _ ≠ _); omega
    clear Z HO0 HPP hgz hgM hg
    generalize enc over 4 = zs at *
    generalize frm k xs = fs at *
    go_loopw [12] (fun i wr => OtherRel w.heap.size g 64 c2 p gz fs zs w i wr) (fun i _ => 4 - (intOf i).toNat)
    case atStart => exact ⟨0, Nat.zero_le _, rfl, O.out, HZ.out, B.out⟩
    case round =>
      obtain ⟨j, hj, rfl, hown, hz, hb⟩ := hrel
      clear O HZ B
      by_cases hlt : j < 4
      · have hltI : (j : Int) < 4 := by omega
        have HJ := Lib.hid hlt
        have hcz := hz.at (j := j) hlt
        rw [Nat.zero_add] at hcz
        obtain ⟨q, hq⟩ : ∃ q, q = p + j := ⟨_, rfl⟩
        have hqn : q < 64 := by omega
        obtain ⟨hcell, hfr⟩ := own_cell (j := q) hown hqn
        have hx := xor_u8F ((patch fs p zs j).getD q 0) (zs.getD j 0)
        change bits .xor .u8 (nth (patch fs p zs j) q : Int) (nth zs j : Int) = _ at hx
        generalize hy : (patch fs p zs j).getD q 0 ^^^ zs.getD j 0 = y at *
        have HY := Lib.hid hy
        clear hy
        have hw : IntKind.i64.wrap ((p : Int) + (j : Int)) = (q : Int) := by rw [hq]; exact IntWalk.i64_in _ (by omega)
        have HQ := Lib.hid hq
        clear hq
        have HO := Lib.hid hown
        have HZ' := Lib.hid hz
        have HB := Lib.hid hb
        clear hown hz hb hlt hj
        go_wp2_with fail
        go_region
        all_goals
          go_wp2
          go_roundw
          case rel =>
            have h := own_set (j := q) HO.out HB.out y rfl HG.out
            refine ⟨j + 1, by have := HJ.out; omega, by go_num, ?_, ?_, ?_⟩
            · rw [patch, ← HQ.out, HY.out]; exact h.1
            · exact HZ'.out.setOther _ _ HGZ.out
            · exact h.2.drew
          case measure => simp [intOf]; omega
      · obtain rfl : j = 4 := by omega
        have M := Lib.hid (Rd.of_own hown)
        have B4 := Lib.hid hb
        clear hown hz hb
        go_wp2_with fail
        refine (wKind _ 64 c2 _ wr M.out hcp hcp').mono ?_
        rw [HT.out]
        generalize kindOf (patch fs p zs 4) = kd at *
        rintro e w5 ⟨rfl, hb⟩
        clear M
        replace B4 := Lib.hid (B4.out.trans (hb.mono B4.out.size))
        clear hb
        go_wp2_with fail
        go_ret
        exact ⟨rfl, B4.out⟩

set_option maxRecDepth 100000 in
theorem lifted (os : Os) (started : os.Started) (H : Type) (enc : TypeId × Value → H) :
    ReturnsInHanded {} Try.checked os 6 .any (Rows.frameOtherSpec.pre6 enc Try.prog Try.f6 Rows.frameOtherRow.domain false) (Rows.frameOtherSpec.post enc Try.prog Try.f6 false true false false) := by
  refine returnsInHanded_of_change (C := Try.checked) own started (by kernel_rfl) Try.func6
    (ChangeSpec.witness6 (enc := enc) (C := Try.checked) false ⟨#[], #[.int .u8 0, .slice none 0 0, .int .i64 0, .int .u32 0], []⟩ 8 (by kernel_rfl) (by kernel_rfl) (by kernel_rfl) (by kernel_rfl)) ?_
  intro W base args ds gs before hval0 hW hcnd _
  have hval : ∀ (j : Nat) t v, Try.f6.params[j]? = some t → args[j]? = some v → Value.okWide Try.prog W .any base t v := hval0
  have hW' := hW
  obtain ⟨p, q, hA0, hV, rfl, hfz, hnd⟩ := hW
  have hA : DataW.TrodAll enc Try.prog W 0 (fun _ => true) true Try.f6.params.toList args.toList ds p := hA0
  rw [Try.params6] at hA hval
  obtain ⟨v0, vs0, d0, ds0, p0, q0, hargs, rfl, rfl, h0, r0⟩ := trodAll_cons hA
  obtain ⟨v1, vs1, d1, ds1, p1, q1, rfl, rfl, rfl, h1, r1⟩ := trodAll_cons r0
  obtain ⟨v2, vs2, d2, ds2, p2, q2, rfl, rfl, rfl, h2, r2⟩ := trodAll_cons r1
  obtain ⟨v3, vs3, d3, ds3, p3, q3, rfl, rfl, rfl, h3, r3⟩ := trodAll_cons r2
  obtain ⟨rfl, rfl, rfl⟩ := trodAll_nil r3
  obtain rfl : args = #[v0, v1, v2, v3] := by cases args; simp_all
  obtain ⟨rfl, rfl⟩ := trodVars_none hV
  obtain ⟨a0, rfl, rfl, rfl, w0⟩ := open_int Try.underlying5 (hval 0 5 v0 rfl rfl) h0
  obtain ⟨a1, len1, cap1, rfl⟩ := okWide_slice Try.underlying22 (hval 1 22 v1 rfl rfl)
  have k1 := h1
  have lt1 : ∀ x ∈ p1, x.block < W.heap.size := by obtain ⟨m, hm⟩ := k1; exact DataW.trod_lt m _ _ _ hm
  obtain ⟨z1, w1⟩ : ∃ zs, IsRow .u8 W a1 len1 cap1 zs := by
    obtain ⟨fuel, hf⟩ := h1
    rcases open_ints Try.underlying22 Try.underlying5 (by kernel_rfl) hf with ⟨hcs, _⟩ | ⟨x, l, c, zs, hcs, _, hl, hm, hz, _, hcell, hwz⟩
    · simp [Value.cells] at hcs
      obtain ⟨rfl, rfl, rfl⟩ := hcs
      exact ⟨[], .inl ⟨rfl, rfl, rfl, rfl⟩⟩
    · simp [Value.cells] at hcs
      obtain ⟨rfl, rfl, rfl⟩ := hcs
      exact ⟨zs, .inr ⟨_, rfl, hl, hm, by simpa using hz, hcell, hwz⟩⟩
  obtain ⟨a2, rfl, rfl, rfl, w2⟩ := open_int Try.underlying3 (hval 2 3 v2 rfl rfl) h2
  obtain ⟨a3, rfl, rfl, rfl, w3⟩ := open_int Try.underlying36 (hval 3 36 v3 rfl rfl) h3
  clear hA0 hval0
  refine (walk a0 a1 len1 cap1 z1 a2 a3 W w0 w1 w2 w3).mono fun e W' ⟨he, bel⟩ => ?_
  subst he
  exact ⟨_, rfl, _, _, _, [], _, [], hW', trodAll_mk1 (shut_bool Try.underlying4 _), (trodAll_cons_mk (shut_int Try.underlying5 w0) (trodAll_cons_mk (Below.trod laidOut (by kernel_rfl) (of_decide_eq_true (by kernel_rfl)) k1 bel lt1) (trodAll_cons_mk (shut_int Try.underlying3 w2) (trodAll_cons_mk (shut_int Try.underlying36 w3) trodAll_mk0)))), rfl, bel.frame _, fun h => by cases h⟩

theorem over : Rows.frameOtherRow.holds Try.pinned (OpenSpec.ofChange Rows.frameOtherSpec) :=
  OpenClaim.holds_of_wide 6 Try.f6 rfl rfl rfl rfl rfl rfl rfl ⟨rfl, rfl, rfl, rfl, rfl⟩ rfl rfl rfl rfl rfl (by kernel_rfl) Try.func6 (by kernel_rfl)
    (of_decide_eq_true (by kernel_rfl)) (by unfold Func.isWrapper; first | (rw [if_pos (by decide +kernel)]; kernel_rfl) | (rw [if_neg (by decide +kernel)]; exact ⟨rfl, rfl⟩))
    (fun os started H enc _ => lifted os started H enc)

theorem proved : Rows.FrameOtherSaid := over
end Go.Proofs.Ytabonnhmmbigmaa.frameOther
