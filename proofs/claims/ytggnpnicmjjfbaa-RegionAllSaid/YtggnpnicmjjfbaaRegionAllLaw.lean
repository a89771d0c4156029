/- For any regions, any size and any byte the law RegionAll of citadellaw08 returns true: All, Place and Holder of region answer as the chapter says; the regions stay as they were. Conditions: none beyond those that the statement itself prints. -/
import Derived.Test.YtggnpnicmjjfbaaRows
import Derived.Test.YtggnpnicmjjfbaaRegE
import Derived.Test.YtggnpnicmjjfbaaRegT
import Derived.Test.YtggnpnicmjjfbaaRegC
import Derived.WalkKit
import Derived.ProofKit
import Derived.OpenShut
import Derived.ShutString
import Derived.ChangeOld
import Derived.Below
namespace Go.Proofs.Ytggnpnicmjjfbaa.regionAll
open Go.ChangeShapes Go.WideShapes Go.ChangeAt Go.RowKit
open Go.ChangeMaps (open_string shut_string)
set_option linter.unusedVariables false
set_option linter.unusedSimpArgs false

theorem own : ownKnob Try.prog.godebug = none := by kernel_rfl
theorem laidOut : laidOutB Try.prog = true := by kernel_rfl

def SameRel (n : Nat) (w1 : World) (s : Value) (wr : World) : Prop :=
  ∃ i : Nat, i ≤ n ∧ s = .int .i64 (i : Int) ∧ Below w1.heap.size w1 wr
set_option maxRecDepth 1000000 in
set_option maxHeartbeats 4000000 in
theorem walk (a0 : Option Addr) (len0 cap0 : Nat) (l0 : List Reg) (a1 : Int) (a2 : Int) (w : World) (w0 : RdG w w.heap.size a0 len0 l0 ∧ len0 ≤ cap0 ∧ cap0 ≤ 9223372036854775807) (w1 : (Lit.int .i64 a1).wf = true) (w2 : (Lit.int .i64 a2).wf = true) :
    Calls Try.prog 4 #[.slice a0 len0 cap0, .int .i64 a1, .int .i64 a2] w fun e w' => e = .returned (.bool true) ∧ Below w.heap.size w w' := by
  obtain ⟨r0, hcap, hcap'⟩ := w0
  have R := Lib.hid r0
  have HC := Lib.hid hcap
  have HC' := Lib.hid hcap'
  have HT := Lib.hid w2
  clear r0 hcap hcap' w1 w2
  have hgd := reg_guard
  have heq := reg_eq
  by_cases h80 : 80 < len0
  · have h80I : (len0 : Int) > 80 := by omega
    clear h80
    go_enter Try.func4, Try.ntmps4
    go_wp2_with fail
    go_ret
    exact ⟨rfl, Below.refl _ _⟩
  have h80I : ¬ (len0 : Int) > 80 := by omega
  have HN : Hid (len0 ≤ 80) := by (show _ ≤ _); omega
  clear h80
  have R2 := Lib.hid (R.out.to ((Below.refl _ _).alloc (Nat.le_refl _) (.cells #[] 23)))
  have FR : Hid ((w.alloc (.cells #[] 23)).heap[w.heap.size]? = some (.cells #[] 23 (0, 0))) := by (show (w.heap.push _)[w.heap.size]? = _); simp
  have BF := Lib.hid ((Below.refl w.heap.size w).alloc (Nat.le_refl _) (.cells #[] 23))
  go_enter Try.func4, Try.ntmps4
  go_wp2_with (first
    | (at_builtin; refine wpList_pushR rfl _ _ rfl (v := .slice (some ⟨w.heap.size, 0, none⟩) 0 0) rfl rfl (own_fresh FR.out (Nat.le_refl _)) R2.out BF.out BF.out.size (by have := HN.out; omega) ?_; intro v2 w1 hown1 hb1 hs1; rw [Nat.zero_add, List.nil_append] at hown1; obtain ⟨A2, c2, rfl⟩ := own_slice2 hown1)
    | fail)
  have B := Lib.hid hb1
  have I := Lib.hid (RdG.of_own hown1)
  have HC2 := Lib.hid (own_cap2 hown1)
  replace R := Lib.hid (R.out.to hb1)
  clear hown1 hb1 hs1 R2 FR BF
  refine (wPlace A2 len0 c2 l0 a1 _ I.out HC2.out.1 HC2.out.2).mono ?_
  rintro e w2 ⟨rfl, hb⟩
  replace R := Lib.hid (R.out.to hb)
  replace I := Lib.hid (I.out.to hb)
  replace B := Lib.hid (B.out.trans (hb.mono B.out.size))
  clear hb
  obtain ⟨⟨pb, ps⟩, hpr⟩ : ∃ p : Reg, (placeR l0 a1).1 = p := ⟨_, rfl⟩
  obtain ⟨pe, hpe⟩ : ∃ k : Int, (placeR l0 a1).2 = k := ⟨_, rfl⟩
  have HPR := Lib.hid hpr
  have HPE := Lib.hid hpe
  rw [hpr, hpe]
  clear hpr hpe
  dsimp only
  go_wp2_with fail
  have X8 := Lib.hid (Box.new w2 pb ps)
  have hb : Hid (Below w2.heap.size w2 (w2.alloc (.cells #[.int .i64 pb, .int .i64 ps] 23))) := (Below.refl _ _).alloc (Nat.le_refl _) _
  replace R := Lib.hid (R.out.to hb.out)
  replace I := Lib.hid (I.out.to hb.out)
  replace B := Lib.hid (B.out.trans (hb.out.mono B.out.size))
  clear hb
  generalize w2.alloc (.cells #[.int .i64 pb, .int .i64 ps] 23) = w3 at *
  generalize w2.heap.size = g8 at *
  have hn80 : len0 ≤ 9223372036854775806 := by have := HN.out; omega
  have HN8 := Lib.hid hn80
  clear hn80
  refine (rPlace a0 len0 cap0 l0 a1 _ R.out HN8.out).mono ?_
  rintro e w4 ⟨rfl, hb⟩
  replace R := Lib.hid (R.out.to hb)
  replace I := Lib.hid (I.out.to hb)
  replace B := Lib.hid (B.out.trans (hb.mono B.out.size))
  replace X8 := Lib.hid (X8.out.to hb)
  clear hb
  rw [HPR.out, HPE.out]
  dsimp only
  go_wp2_with fail
  have X10 := Lib.hid (Box.new w4 pb ps)
  have hb : Hid (Below w4.heap.size w4 (w4.alloc (.cells #[.int .i64 pb, .int .i64 ps] 23))) := (Below.refl _ _).alloc (Nat.le_refl _) _
  replace R := Lib.hid (R.out.to hb.out)
  replace I := Lib.hid (I.out.to hb.out)
  replace X8 := Lib.hid (X8.out.to hb.out)
  replace B := Lib.hid (B.out.trans (hb.out.mono B.out.size))
  clear hb
  generalize w4.alloc (.cells #[.int .i64 pb, .int .i64 ps] 23) = w5 at *
  generalize w4.heap.size = g10 at *
  obtain ⟨va, hva⟩ : ∃ k : Int, allR l0 = k := ⟨_, rfl⟩
  obtain ⟨vh, hvh⟩ : ∃ k : Int, holdR l0 a2 = k := ⟨_, rfl⟩
  have HVA := Lib.hid hva
  have HVH := Lib.hid hvh
  clear hva hvh
  have e1 : (va != va) = false := by simp
  have e2 : (pe != pe) = false := by simp
  have e3 : (vh != vh) = false := by simp
  refine (wAll A2 len0 c2 l0 _ I.out HC2.out.1 HC2.out.2).mono ?_
  rw [HVA.out]
  rintro e w6 ⟨rfl, hb⟩
  replace R := Lib.hid (R.out.to hb)
  replace I := Lib.hid (I.out.to hb)
  replace B := Lib.hid (B.out.trans (hb.mono B.out.size))
  replace X8 := Lib.hid (X8.out.to hb)
  replace X10 := Lib.hid (X10.out.to hb)
  clear hb
  go_wp2_with fail
  refine (rAll a0 len0 cap0 l0 _ R.out HN8.out).mono ?_
  rw [HVA.out]
  rintro e w7 ⟨rfl, hb⟩
  replace R := Lib.hid (R.out.to hb)
  replace I := Lib.hid (I.out.to hb)
  replace B := Lib.hid (B.out.trans (hb.mono B.out.size))
  replace X8 := Lib.hid (X8.out.to hb)
  replace X10 := Lib.hid (X10.out.to hb)
  clear hb
  obtain ⟨x0, x1, _⟩ := X8.out
  obtain ⟨y0, y1, _⟩ := X10.out
  go_wp2_with fail
  refine (wHolder A2 len0 c2 l0 a2 _ I.out (Nat.le_trans HC2.out.1 HC2.out.2)).mono ?_
  rw [HVH.out]
  rintro e w8 ⟨rfl, hb⟩
  replace R := Lib.hid (R.out.to hb)
  replace I := Lib.hid (I.out.to hb)
  replace B := Lib.hid (B.out.trans (hb.mono B.out.size))
  clear hb
  go_wp2_with fail
  refine (rHolder a0 len0 cap0 l0 a2 _ R.out HN8.out HT.out).mono ?_
  rw [HVH.out]
  rintro e w9 ⟨rfl, hb⟩
  replace R := Lib.hid (R.out.to hb)
  replace I := Lib.hid (I.out.to hb)
  replace B := Lib.hid (B.out.trans (hb.mono B.out.size))
  clear hb x0 x1 y0 y1 X8 X10
  go_wp2_with fail
  go_loopw [12] (fun s wr => SameRel len0 w9 s wr) (fun s _ => len0 - (intOf s).toNat)
  case atStart => exact ⟨0, Nat.zero_le _, rfl, Below.refl _ _⟩
  case round =>
    obtain ⟨i, hi, rfl, hb⟩ := hrel
    have BI := Lib.hid hb
    clear hb
    by_cases hlt : i < len0
    · obtain ⟨b, o, rfl, hbo, hc⟩ := (R.out.to BI.out).2 (by omega)
      obtain ⟨b', o', rfl, hbo', hc'⟩ := (I.out.to BI.out).2 (by omega)
      have c0 := (hc i hlt).1
      have c1 := (hc i hlt).2
      have d0 := (hc' i hlt).1
      have d1 := (hc' i hlt).2
      have hltI : (i : Int) < (len0 : Int) := by omega
      have HIK : Hid (i < len0) := hlt
      have hw : IntKind.i64.wrap ((i : Int) + 1) = (i : Int) + 1 := by have := HN.out; rw [IntKind.wrap_i64]; omega
      clear hc hc' hi hlt hbo hbo'
      go_wp2_with fail
      replace c0 : wr.drew.cell? ⟨b, o + i * 2, none⟩ = some (.int .i64 (rat l0 i).1) := c0
      replace c1 : wr.drew.cell? ⟨b, o + i * 2 + 1, none⟩ = some (.int .i64 (rat l0 i).2) := c1
      replace d0 : wr.drew.cell? ⟨b', o' + i * 2, none⟩ = some (.int .i64 (rat l0 i).1) := d0
      replace d1 : wr.drew.cell? ⟨b', o' + i * 2 + 1, none⟩ = some (.int .i64 (rat l0 i).2) := d1
      replace BI := Lib.hid BI.out.drew
      refine wp_region_held_drew (S := (fun w' => w'.cell? ⟨b, o + i * 2, none⟩ = some (.int .i64 (rat l0 i).1) ∧ w'.cell? ⟨b, o + i * 2 + 1, none⟩ = some (.int .i64 (rat l0 i).2) ∧ w'.cell? ⟨b', o' + i * 2, none⟩ = some (.int .i64 (rat l0 i).1) ∧ w'.cell? ⟨b', o' + i * 2 + 1, none⟩ = some (.int .i64 (rat l0 i).2))) (by kernel_rfl) (⟨c0, c1, d0, d1⟩) (fun hHeld => ?_)
      generalize wr.drew = wd at *
      refine wpAnyH_takeD (i := 0) (d := 61) (v := ?_) rfl rfl (by kernel_rfl) (by kernel_rfl) (by kernel_rfl) (fun _ _ _ h => h) (Or.inl ⟨by rfl, ?_⟩) (by assumption) ?_
      rotate_left 1
      · intro w hSw; (try dsimp only at hSw); go_simp; (try with_reducible rfl)
      simp only [List.setIfInBounds_toArray, List.set_cons_zero, List.set_cons_succ]
      refine wpAnyH_takeD (i := 1) (d := 62) (v := ?_) rfl rfl (by kernel_rfl) (by kernel_rfl) (by kernel_rfl) (fun _ _ _ h => h) (Or.inl ⟨by rfl, ?_⟩) (by assumption) ?_
      rotate_left 1
      · intro w hSw; (try dsimp only at hSw); go_simp; (try with_reducible rfl)
      simp only [List.setIfInBounds_toArray, List.set_cons_zero, List.set_cons_succ]
      refine wpAnyH_takeD (i := 2) (d := 63) (v := ?_) rfl rfl (by kernel_rfl) (by kernel_rfl) (by kernel_rfl) (fun _ _ _ h => h) (Or.inl ⟨by rfl, ?_⟩) (by assumption) ?_
      rotate_left 1
      · intro w hSw; (try dsimp only at hSw); go_simp; (try with_reducible rfl)
      simp only [List.setIfInBounds_toArray, List.set_cons_zero, List.set_cons_succ]
      refine wpAnyH_takeD (i := 3) (d := 64) (v := ?_) rfl rfl (by kernel_rfl) (by kernel_rfl) (by kernel_rfl) (fun _ _ _ h => h) (Or.inl ⟨by rfl, ?_⟩) (by assumption) ?_
      rotate_left 1
      · intro w hSw; (try dsimp only at hSw); go_simp; (try with_reducible rfl)
      simp only [List.setIfInBounds_toArray, List.set_cons_zero, List.set_cons_succ]
      refine wpAnyH_takeD (i := 4) (d := 65) (v := ?_) rfl rfl (by kernel_rfl) (by kernel_rfl) (by kernel_rfl) (fun _ _ _ h => h) (Or.inl ⟨by rfl, ?_⟩) (by assumption) ?_
      rotate_left 1
      · intro w hSw; (try dsimp only at hSw); go_simp; (try with_reducible rfl)
      simp only [List.setIfInBounds_toArray, List.set_cons_zero, List.set_cons_succ]
      refine wpAnyH_takeD (i := 5) (d := 66) (v := ?_) rfl rfl (by kernel_rfl) (by kernel_rfl) (by kernel_rfl) (fun _ _ _ h => h) (Or.inl ⟨by rfl, ?_⟩) (by assumption) ?_
      rotate_left 1
      · intro w hSw; (try dsimp only at hSw); go_simp; (try with_reducible rfl)
      simp only [List.setIfInBounds_toArray, List.set_cons_zero, List.set_cons_succ]
      refine wpAnyH_takeD (i := 6) (d := 67) (v := ?_) rfl rfl (by kernel_rfl) (by kernel_rfl) (by kernel_rfl) (fun _ _ _ h => h) (Or.inl ⟨by rfl, ?_⟩) (by assumption) ?_
      rotate_left 1
      · intro w hSw; (try dsimp only at hSw); go_simp; (try with_reducible rfl)
      simp only [List.setIfInBounds_toArray, List.set_cons_zero, List.set_cons_succ]
      refine wpAnyH_takeD (i := 7) (d := 68) (v := ?_) rfl rfl (by kernel_rfl) (by kernel_rfl) (by kernel_rfl) (fun _ _ _ h => h) (Or.inl ⟨by rfl, ?_⟩) (by assumption) ?_
      rotate_left 1
      · intro w hSw; (try dsimp only at hSw); go_simp; (try with_reducible rfl)
      simp only [List.setIfInBounds_toArray, List.set_cons_zero, List.set_cons_succ]
      refine wpAnyH_takeD (i := 8) (d := 69) (v := ?_) rfl rfl (by kernel_rfl) (by kernel_rfl) (by kernel_rfl) (fun _ _ _ h => h) (Or.inl ⟨by rfl, ?_⟩) (by assumption) ?_
      rotate_left 1
      · intro w hSw; (try dsimp only at hSw); go_simp; (try with_reducible rfl)
      simp only [List.setIfInBounds_toArray, List.set_cons_zero, List.set_cons_succ]
      refine wpAnyH_done (by kernel_rfl) ?_ _
      clear hHeld c0 c1 d0 d1
      go_wp2_with fail
      go_roundw
      case rel => exact ⟨i + 1, HIK.out, by go_num, BI.out⟩
      case measure => have := HIK.out; simp [intOf]; omega
    · obtain rfl : i = len0 := by omega
      have hltI : ¬ (i : Int) < (i : Int) := by omega
      clear hi hlt
      go_wp2_with fail
      refine (awake _).mono ?_
      rintro e w10 ⟨rfl, hb⟩
      go_wp2_with fail
      go_ret
      exact ⟨rfl, (B.out.trans (BI.out.mono B.out.size)).trans (hb.mono (Nat.le_trans B.out.size BI.out.size))⟩

set_option maxRecDepth 100000 in
theorem lifted (os : Os) (started : os.Started) (H : Type) (enc : TypeId × Value → H) :
    ReturnsInHanded {} Try.checked os 4 .any (Rows.regionAllSpec.pre6 enc Try.prog Try.f4 Rows.regionAllRow.domain false) (Rows.regionAllSpec.post enc Try.prog Try.f4 false true false false) := by
  refine returnsInHanded_of_change (C := Try.checked) own started (by kernel_rfl) Try.func4
    (ChangeSpec.witness6 (enc := enc) (C := Try.checked) false ⟨#[], #[.slice none 0 0, .int .i64 0, .int .i64 0], []⟩ 8 (by kernel_rfl) (by kernel_rfl) (by kernel_rfl) (by kernel_rfl)) ?_
  intro W base args ds gs before hval0 hW hcnd _
  have hval : ∀ (j : Nat) t v, Try.f4.params[j]? = some t → args[j]? = some v → Value.okWide Try.prog W .any base t v := hval0
  have hW' := hW
  obtain ⟨p, q, hA0, hV, rfl, hfz, hnd⟩ := hW
  have hA : DataW.TrodAll enc Try.prog W 0 (fun _ => true) true Try.f4.params.toList args.toList ds p := hA0
  rw [Try.params4] at hA hval
  obtain ⟨v0, vs0, d0, ds0, p0, q0, hargs, rfl, rfl, h0, r0⟩ := trodAll_cons hA
  obtain ⟨v1, vs1, d1, ds1, p1, q1, rfl, rfl, rfl, h1, r1⟩ := trodAll_cons r0
  obtain ⟨v2, vs2, d2, ds2, p2, q2, rfl, rfl, rfl, h2, r2⟩ := trodAll_cons r1
  obtain ⟨rfl, rfl, rfl⟩ := trodAll_nil r2
  obtain rfl : args = #[v0, v1, v2] := by cases args; simp_all
  obtain ⟨rfl, rfl⟩ := trodVars_none hV
  have k0 := h0
  have lt0 : ∀ x ∈ p0, x.block < W.heap.size := by obtain ⟨m, hm⟩ := k0; exact DataW.trod_lt m _ _ _ hm
  obtain ⟨a0, len0, cap0, l0, rfl, w0⟩ := open_regs (hval 0 30 v0 rfl rfl) h0
  obtain ⟨a1, rfl, rfl, rfl, w1⟩ := open_int Try.underlying3 (hval 1 3 v1 rfl rfl) h1
  obtain ⟨a2, rfl, rfl, rfl, w2⟩ := open_int Try.underlying3 (hval 2 3 v2 rfl rfl) h2
  clear hA0 hval0
  refine (walk a0 len0 cap0 l0 a1 a2 W w0 w1 w2).mono fun e W' ⟨he, bel⟩ => ?_
  subst he
  exact ⟨_, rfl, _, _, _, [], _, [], hW', trodAll_mk1 (shut_bool Try.underlying4 _), (trodAll_cons_mk (Below.trod laidOut (by kernel_rfl) (of_decide_eq_true (by kernel_rfl)) k0 bel lt0) (trodAll_cons_mk (shut_int Try.underlying3 w1) (trodAll_cons_mk (shut_int Try.underlying3 w2) trodAll_mk0))), rfl, bel.frame _, fun h => by cases h⟩

theorem over : Rows.regionAllRow.holds Try.pinned (OpenSpec.ofChange Rows.regionAllSpec) :=
  OpenClaim.holds_of_wide 4 Try.f4 rfl rfl rfl rfl rfl rfl rfl ⟨rfl, rfl, rfl, rfl, rfl⟩ rfl rfl rfl rfl rfl (by kernel_rfl) Try.func4 (by kernel_rfl)
    (of_decide_eq_true (by kernel_rfl)) (by unfold Func.isWrapper; first | (rw [if_pos (by decide +kernel)]; kernel_rfl) | (rw [if_neg (by decide +kernel)]; exact ⟨rfl, rfl⟩))
    (fun os started H enc _ => lifted os started H enc)

theorem proved : Rows.RegionAllSaid := over
end Go.Proofs.Ytggnpnicmjjfbaa.regionAll
