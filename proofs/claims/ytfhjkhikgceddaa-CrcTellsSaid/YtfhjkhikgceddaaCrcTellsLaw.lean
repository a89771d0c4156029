/- For any row of at most 2000 bytes, any place and any number put over four bytes of it by exclusive or the law CrcTells of citadellaw02 returns true: the sums are one just if the number is nought. Conditions: none beyond those that the statement itself prints. -/
import Derived.Test.YtfhjkhikgceddaaRows
import Derived.Test.YtfhjkhikgceddaaCrcAwake
import Derived.Test.YtfhjkhikgceddaaCrcPatch
import Derived.Test.YtfhjkhikgceddaaSlice
import Derived.RegionTactic
import Derived.WalkKit
import Derived.ProofKit
import Derived.OpenShut
import Derived.ShutString
import Derived.ChangeOld
import Derived.Below
namespace Go.Proofs.Ytfhjkhikgceddaa.crcTells
open Go.ChangeShapes Go.WideShapes Go.ChangeAt Go.RowKit
open Go.ChangeMaps (open_string shut_string)
set_option linter.unusedVariables false

theorem own : ownKnob Try.prog.godebug = none := by kernel_rfl
theorem laidOut : laidOutB Try.prog = true := by kernel_rfl

def TellRel (B g n c p gz : Nat) (xs zs : List UInt8) (w : World) (i : Value) (wr : World) : Prop :=
  ∃ k : Nat, k ≤ 4 ∧ i = .int .i64 (k : Int) ∧ wr.ownsRow B 5 1 (.slice (some ⟨g, 0, none⟩) n c) n ((patch xs p zs k).map bval) ∧ Rd wr (gz + 1) (some ⟨gz, 0, none⟩) 4 zs ∧ Below B w wr
theorem xor_u8 (a b : UInt8) : bits .xor .u8 (a.toNat : Int) (b.toNat : Int) = ((a ^^^ b).toNat : Int) := by
  rw [UInt8.toNat_xor]
  exact u8_xor_nat _ _ a.toNat_lt b.toNat_lt
set_option maxRecDepth 100000 in
set_option maxHeartbeats 2000000 in
theorem walk (a0 : Option Addr) (len0 cap0 : Nat) (z0 : List Int) (a1 : Int) (a2 : Int) (w : World) (w0 : IsRow .u8 w a0 len0 cap0 z0) (w1 : (Lit.int .i64 a1).wf = true) (w2 : (Lit.int .u32 a2).wf = true) :
    Calls Try.prog 6 #[.slice a0 len0 cap0, .int .i64 a1, .int .u32 a2] w fun e w' => e = .returned (.bool true) ∧ Below w.heap.size w w' := by
  obtain ⟨r0, hcap0, hcap0'⟩ := w0.rd
  obtain ⟨hn1, hn2⟩ := wf_i64 w1
  obtain ⟨over, rfl, ho⟩ := wf_u32 w2
  generalize bytesIn (z0.take len0) = xs at r0
  clear w0 w1 w2
  have R := Lib.hid r0
  clear r0
  by_cases hout : 2000 < len0 ∨ a1 < 0 ∨ (len0 : Int) - 4 < a1
  · go_enter Try.func6, Try.ntmps6
    go_wp2_with fail
    refine (awake w).mono ?_
    rintro e w1 ⟨rfl, hb⟩
    have B := Lib.hid hb
    clear hb
    by_cases h1 : 2000 < len0
    · go_wp2_with fail
      go_ret
      exact ⟨rfl, B.out⟩
    by_cases h2 : a1 < 0
    · go_wp2_with fail
      go_ret
      exact ⟨rfl, B.out⟩
    have h3 : (len0 : Int) - 4 < a1 := by omega
    go_wp2_with fail
    go_ret
    exact ⟨rfl, B.out⟩
  obtain ⟨p, rfl⟩ := Int.eq_ofNat_of_zero_le (show 0 ≤ a1 by omega)
  have hl : len0 ≤ 2000 := by omega
  have hp : p + 4 ≤ len0 := by omega
  have hpI : ¬ ((len0 : Int) - 4 < (p : Int)) := by omega
  have hdm : decide ((len0 : Int) - 4 < (p : Int)) = false := decide_eq_false hpI
  clear hout hn1 hn2
  go_enter Try.func6, Try.ntmps6
  go_wp2_with fail
  refine (awake w).mono ?_
  rintro e w1 ⟨rfl, hb⟩
  have BW := Lib.hid hb
  replace R := Lib.hid (R.out.to hb)
  have R1 := R
  clear hb
  go_wp2_with fail
  refine (wCat1 a0 len0 cap0 xs w1 R.out (by omega)).mono ?_
  rintro e w2 ⟨A2, n2, c2, rfl, hown2, hb⟩
  have M := Lib.hid (Rd.of_own hown2)
  obtain rfl : n2 = len0 := by rw [← M.out.1, R.out.1]
  obtain ⟨g, rfl, hg⟩ := own_head hown2 (by omega)
  have O := Lib.hid hown2
  have B := Lib.hid hb
  replace R := Lib.hid (R.out.to hb)
  have hs2 := hb.size
  have hgM := M.out.blk (show 0 < n2 by omega)
  clear hown2 hb
  go_wp2_with fail
  refine (wPut32 over w2 ho).mono ?_
  rintro e w3 ⟨A3, n3, c3, rfl, hown3, hb⟩
  have Z := Lib.hid (Rd.of_own hown3)
  obtain rfl : n3 = 4 := by rw [← Z.out.1, enc_len]
  obtain ⟨gz, rfl, hgz⟩ := own_head hown3 (by decide)
  clear hown3
  replace R := Lib.hid (R.out.to hb)
  replace M := Lib.hid (M.out.to hb)
  replace O := Lib.hid (own_below O.out hb)
  replace B := Lib.hid (B.out.trans (hb.mono B.out.size))
  clear hb
  go_wp2_with fail
  have hz0 : Rd w3 (gz + 1) (some ⟨gz, 0, none⟩) 4 (enc over 4) := by
    refine ⟨Z.out.1, fun _ => ⟨gz, 0, rfl, by omega, fun j hj => ?_⟩⟩
    have := Z.out.at hj
    simpa using this
  have HZ := Lib.hid hz0
  have HL : Hid ((enc over 4).length = 4) := enc_len _ _
  have HT := Lib.hid (tells (xs := xs) (p := p) (over := over) (by rw [M.out.1]; exact hp) ho)
  have HX := Lib.hid M.out.1
  clear hz0 Z M
  generalize enc over 4 = zs at *
  go_loopw [9] (fun i wr => TellRel w1.heap.size g n2 c2 p gz xs zs w1 i wr) (fun i _ => 4 - (intOf i).toNat)
  case atStart => exact ⟨0, Nat.zero_le _, rfl, O.out, HZ.out, B.out⟩
  case round =>
    obtain ⟨k, hk, rfl, hown, hz, hb⟩ := hrel
    by_cases hlt : k < 4
    · have hltI : (k : Int) < 4 := by omega
      have HK := Lib.hid hlt
      have hcz := hz.at (j := k) hlt
      rw [Nat.zero_add] at hcz
      obtain ⟨q, hq⟩ : ∃ q, q = p + k := ⟨_, rfl⟩
      have hqn : q < n2 := by omega
      obtain ⟨hcell, hfr⟩ := own_cell (j := q) hown hqn
      have hx := xor_u8 ((patch xs p zs k).getD q 0) (zs.getD k 0)
      change bits .xor .u8 (nth (patch xs p zs k) q : Int) (nth zs k : Int) = _ at hx
      generalize hy : (patch xs p zs k).getD q 0 ^^^ zs.getD k 0 = y at *
      have HY := Lib.hid hy
      clear hy
      have hw : IntKind.i64.wrap ((p : Int) + (k : Int)) = (q : Int) := by rw [hq]; exact IntWalk.i64_in _ (by omega)
      have HQ := Lib.hid hq
      clear hq
      have HO := Lib.hid hown
      have HZ' := Lib.hid hz
      have HB := Lib.hid hb
      clear hown hz hb hlt hk
      go_wp2_with fail
      go_region
      all_goals
        go_wp2
        go_roundw
        case rel =>
          have h := own_set (j := q) HO.out HB.out y rfl hg
          refine ⟨k + 1, by have := HK.out; omega, by go_num, ?_, ?_, ?_⟩
          · rw [patch, ← HQ.out, HY.out]; exact h.1
          · exact HZ'.out.setOther _ _ (by show gz ≠ g; omega)
          · exact h.2.drew
        case measure => simp [intOf]; omega
    · obtain rfl : k = 4 := by omega
      have M := Lib.hid (Rd.of_own hown)
      replace R := Lib.hid (R1.out.to hb)
      have B4 := Lib.hid (BW.out.trans (hb.mono BW.out.size))
      clear hown hz hb O B HZ R1 BW
      have p1 := HT.out
      go_wp2_with fail
      refine (wSum a0 n2 cap0 xs wr R.out (by omega)).mono ?_
      rintro e w5 ⟨rfl, hb⟩
      replace M := Lib.hid (M.out.to hb)
      replace B4 := Lib.hid (B4.out.trans (hb.mono B4.out.size))
      clear hb
      go_wp2_with fail
      refine (wSum _ n2 c2 (patch xs p zs 4) w5 M.out (by omega)).mono ?_
      rintro e w6 ⟨rfl, hb⟩
      replace B4 := Lib.hid (B4.out.trans (hb.mono B4.out.size))
      clear hb
      generalize crcSum xs = u1 at *
      generalize crcSum (patch xs p zs 4) = u2 at *
      by_cases h0 : over = 0
      · have e1 : u1 = u2 := p1.2 h0
        subst h0
        subst e1
        clear p1 HT
        go_wp2_with fail
        go_ret
        exact ⟨rfl, B4.out⟩
      · have e1 : ¬ u1 = u2 := fun h => h0 (p1.1 h)
        have f1 : ((u1 : Int) == (u2 : Int)) = false := by simp; omega
        have f2 : (u1 == u2) = false := by simp; exact e1
        have f3 : ((over : Int) == 0) = false := by simp; omega
        have f4 : (over == 0) = false := by simp; exact h0
        clear p1 HT e1 h0
        go_wp2_with fail
        go_ret
        exact ⟨rfl, B4.out⟩

set_option maxRecDepth 100000 in
theorem lifted (os : Os) (started : os.Started) (H : Type) (enc : TypeId × Value → H) :
    ReturnsInHanded {} Try.checked os 6 .any (Rows.crcTellsSpec.pre6 enc Try.prog Try.f6 Rows.crcTellsRow.domain false) (Rows.crcTellsSpec.post enc Try.prog Try.f6 false true false false) := by
  refine returnsInHanded_of_change (C := Try.checked) own started (by kernel_rfl) Try.func6
    (ChangeSpec.witness6 (enc := enc) (C := Try.checked) false ⟨#[], #[.slice none 0 0, .int .i64 0, .int .u32 0], []⟩ 8 (by kernel_rfl) (by kernel_rfl) (by kernel_rfl) (by kernel_rfl)) ?_
  intro W base args ds gs before hval0 hW hcnd _
  have hval : ∀ (j : Nat) t v, Try.f6.params[j]? = some t → args[j]? = some v → Value.okWide Try.prog W .any base t v := hval0
  have hW' := hW
  obtain ⟨p, q, hA0, hV, rfl, hfz, hnd⟩ := hW
  have hA : DataW.TrodAll enc Try.prog W 0 (fun _ => true) true Try.f6.params.toList args.toList ds p := hA0
  rw [Try.params6] at hA hval
  obtain ⟨v0, vs0, d0, ds0, p0, q0, hargs, rfl, rfl, h0, r0⟩ := trodAll_cons hA
  obtain ⟨v1, vs1, d1, ds1, p1, q1, rfl, rfl, rfl, h1, r1⟩ := trodAll_cons r0
  obtain ⟨v2, vs2, d2, ds2, p2, q2, rfl, rfl, rfl, h2, r2⟩ := trodAll_cons r1
  obtain ⟨rfl, rfl, rfl⟩ := trodAll_nil r2
  obtain rfl : args = #[v0, v1, v2] := by cases args; simp_all
  obtain ⟨rfl, rfl⟩ := trodVars_none hV
  obtain ⟨a0, len0, cap0, rfl⟩ := okWide_slice Try.underlying23 (hval 0 23 v0 rfl rfl)
  have k0 := h0
  have lt0 : ∀ x ∈ p0, x.block < W.heap.size := by obtain ⟨m, hm⟩ := k0; exact DataW.trod_lt m _ _ _ hm
  obtain ⟨z0, w0⟩ : ∃ zs, IsRow .u8 W a0 len0 cap0 zs := by
    obtain ⟨fuel, hf⟩ := h0
    rcases open_ints Try.underlying23 Try.underlying5 (by kernel_rfl) hf with ⟨hcs, _⟩ | ⟨x, l, c, zs, hcs, _, hl, hm, hz, _, hcell, hwz⟩
    · simp [Value.cells] at hcs
      obtain ⟨rfl, rfl, rfl⟩ := hcs
      exact ⟨[], .inl ⟨rfl, rfl, rfl, rfl⟩⟩
    · simp [Value.cells] at hcs
      obtain ⟨rfl, rfl, rfl⟩ := hcs
      exact ⟨zs, .inr ⟨_, rfl, hl, hm, by simpa using hz, hcell, hwz⟩⟩
  obtain ⟨a1, rfl, rfl, rfl, w1⟩ := open_int Try.underlying3 (hval 1 3 v1 rfl rfl) h1
  obtain ⟨a2, rfl, rfl, rfl, w2⟩ := open_int Try.underlying22 (hval 2 22 v2 rfl rfl) h2
  clear hA0 hval0
  refine (walk a0 len0 cap0 z0 a1 a2 W w0 w1 w2).mono fun e W' ⟨he, bel⟩ => ?_
  subst he
  exact ⟨_, rfl, _, _, _, [], _, [], hW', trodAll_mk1 (shut_bool Try.underlying4 _), (trodAll_cons_mk (Below.trod laidOut (by kernel_rfl) (of_decide_eq_true (by kernel_rfl)) k0 bel lt0) (trodAll_cons_mk (shut_int Try.underlying3 w1) (trodAll_cons_mk (shut_int Try.underlying22 w2) trodAll_mk0))), rfl, bel.frame _, fun h => by cases h⟩

theorem over : Rows.crcTellsRow.holds Try.pinned (OpenSpec.ofChange Rows.crcTellsSpec) :=
  OpenClaim.holds_of_wide 6 Try.f6 rfl rfl rfl rfl rfl rfl rfl ⟨rfl, rfl, rfl, rfl, rfl⟩ rfl rfl rfl rfl rfl (by kernel_rfl) Try.func6 (by kernel_rfl)
    (of_decide_eq_true (by kernel_rfl)) (by unfold Func.isWrapper; first | (rw [if_pos (by decide +kernel)]; kernel_rfl) | (rw [if_neg (by decide +kernel)]; exact ⟨rfl, rfl⟩))
    (fun os started H enc _ => lifted os started H enc)


theorem proved : Rows.CrcTellsSaid := over
end Go.Proofs.Ytfhjkhikgceddaa.crcTells
