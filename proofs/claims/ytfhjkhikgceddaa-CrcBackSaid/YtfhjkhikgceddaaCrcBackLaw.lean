/- For any row of at most 1000 bytes, any place and any byte the law CrcBack of citadellaw02 returns true: what was put is checked as it was; with one byte otherwise it isn't. Conditions: none beyond those that the statement itself prints. -/
import Derived.Test.YtfhjkhikgceddaaRows
import Derived.Test.YtfhjkhikgceddaaCrcAwake
import Derived.Test.YtfhjkhikgceddaaCrcPatch
import Derived.Test.YtfhjkhikgceddaaSlice
import Derived.WalkKit
import Derived.ProofKit
import Derived.OpenShut
import Derived.ShutString
import Derived.ChangeOld
import Derived.Below
namespace Go.Proofs.Ytfhjkhikgceddaa.crcBack
open Go.ChangeShapes Go.WideShapes Go.ChangeAt Go.RowKit
open Go.ChangeMaps (open_string shut_string)
set_option linter.unusedVariables false

theorem own : ownKnob Try.prog.godebug = none := by kernel_rfl
theorem laidOut : laidOutB Try.prog = true := by kernel_rfl

theorem chk_put (xs : List UInt8) : chkOk (xs ++ enc (crcSum xs) 4) = true ∧ chkOf (xs ++ enc (crcSum xs) 4) = xs := by
  have hl : (xs ++ enc (crcSum xs) 4).length - 4 = xs.length := by rw [List.length_append, enc_len]; omega
  have ht : (xs ++ enc (crcSum xs) 4).take xs.length = xs := List.take_left' rfl
  have h : chkOk (xs ++ enc (crcSum xs) 4) = true := by
    unfold chkOk
    rw [hl, ht]
    simp [enc_len]
  exact ⟨h, by unfold chkOf; rw [if_pos h, hl, ht]⟩
theorem enc_inj {a b : Nat} (ha : a < 4294967296) (hb : b < 4294967296) (h : enc a 4 = enc b 4) : a = b := by
  have e := congrArg num h
  rw [num_enc, num_enc] at e
  omega
theorem chk_turn (xs : List UInt8) (p : Nat) (o : UInt8) (h : p < (xs ++ enc (crcSum xs) 4).length) (ho : o ≠ 0) :
    chkOk ((xs ++ enc (crcSum xs) 4).set p ((xs ++ enc (crcSum xs) 4).getD p 0 ^^^ o)) = false := by
  have hl : ((xs ++ enc (crcSum xs) 4).set p ((xs ++ enc (crcSum xs) 4).getD p 0 ^^^ o)).length - 4 = xs.length := by rw [List.length_set, List.length_append, enc_len]; omega
  unfold chkOk
  rw [hl]
  refine decide_eq_false fun hh => ?_
  have hh := hh.2
  by_cases hp : p < xs.length
  · have e1 : (xs ++ enc (crcSum xs) 4).getD p 0 = xs.getD p 0 := by simp [List.getD, List.getElem?_append_left hp]
    rw [e1, List.set_append_left _ _ hp, List.take_left' (by simp)] at hh
    have e2 := List.append_cancel_left hh
    have e3 := enc_inj (crcSum_lt _) (crcSum_lt _) e2
    have e4 : patch xs p [o] 1 = xs.set p (xs.getD p 0 ^^^ o) := by simp [patch]
    have e5 := (patch_sum (xs := xs) (p := p) (zs := [o]) (by simp; omega) (by simp)).1 (by
      show crcSum xs = crcSum (patch xs p [o] 1)
      rw [e4]; exact e3.symm)
    simp at e5
    exact ho e5
  · rw [List.take_set_of_le (by omega), List.take_left' rfl] at hh
    have e := congrArg (fun l : List UInt8 => l.getD p 0) hh
    rw [getD_set h, if_pos rfl] at e
    have e2 : o = 0 := by
      have := congrArg (fun z => (xs ++ enc (crcSum xs) 4).getD p 0 ^^^ z) e
      simp only [← UInt8.xor_assoc, UInt8.xor_self, UInt8.zero_xor] at this
      exact this.symm
    exact ho e2
theorem xor_u8 (a b : UInt8) : bits .xor .u8 (a.toNat : Int) (b.toNat : Int) = ((a ^^^ b).toNat : Int) := by
  rw [UInt8.toNat_xor]
  exact u8_xor_nat _ _ a.toNat_lt b.toNat_lt
set_option maxRecDepth 100000 in
set_option maxHeartbeats 2000000 in
theorem walk (a0 : Option Addr) (len0 cap0 : Nat) (z0 : List Int) (a1 : Int) (a2 : Int) (w : World) (w0 : IsRow .u8 w a0 len0 cap0 z0) (w1 : (Lit.int .i64 a1).wf = true) (w2 : (Lit.int .u8 a2).wf = true) :
    Calls Try.prog 8 #[.slice a0 len0 cap0, .int .i64 a1, .int .u8 a2] w fun e w' => e = .returned (.bool true) ∧ Below w.heap.size w w' := by
  obtain ⟨r0, hcap0, hcap0'⟩ := w0.rd
  obtain ⟨hn1, hn2⟩ := wf_i64 w1
  obtain ⟨o, rfl⟩ : ∃ o : UInt8, a2 = (o.toNat : Int) := by
    obtain ⟨n, rfl, hn⟩ := wf_u8' w2
    refine ⟨UInt8.ofNat n, ?_⟩
    have : (UInt8.ofNat n).toNat = n % 256 := UInt8.toNat_ofNat'
    omega
  generalize bytesIn (z0.take len0) = xs at r0
  clear w0 w1 w2
  have R := Lib.hid r0
  clear r0
  by_cases hout : 1000 < len0
  · go_enter Try.func8, Try.ntmps8
    go_wp2_with fail
    refine (awake w).mono ?_
    rintro e w1 ⟨rfl, hb⟩
    have B := Lib.hid hb
    clear hb
    go_wp2_with fail
    go_ret
    exact ⟨rfl, B.out⟩
  have hl : len0 ≤ 1000 := by omega
  clear hout
  go_enter Try.func8, Try.ntmps8
  go_wp2_with fail
  refine (awake w).mono ?_
  rintro e w1 ⟨rfl, hb⟩
  have B := Lib.hid hb
  replace R := Lib.hid (R.out.to hb)
  clear hb
  go_wp2_with fail
  refine (wCrcPut a0 len0 cap0 xs w1 R.out (by omega)).mono ?_
  rintro e w2 ⟨A2, n2, c2, rfl, hown2, hb⟩
  have M := Lib.hid (Rd.of_own hown2)
  obtain rfl : n2 = len0 + 4 := by rw [← M.out.1, List.length_append, enc_len, R.out.1]
  obtain ⟨g, rfl, hg⟩ := own_head hown2 (by omega)
  obtain ⟨hc2, hc2'⟩ := own_cap hown2
  have O := Lib.hid hown2
  have hs1 := B.out.size
  clear hown2
  replace R := Lib.hid (R.out.to hb)
  replace B := Lib.hid (B.out.trans (hb.mono B.out.size))
  clear hb
  have HP := Lib.hid (chk_put xs)
  have HQ := Lib.hid (chk_turn xs)
  generalize hps : xs ++ enc (crcSum xs) 4 = ps at *
  have HPS := Lib.hid hps
  clear hps
  go_wp2_with fail
  refine (wCheck _ (len0 + 4) c2 ps w2 M.out (by omega) hc2 hc2').mono ?_
  rintro e w3 ⟨A3, n3, c3, rfl, hown3, hb⟩
  have C := Lib.hid (Rd.of_own hown3)
  rw [HP.out.2] at C
  rw [HP.out.1]
  obtain rfl : n3 = len0 := by rw [← C.out.1, R.out.1]
  clear hown3 M
  replace R := Lib.hid (R.out.to hb)
  replace O := Lib.hid (own_below O.out hb)
  replace B := Lib.hid (B.out.trans (hb.mono B.out.size))
  clear hb
  go_wp2_with fail
  refine (wSame A3 a0 n3 n3 c3 cap0 _ xs xs w3 C.out R.out).mono ?_
  rintro e w' ⟨rfl, rfl⟩
  rw [show decide (xs = xs) = true from decide_eq_true rfl]
  clear C R
  have hL : ps.length = n3 + 4 := by simpa using O.out.1
  have HL := Lib.hid hL
  clear hL
  by_cases hbad : a1 < 0 ∨ (n3 : Int) + 4 ≤ a1 ∨ o = 0
  · by_cases h1 : a1 < 0
    · go_wp2_with fail
      go_ret
      exact ⟨rfl, B.out⟩
    by_cases h2 : (n3 : Int) + 4 ≤ a1
    · go_wp2_with fail
      go_ret
      exact ⟨rfl, B.out⟩
    obtain rfl : o = 0 := by
      rcases hbad with h | h | h
      · exact absurd h h1
      · exact absurd h h2
      · exact h
    have f1 : ((0 : UInt8).toNat : Int) = 0 := rfl
    rw [f1]
    go_wp2_with fail
    go_ret
    exact ⟨rfl, B.out⟩
  · obtain ⟨q, rfl⟩ := Int.eq_ofNat_of_zero_le (show 0 ≤ a1 by omega)
    have hq : q < n3 + 4 := by omega
    have hqI : ¬ ((n3 : Int) + 4 ≤ (q : Int)) := by omega
    have hqI2 : (q : Int) < (n3 : Int) + 4 := by omega
    have ho : o ≠ 0 := fun h => hbad (.inr (.inr h))
    have ho2 : ¬ o.toNat = 0 := fun h => ho (UInt8.toNat_inj.1 (by simpa using h))
    have f1 : ((o.toNat : Int) == 0) = false := by simp; exact ho2
    have f2 : (o.toNat == 0) = false := by simp; exact ho2
    obtain ⟨hcell, hfr⟩ := own_cell (j := q) O.out hq
    have hx := xor_u8 (ps.getD q 0) o
    change bits .xor .u8 (nth ps q : Int) (o.toNat : Int) = _ at hx
    have HT := Lib.hid (HQ.out q o (by rw [HL.out]; exact hq) ho)
    generalize hy : ps.getD q 0 ^^^ o = y at *
    clear hy HQ hbad ho ho2
    generalize hov : (o.toNat : Int) = ov at *
    clear hov
    have HS := Lib.hid (own_set (j := q) (own_mono O.out hs1) B.out y rfl (Nat.le_trans hs1 hg))
    clear B
    go_wp2_with fail
    have M := Lib.hid (Rd.of_own HS.out.1)
    refine (wCheck _ (n3 + 4) c2 _ _ M.out (by omega) hc2 hc2').mono ?_
    rintro e w5 ⟨A5, n5, c5, rfl, hown5, hb⟩
    rw [HT.out]
    have B := Lib.hid (HS.out.2.trans (hb.mono HS.out.2.size))
    clear hown5 hb
    go_wp2_with fail
    go_ret
    exact ⟨rfl, B.out⟩

set_option maxRecDepth 100000 in
theorem lifted (os : Os) (started : os.Started) (H : Type) (enc : TypeId × Value → H) :
    ReturnsInHanded {} Try.checked os 8 .any (Rows.crcBackSpec.pre6 enc Try.prog Try.f8 Rows.crcBackRow.domain false) (Rows.crcBackSpec.post enc Try.prog Try.f8 false true false false) := by
  refine returnsInHanded_of_change (C := Try.checked) own started (by kernel_rfl) Try.func8
    (ChangeSpec.witness6 (enc := enc) (C := Try.checked) false ⟨#[], #[.slice none 0 0, .int .i64 0, .int .u8 0], []⟩ 8 (by kernel_rfl) (by kernel_rfl) (by kernel_rfl) (by kernel_rfl)) ?_
  intro W base args ds gs before hval0 hW hcnd _
  have hval : ∀ (j : Nat) t v, Try.f8.params[j]? = some t → args[j]? = some v → Value.okWide Try.prog W .any base t v := hval0
  have hW' := hW
  obtain ⟨p, q, hA0, hV, rfl, hfz, hnd⟩ := hW
  have hA : DataW.TrodAll enc Try.prog W 0 (fun _ => true) true Try.f8.params.toList args.toList ds p := hA0
  rw [Try.params8] at hA hval
  obtain ⟨v0, vs0, d0, ds0, p0, q0, hargs, rfl, rfl, h0, r0⟩ := trodAll_cons hA
  obtain ⟨v1, vs1, d1, ds1, p1, q1, rfl, rfl, rfl, h1, r1⟩ := trodAll_cons r0
  obtain ⟨v2, vs2, d2, ds2, p2, q2, rfl, rfl, rfl, h2, r2⟩ := trodAll_cons r1
  obtain ⟨rfl, rfl, rfl⟩ := trodAll_nil r2
  obtain rfl : args = #[v0, v1, v2] := by cases args; simp_all
  obtain ⟨rfl, rfl⟩ := trodVars_none hV
  obtain ⟨a0, len0, cap0, rfl⟩ := okWide_slice Try.underlying23 (hval 0 23 v0 rfl rfl)
  have k0 := h0
  have lt0 : ∀ x ∈ p0, x.block < W.heap.size := by obtain ⟨m, hm⟩ := k0; exact DataW.trod_lt m _ _ _ hm
  obtain ⟨z0, w0⟩ : ∃ zs, IsRow .u8 W a0 len0 cap0 zs := by
    obtain ⟨fuel, hf⟩ := h0
    rcases open_ints Try.underlying23 Try.underlying5 (by kernel_rfl) hf with ⟨hcs, _⟩ | ⟨x, l, c, zs, hcs, _, hl, hm, hz, _, hcell, hwz⟩
    · simp [Value.cells] at hcs
      obtain ⟨rfl, rfl, rfl⟩ := hcs
      exact ⟨[], .inl ⟨rfl, rfl, rfl, rfl⟩⟩
    · simp [Value.cells] at hcs
      obtain ⟨rfl, rfl, rfl⟩ := hcs
      exact ⟨zs, .inr ⟨_, rfl, hl, hm, by simpa using hz, hcell, hwz⟩⟩
  obtain ⟨a1, rfl, rfl, rfl, w1⟩ := open_int Try.underlying3 (hval 1 3 v1 rfl rfl) h1
  obtain ⟨a2, rfl, rfl, rfl, w2⟩ := open_int Try.underlying5 (hval 2 5 v2 rfl rfl) h2
  clear hA0 hval0
  refine (walk a0 len0 cap0 z0 a1 a2 W w0 w1 w2).mono fun e W' ⟨he, bel⟩ => ?_
  subst he
  exact ⟨_, rfl, _, _, _, [], _, [], hW', trodAll_mk1 (shut_bool Try.underlying4 _), (trodAll_cons_mk (Below.trod laidOut (by kernel_rfl) (of_decide_eq_true (by kernel_rfl)) k0 bel lt0) (trodAll_cons_mk (shut_int Try.underlying3 w1) (trodAll_cons_mk (shut_int Try.underlying5 w2) trodAll_mk0))), rfl, bel.frame _, fun h => by cases h⟩

theorem over : Rows.crcBackRow.holds Try.pinned (OpenSpec.ofChange Rows.crcBackSpec) :=
  OpenClaim.holds_of_wide 8 Try.f8 rfl rfl rfl rfl rfl rfl rfl ⟨rfl, rfl, rfl, rfl, rfl⟩ rfl rfl rfl rfl rfl (by kernel_rfl) Try.func8 (by kernel_rfl)
    (of_decide_eq_true (by kernel_rfl)) (by unfold Func.isWrapper; first | (rw [if_pos (by decide +kernel)]; kernel_rfl) | (rw [if_neg (by decide +kernel)]; exact ⟨rfl, rfl⟩))
    (fun os started H enc _ => lifted os started H enc)


theorem proved : Rows.CrcBackSaid := over
end Go.Proofs.Ytfhjkhikgceddaa.crcBack
