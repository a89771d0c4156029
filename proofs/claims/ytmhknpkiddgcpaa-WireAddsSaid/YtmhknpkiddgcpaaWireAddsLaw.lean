/- For any fields the law WireAdds of citadellaw05 returns true: fields added to wire's writer are the form that the chapter says, after each of them. Conditions: none beyond those that the statement itself prints. -/
import Derived.Test.YtmhknpkiddgcpaaRows
import Derived.Test.YtmhknpkiddgcpaaWireAddsK
import Derived.Test.YtmhknpkiddgcpaaFldW
import Derived.SizedLaws
import Derived.WalkKit
import Derived.ProofKit
import Derived.OpenShut
import Derived.ShutString
import Derived.ChangeOld
import Derived.Below
namespace Go.Proofs.Ytmhknpkiddgcpaa.wireAdds
open Go.ChangeShapes Go.WideShapes Go.ChangeAt Go.RowKit
open Go.ChangeMaps (open_string shut_string)
set_option linter.unusedVariables false
set_option linter.unusedSimpArgs false

theorem own : ownKnob Try.prog.godebug = none := by kernel_rfl
theorem laidOut : laidOutB Try.prog = true := by kernel_rfl

def AddsRel (w : World) (n gw : Nat) (fs : List Fld) (v i : Value) (wr : World) : Prop :=
  ∃ (k : Nat) (F : Nat → Prop), k ≤ n ∧ i = .int .i64 (k : Int) ∧ WrAt wr gw F (formF fs k) false ∧ (∀ k, F k → w.heap.size ≤ k) ∧ wr.ownsRow w.heap.size 5 1 v (formF fs k).length ((formF fs k).map bval) ∧ (∀ b, v.ownBlock = some b → ¬ F b) ∧ Below w.heap.size w wr ∧ (formF fs k).length ≤ sumF (fs.take k)
set_option maxRecDepth 100000 in
set_option maxHeartbeats 4000000 in
theorem walk (a0 : Option Addr) (len0 cap0 : Nat) (fs0 : List Fld) (w : World) (w0 : RdF w w.heap.size a0 len0 fs0 ∧ len0 ≤ cap0 ∧ cap0 * 88 ≤ 140737488351232) :
    Calls Try.prog 3 #[.slice a0 len0 cap0] w fun e w' => e = .returned (.bool true) ∧ Below w.heap.size w w' := by
  obtain ⟨r0, hcap0, hcap0'⟩ := w0
  have R := Lib.hid r0
  clear r0
  obtain ⟨big, hbig⟩ : ∃ b, decide (5000 < sumF fs0) = b := ⟨_, rfl⟩
  go_enter Try.func3, Try.ntmps3
  go_wp2_with fail
  refine (rGreat a0 len0 cap0 _ fs0 w R.out (by omega)).mono ?_
  rw [hbig]
  rintro e w' ⟨rfl, rfl⟩
  cases big
  rotate_left 1
  · go_wp2_with fail
    go_ret
    exact ⟨rfl, Below.refl _ _⟩
  have HSUM : Hid (sumF fs0 ≤ 5000) := by (show _ ≤ _); have := of_decide_eq_false hbig; omega
  clear hbig
  go_wp2_with fail
  refine (wNew w).mono ?_
  rintro e w1 ⟨gw, F, rfl, hw, hF, hb⟩
  have W := Lib.hid hw
  have HF := Lib.hid hF
  have B := Lib.hid hb
  clear hw hF hb
  go_wp2_with fail
  go_loopw [4, 5, 6, 7, 8] (fun v i _ _ _ wr => AddsRel w len0 gw fs0 v i wr) (fun _ i _ _ _ _ => len0 - (intOf i).toNat)
  case atStart =>
    refine ⟨0, F, Nat.zero_le _, rfl, W.out, HF.out, ?_, ?_, B.out, Nat.zero_le _⟩
    · exact World.ownsRow_nil _ _ _ _
    · intro b h
      simp [Value.ownBlock] at h
  case round =>
    clear W HF B
    obtain ⟨k, F, hk, rfl, hw, hF, hown, hoff, hb, hlen⟩ := hrel
    have W := Lib.hid hw
    have HF := Lib.hid hF
    have O := Lib.hid hown
    have HOFF := Lib.hid hoff
    have B := Lib.hid hb
    have HK := Lib.hid hk
    have HLEN := Lib.hid hlen
    clear hw hF hown hoff hb hk hlen
    by_cases hlt : k < len0
    · obtain ⟨b, o, rfl, hbo, hc⟩ := R.out.2 (by omega)
      obtain ⟨A', m, c', h1, h2⟩ := hc k hlt
      have HRNG := Lib.hid h1
      have HOKF := Lib.hid h2
      have HBO := Lib.hid hbo
      have hrng := rangeAt_below h1 B.out hbo
      have hu := Try.underlying31
      have S37 := Lib.hid (show (Try.prog.info? 31).map (·.size) = some (fldL (fs0.getD k Fld.zero) A' m c').length by rw [fldL_len h2.tl]; kernel_rfl)
      have HSN := Lib.hid (sumF_snoc (fs := fs0) (k := k) (by rw [R.out.1]; exact hlt))
      have HST := Lib.hid (sumF_take fs0 (k + 1))
      have HFS := Lib.hid (formF_succ (fs := fs0) (k := k) (by rw [R.out.1]; exact hlt))
      have HPL := Lib.hid (putF_len (fs0.getD k Fld.zero) h2.tl)
      have HM := Lib.hid h2.rd.1
      have hm5 : m ≤ 5000 := by have := HSUM.out; have := HST.out; have := HSN.out; have := HM.out; omega
      clear hc h1 h2 hbo
      generalize fs0.getD k Fld.zero = f at *
      obtain ⟨fm, hfm⟩ : ∃ l, formF fs0 k = l := ⟨_, rfl⟩
      rw [hfm] at W O HLEN HFS
      clear hfm
      have HL5 : Hid (fm.length + (putF f).length ≤ 5000) := by (show _ ≤ _); have := HSUM.out; have := HST.out; have := HSN.out; have := HM.out; have := HPL.out; have := HLEN.out; omega
      go_wp2_with (refine wpList_load_mid rfl 31 _ rfl b (o + k * 37) rfl (fldL f A' m c') _ hrng hu rfl S37.out ?_)
      refine (rPut f A' m c' wr ((HOKF.out.below B.out).more B.out.size) (by omega)).mono ?_
      rintro e w2 ⟨⟨A2, n2, c2, rfl, hown2, hb⟩, hnil⟩
      have U := Lib.hid (Rd.of_own hown2)
      have HN0 : Hid (n2 = 0 → A2 = none) := fun h0 => by
        have h3 : putF f = [] := List.eq_nil_of_length_eq_zero ((Rd.of_own hown2).1.trans h0)
        have := hnil h3
        simp only [Ending.returned.injEq] at this
        injection this with h4 _ _
      obtain rfl : n2 = (putF f).length := (Rd.of_own hown2).1.symm
      have W2 := Lib.hid (W.out.kept (R := fun _ => False) (Keep.of_below hb) (fun _ _ h => h))
      have O2 := Lib.hid (own_below O.out hb)
      have B2 := Lib.hid (B.out.trans (hb.mono B.out.size))
      clear hown2 hb hnil W O B
      go_wp2_with (first | (at_builtin; refine wpList_pushAllL isU8 rfl _ _ rfl (v := u4) rfl rfl HN0.out O2.out U.out B2.out B2.out.size (by have := HL5.out; omega) ?_; intro v3 w3 hown3 hb3 hk3 hblk3; have hrng3 := rangeAt_below HRNG.out hb3 HBO.out) | (refine wpList_load_mid rfl 31 _ rfl b (o + k * 37) rfl (fldL f A' m c') _ hrng3 hu rfl S37.out ?_))
      have W3 := Lib.hid (W2.out.kept hk3 (fun k hf h => HOFF.out k h hf))
      have O3 : Hid (w3.ownsRow w.heap.size 5 1 v3 (fm ++ putF f).length ((fm ++ putF f).map bval)) := by (show _); rw [List.length_append]; exact hown3
      have HB3 : Hid (∀ b, v3.ownBlock = some b → ¬ F b) := fun b h hf => by
        rcases hblk3 b h with h4 | h4
        · exact HOFF.out b h4 hf
        · have := W2.out.lt b hf; omega
      have B3 := Lib.hid hb3
      clear hown3 hb3 hk3 hblk3 W2 O2 U
      refine (rAdd gw F fm false f A' m c' w3 W3.out ((HOKF.out.below B3.out).more B3.out.size) (by omega) (by have := HL5.out; omega) (HOKF.out.rd.off HF.out)).mono ?_
      have e1 : wForm fm (putF f) false = fm ++ putF f := by unfold wForm; rw [if_pos ⟨rfl, by have := HL5.out; omega⟩]
      have e2 : wBad fm (putF f) false = false := by unfold wBad; rw [if_pos (by have := HL5.out; omega)]
      rintro e w4 ⟨rfl, F4, hw4, hs4, hk4⟩
      rw [e1, e2] at hw4
      have W4 := Lib.hid hw4
      have O4 : Hid (w4.ownsRow w.heap.size 5 1 v3 (fm ++ putF f).length ((fm ++ putF f).map bval)) := own_kept O3.out hk4 HB3.out
      have HB4 : Hid (∀ b, v3.ownBlock = some b → ¬ F4 b) := fun b h hf => by
        rcases hs4 b hf with h4 | h4
        · exact HB3.out b h h4
        · have := (O3.out.lt b h).2; omega
      have HF4 : Hid (∀ k, F4 k → w.heap.size ≤ k) := fun k hf => by
        rcases hs4 k hf with h4 | h4
        · exact HF.out k h4
        · have := B3.out.size; omega
      have B4 := Lib.hid (Keep.below B3.out hk4 B3.out.size HF.out)
      clear e1 e2 hw4 hs4 hk4 W3 O3 HB3 B3 hrng hrng3 hu
      have HL6 : Hid ((fm ++ putF f).length ≤ 5000) := by (show _ ≤ _); rw [List.length_append]; exact HL5.out
      have HREL : Hid (formF fs0 (k + 1) = fm ++ putF f ∧ (fm ++ putF f).length ≤ sumF (fs0.take (k + 1))) := ⟨HFS.out, by rw [List.length_append, HSN.out]; have := HLEN.out; have := HPL.out; omega⟩
      clear HFS HSN HLEN HPL HL5
      generalize fm ++ putF f = form at *
      go_wp2_with fail
      refine (wDone gw F4 form false w4 W4.out).mono ?_
      rintro e w5 ⟨A5, n5, c5, rfl, ho5, hc5, hc5', hb⟩
      obtain rfl : n5 = form.length := ho5.1.1.symm
      have O5 := Lib.hid ho5
      have BT := Lib.hid hb
      clear ho5 hb
      obtain ⟨A6, c6, hv3⟩ := own_slice O4.out
      subst hv3
      have U6 := Lib.hid (Rd.of_own O4.out)
      go_wp2_with fail
      refine (refSameBT A5 A6 form.length form.length c5 c6 _ _ w5 rfl O5.out.1 (U6.out.to BT.out) (by have := HL6.out; omega) (by have := HL6.out; omega)).mono ?_
      rintro e w6 ⟨rfl, hb⟩
      have O6 := Lib.hid (O5.out.to hb)
      replace BT := Lib.hid (BT.out.trans (hb.mono BT.out.size))
      clear hb O5 U6
      have hn5 : form.length ≤ 5000 := HL6.out
      go_wp2_with fail
      go_loopw [8] (fun i wx => IncG w4.heap.size form.length A5 w4 i wx) (fun i _ => form.length - (intOf i).toNat)
      case atStart => exact ⟨0, _, Nat.zero_le _, rfl, O6.out, BT.out⟩
      case round =>
        clear O6 BT
        obtain ⟨j, ys, hj, rfl, ho, hb⟩ := hrel
        have O7 := Lib.hid ho
        have BR := Lib.hid hb
        have HJ := Lib.hid hj
        clear ho hb hj
        by_cases hlt : j < form.length
        · obtain ⟨b7, o7, rfl, hbB, hcell, hfr⟩ := O7.out.cell hlt
          have HN := Lib.hid (u8_inc (nth ys j))
          have hinc := u8_inc (nth ys j)
          have HBB := Lib.hid hbB
          clear hbB
          go_wp2_with fail
          go_roundw
          case rel =>
            refine ⟨j + 1, ys.set j (UInt8.ofNat (nth ys j + 1)), by omega, by go_num, ?_, BR.out.setCell HBB.out _⟩
            first
            | exact O7.out.set hlt _ rfl
            | exact O7.out.set hlt _ HN.out
          case measure => simp [intOf]; omega
        · obtain rfl : j = form.length := by have := HJ.out; omega
          have hk5 : (k : Int) < 140737488351232 := by omega
          go_wp2_with fail
          go_roundw
          case rel =>
            refine ⟨k + 1, F4, by omega, by go_num, ?_, HF4.out, ?_, HB4.out, B4.out.trans (BR.out.mono B4.out.size), ?_⟩
            · rw [HREL.out.1]; exact W4.out.kept (R := fun _ => False) (Keep.of_below BR.out) (fun _ _ h => h)
            · rw [HREL.out.1]; exact own_below O4.out BR.out
            · rw [HREL.out.1]; exact HREL.out.2
          case measure => simp [intOf]; omega
    · obtain rfl : k = len0 := by have := HK.out; omega
      go_wp2_with fail
      go_ret
      exact ⟨rfl, B.out⟩

set_option maxRecDepth 100000 in
theorem lifted (os : Os) (started : os.Started) (H : Type) (enc : TypeId × Value → H) :
    ReturnsInHanded {} Try.checked os 3 .any (Rows.wireAddsSpec.pre6 enc Try.prog Try.f3 Rows.wireAddsRow.domain false) (Rows.wireAddsSpec.post enc Try.prog Try.f3 false true false false) := by
  refine returnsInHanded_of_change_sized (C := Try.checked) own started (by kernel_rfl) Try.func3
    (ChangeSpec.witness6 (enc := enc) (C := Try.checked) false ⟨#[], #[.slice none 0 0], []⟩ 8 (by kernel_rfl) (by kernel_rfl) (by kernel_rfl) (by kernel_rfl)) ?_
  intro W base args ds gs before hval0 hW hcnd hsz0 _
  have hval : ∀ (j : Nat) t v, Try.f3.params[j]? = some t → args[j]? = some v → Value.okWide Try.prog W .any base t v := hval0
  have hsz : (DataW.weightsEach Try.prog (Try.f3.params.toList ++ Rows.wireAddsSpec.plain.varTypes Try.prog) (ds ++ gs)).all (· ≤ reachBytes) = true := hsz0
  have hW' := hW
  obtain ⟨p, q, hA0, hV, rfl, hfz, hnd⟩ := hW
  have hA : DataW.TrodAll enc Try.prog W 0 (fun _ => true) true Try.f3.params.toList args.toList ds p := hA0
  rw [Try.params3] at hA hval hsz
  obtain ⟨v0, vs0, d0, ds0, p0, q0, hargs, rfl, rfl, h0, r0⟩ := trodAll_cons hA
  obtain ⟨rfl, rfl, rfl⟩ := trodAll_nil r0
  obtain rfl : args = #[v0] := by cases args; simp_all
  obtain ⟨rfl, rfl⟩ := trodVars_none hV
  have sz0 : ∀ x ∈ d0.weights Try.prog 22, x ≤ reachBytes := fun x hx => by simpa using List.all_eq_true.1 hsz _ (DataW.weights_mem_each (j := 0) rfl rfl x hx)
  have k0 := h0
  have lt0 : ∀ x ∈ p0, x.block < W.heap.size := by obtain ⟨m, hm⟩ := k0; exact DataW.trod_lt m _ _ _ hm
  obtain ⟨a0, len0, cap0, fs0, rfl, w0⟩ := open_flds (hval 0 22 v0 rfl rfl) h0 sz0
  clear hA0 hval0
  refine (walk a0 len0 cap0 fs0 W w0).mono fun e W' ⟨he, bel⟩ => ?_
  subst he
  exact ⟨_, rfl, _, _, _, [], _, [], hW', trodAll_mk1 (shut_bool Try.underlying4 _), (trodAll_cons_mk (Below.trod laidOut (by kernel_rfl) (of_decide_eq_true (by kernel_rfl)) k0 bel lt0) trodAll_mk0), rfl, bel.frame _, fun h => by cases h⟩

theorem over : Rows.wireAddsRow.holds Try.pinned (OpenSpec.ofChange Rows.wireAddsSpec) :=
  OpenClaim.holds_of_wide 3 Try.f3 rfl rfl rfl rfl rfl rfl rfl ⟨rfl, rfl, rfl, rfl, rfl⟩ rfl rfl rfl rfl rfl (by kernel_rfl) Try.func3 (by kernel_rfl)
    (of_decide_eq_true (by kernel_rfl)) (by unfold Func.isWrapper; first | (rw [if_pos (by decide +kernel)]; kernel_rfl) | (rw [if_neg (by decide +kernel)]; exact ⟨rfl, rfl⟩))
    (fun os started H enc _ => lifted os started H enc)

theorem proved : Rows.WireAddsSaid := over
end Go.Proofs.Ytmhknpkiddgcpaa.wireAdds
