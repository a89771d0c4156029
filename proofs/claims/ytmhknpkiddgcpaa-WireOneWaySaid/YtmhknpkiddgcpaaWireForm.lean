/- The laws' own form (citadellaw05): all fields added to a new writer. -/
import Derived.Test.YtmhknpkiddgcpaaWireAddsK
namespace Go.Proofs.Ytmhknpkiddgcpaa
open Go.RowKit
set_option linter.unusedVariables false
set_option linter.unusedSimpArgs false

def FormsRel (w : World) (n gw : Nat) (fs : List Fld) (i : Value) (wr : World) : Prop :=
  ∃ (k : Nat) (F : Nat → Prop), k ≤ n ∧ i = .int .i64 (k : Int) ∧ WrAt wr gw F (formF fs k) false ∧ (∀ k, F k → w.heap.size ≤ k) ∧ Below w.heap.size w wr ∧ (formF fs k).length ≤ sumF (fs.take k)

set_option maxRecDepth 1000000 in
set_option maxHeartbeats 1000000 in
theorem rFormL (a0 : Option Addr) (len0 cap0 : Nat) (fs0 : List Fld) (w : World) (hr : RdF w w.heap.size a0 len0 fs0) (hs : sumF fs0 ≤ 5000) (hl : len0 ≤ 140737488351232) :
    Calls Try.prog 34 #[.slice a0 len0 cap0] w fun e w' => ∃ A n c, e = .returned (.tuple #[.slice A n c, .bool true]) ∧ OwR w' w.heap.size A n (formF fs0 len0) ∧ n ≤ c ∧ c ≤ 9223372036854775807 ∧ n ≤ 5000 ∧ Below w.heap.size w w' := by
  have R := Lib.hid hr
  have HSUM := Lib.hid hs
  clear hr hs
  go_enter Try.func34, Try.ntmps34
  go_wp2_with fail
  refine (wNew w).mono ?_
  rintro e w1 ⟨gw, F, rfl, hw, hF, hb⟩
  have W := Lib.hid hw
  have HF := Lib.hid hF
  have B := Lib.hid hb
  clear hw hF hb
  go_wp2_with fail
  go_loopw [5] (fun i wr => FormsRel w len0 gw fs0 i wr) (fun i _ => len0 - (intOf i).toNat)
  case atStart => exact ⟨0, F, Nat.zero_le _, rfl, W.out, HF.out, B.out, Nat.zero_le _⟩
  case round =>
    clear W HF B
    obtain ⟨k, F, hk, rfl, hw, hF, hb, hlen⟩ := hrel
    have W := Lib.hid hw
    have HF := Lib.hid hF
    have B := Lib.hid hb
    have HK := Lib.hid hk
    have HLEN := Lib.hid hlen
    clear hw hF hb hk hlen
    by_cases hlt : k < len0
    · obtain ⟨b, o, rfl, hbo, hc⟩ := R.out.2 (by omega)
      obtain ⟨A', m, c', h1, h2⟩ := hc k hlt
      have HOKF := Lib.hid h2
      have hrng := rangeAt_below h1 B.out hbo
      have hu := Try.underlying31
      have S37 := Lib.hid (show (Try.prog.info? 31).map (·.size) = some (fldL (fs0.getD k Fld.zero) A' m c').length by rw [fldL_len h2.tl]; kernel_rfl)
      have HSN := Lib.hid (sumF_snoc (fs := fs0) (k := k) (by rw [R.out.1]; exact hlt))
      have HST := Lib.hid (sumF_take fs0 (k + 1))
      have HFS := Lib.hid (formF_succ (fs := fs0) (k := k) (by rw [R.out.1]; exact hlt))
      have HPL := Lib.hid (putF_len (fs0.getD k Fld.zero) h2.tl)
      have HM := Lib.hid h2.rd.1
      have hm5 : m ≤ 5000 := by have := HSUM.out; have := HST.out; have := HSN.out; have := HM.out; omega
      clear hc h1 h2 hbo
      generalize fs0.getD k Fld.zero = f at *
      obtain ⟨fm, hfm⟩ : ∃ l, formF fs0 k = l := ⟨_, rfl⟩
      rw [hfm] at W HLEN HFS
      clear hfm
      have HL5 : Hid (fm.length + (putF f).length ≤ 5000) := by (show _ ≤ _); have := HSUM.out; have := HST.out; have := HSN.out; have := HM.out; have := HPL.out; have := HLEN.out; omega
      go_wp2_with (refine wpList_load_mid rfl 31 _ rfl b (o + k * 37) rfl (fldL f A' m c') _ hrng hu rfl S37.out ?_)
      refine (rAdd gw F fm false f A' m c' wr W.out ((HOKF.out.below B.out).more B.out.size) (by omega) (by have := HL5.out; omega) (HOKF.out.rd.off HF.out)).mono ?_
      have e1 : wForm fm (putF f) false = fm ++ putF f := by unfold wForm; rw [if_pos ⟨rfl, by have := HL5.out; omega⟩]
      have e2 : wBad fm (putF f) false = false := by unfold wBad; rw [if_pos (by have := HL5.out; omega)]
      rintro e w4 ⟨rfl, F4, hw4, hs4, hk4⟩
      rw [e1, e2] at hw4
      have W4 := Lib.hid hw4
      have HF4 : Hid (∀ k, F4 k → w.heap.size ≤ k) := fun k hf => by
        rcases hs4 k hf with h4 | h4
        · exact HF.out k h4
        · have := B.out.size; omega
      have B4 := Lib.hid (Keep.below B.out hk4 B.out.size HF.out)
      have HREL : Hid (formF fs0 (k + 1) = fm ++ putF f ∧ (fm ++ putF f).length ≤ sumF (fs0.take (k + 1))) := ⟨HFS.out, by rw [List.length_append, HSN.out]; have := HLEN.out; have := HPL.out; omega⟩
      clear e1 e2 hw4 hs4 hk4 W B hrng hu HFS HSN HLEN HPL HL5
      have hk5 : (k : Int) < 140737488351232 := by omega
      go_wp2_with fail
      go_roundw
      case rel => exact ⟨k + 1, F4, by omega, by go_num, by rw [HREL.out.1]; exact W4.out, HF4.out, B4.out, by rw [HREL.out.1]; exact HREL.out.2⟩
      case measure => simp [intOf]; omega
    · obtain rfl : k = len0 := by have := HK.out; omega
      have HL5 : Hid ((formF fs0 k).length ≤ 5000) := Nat.le_trans HLEN.out (Nat.le_trans (sumF_take _ _) HSUM.out)
      go_wp2_with fail
      refine (wDone gw F _ false wr W.out).mono ?_
      rintro e w5 ⟨A5, n5, c5, rfl, ho5, hc5, hc5', hb⟩
      have O5 := Lib.hid (ho5.mono B.out.size)
      have hn5 : n5 ≤ 5000 := by rw [← ho5.1.1]; exact HL5.out
      replace B := Lib.hid (B.out.trans (hb.mono B.out.size))
      clear ho5 hb
      go_wp2_with fail
      go_ret2
      exact ⟨_, _, _, rfl, O5.out, hc5, hc5', hn5, B.out⟩
end Go.Proofs.Ytmhknpkiddgcpaa
