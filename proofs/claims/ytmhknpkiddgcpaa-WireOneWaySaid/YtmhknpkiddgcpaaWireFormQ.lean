/- The laws' own add and form (citadellaw05), of fields that were taken: their bytes' capacity is bounded by no more than an int. -/
import Derived.Test.YtmhknpkiddgcpaaWireForm
import Derived.Test.YtmhknpkiddgcpaaWireOne
namespace Go.Proofs.Ytmhknpkiddgcpaa
open Go.RowKit
set_option linter.unusedVariables false
set_option linter.unusedSimpArgs false

structure FldQ (w : World) (B : Nat) (f : Fld) (A : Option Addr) (m c : Nat) : Prop where
  tl : f.t.length = 32
  rd : Rd w B A m f.b
  mc : m ≤ c
  cc : c ≤ 9223372036854775807
theorem FldQ.below {w w' : World} {B : Nat} {f : Fld} {A : Option Addr} {m c : Nat} (h : FldQ w B f A m c) (hb : Below B w w') : FldQ w' B f A m c := ⟨h.tl, h.rd.below hb, h.mc, h.cc⟩
theorem FldQ.more {w : World} {B B' : Nat} {f : Fld} {A : Option Addr} {m c : Nat} (h : FldQ w B f A m c) (hB : B ≤ B') : FldQ w B' f A m c := ⟨h.tl, h.rd.more hB, h.mc, h.cc⟩
theorem FldQ.kept {R : Nat → Prop} {w w' : World} {f : Fld} {A : Option Addr} {m c : Nat} (h : FldQ w w.heap.size f A m c) (hk : Keep R w w') (ho : Off A m R) : FldQ w' w'.heap.size f A m c := ⟨h.tl, h.rd.kept hk ho, h.mc, h.cc⟩
/-- A slice of such fields. -/
def RdQ (w : World) (B : Nat) (A : Option Addr) (n : Nat) (fs : List Fld) : Prop :=
  fs.length = n ∧ (0 < n → ∃ b o, A = some ⟨b, o, none⟩ ∧ b < B ∧ ∀ j, j < n → ∃ A' m c, w.rangeAt b (o + j * 37) (fldL (fs.getD j Fld.zero) A' m c) ∧ FldQ w B (fs.getD j Fld.zero) A' m c)

set_option maxRecDepth 1000000 in
set_option maxHeartbeats 2000000 in
theorem rAddQ (g : Nat) (F : Nat → Prop) (form : List UInt8) (bad : Bool) (f : Fld) (A : Option Addr) (m c : Nat) (w : World) (h : WrAt w g F form bad) (hf : FldQ w w.heap.size f A m c) (hm : m ≤ 1000000) (hfl : form.length ≤ 65536) (hoff : Off A m F) :
    Calls Try.prog 14 #[.pointer (some ⟨g, 0, none⟩), .agg (fldL f A m c).toArray] w (WrTo w g F form (putF f) bad) := by
  have F0 := FldAt.new w f A m c 31
  have B : Hid (Below w.heap.size w (w.alloc (.cells (fldL f A m c).toArray 31))) := (Below.refl _ _).alloc (Nat.le_refl _) _
  have HW := Lib.hid (h.kept (R := fun _ => False) (Keep.of_below B.out) (fun _ _ h => h))
  have HR := Lib.hid (hf.rd.to B.out)
  have HT := Lib.hid hf.tl
  have HM := Lib.hid hf.rd.1
  have HMC := Lib.hid (⟨hf.mc, hf.cc⟩ : m ≤ c ∧ c ≤ 9223372036854775807)
  have HP : Hid (putF f = if f.what = 0 then [f.x] else if f.what = 1 then enc (u64N f.n) 8 else if f.what = 2 then [flagB f.is] else if f.what = 3 ∨ f.what = 4 then enc f.b.length 4 ++ f.b else if f.what = 5 then f.t else []) := rfl
  have S5 := Lib.hid (show (Try.prog.info? 29).map (·.size) = some (f.t.map bval).length by rw [List.length_map, hf.tl]; exact (zero_of_info tag_info).2)
  have HFL := Lib.hid hfl
  have HOFF := Lib.hid hoff
  obtain ⟨h0, h1, h2, h3, h4, h5, _⟩ := F0
  clear hf h hfl hoff
  go_enter Try.func14, Try.ntmps14
  generalize hwh : f.what = wh at *
  clear hwh
  by_cases c0 : wh = 0
  · subst c0
    go_wp2_with fail
    refine (wByte g F form bad f.x _ HW.out).mono ?_
    rintro e w1 h
    have H := Lib.hid (h.after B.out)
    obtain ⟨rfl, _⟩ := h
    go_wp2_with fail
    go_ret
    rw [HP.out, if_pos (by trivial)]
    exact H.out
  by_cases c1 : wh = 1
  · subst c1
    go_wp2_with fail
    refine (wInt g F form bad f.n _ HW.out).mono ?_
    rintro e w1 h
    have H := Lib.hid (h.after B.out)
    obtain ⟨rfl, _⟩ := h
    go_wp2_with fail
    go_ret
    rw [HP.out, if_neg (by decide), if_pos (by trivial)]
    exact H.out
  by_cases c2 : wh = 2
  · subst c2
    go_wp2_with fail
    refine (wFlag g F form bad f.is _ HW.out).mono ?_
    rintro e w1 h
    have H := Lib.hid (h.after B.out)
    obtain ⟨rfl, _⟩ := h
    go_wp2_with fail
    go_ret
    rw [HP.out, if_neg (by decide), if_neg (by decide), if_pos (by trivial)]
    exact H.out
  by_cases c3 : wh = 3
  · subst c3
    go_wp2_with fail
    refine (wBytes g F form bad A m c f.b _ HW.out HR.out HOFF.out HMC.out.1 (by have := HMC.out.2; omega) hm).mono ?_
    rintro e w1 h
    have H := Lib.hid (h.after B.out)
    obtain ⟨rfl, _⟩ := h
    go_wp2_with fail
    go_ret
    rw [HP.out, if_neg (by decide), if_neg (by decide), if_neg (by decide), if_pos (by decide)]
    exact H.out
  by_cases c4 : wh = 4
  · subst c4
    have hcv := HR.out.bytesIn.convert (by simp [numsOf, HM.out]) c 26 5 9 Try.underlying26 Try.underlying5 Try.underlying9
    rw [strB_nums] at hcv
    go_wp2_with fail
    refine (wText g F form bad f.b _ HW.out (by rw [HM.out]; exact hm)).mono ?_
    rintro e w1 h
    have H := Lib.hid (h.after B.out)
    obtain ⟨rfl, _⟩ := h
    go_wp2_with fail
    go_ret
    rw [HP.out, if_neg (by decide), if_neg (by decide), if_neg (by decide), if_pos (by decide)]
    exact H.out
  by_cases c5 : wh = 5
  · subst c5
    have hu := Try.underlying29
    go_wp2_with (refine wpList_load_mid rfl 29 _ rfl w.heap.size 5 rfl (f.t.map bval) _ h5 hu rfl S5.out ?_)
    refine (wTag g F form bad f.t _ HW.out HT.out).mono ?_
    rintro e w1 h
    have H := Lib.hid (h.after B.out)
    obtain ⟨rfl, _⟩ := h
    go_wp2_with fail
    go_ret
    rw [HP.out, if_neg (by decide), if_neg (by decide), if_neg (by decide), if_neg (by decide), if_pos (by trivial)]
    exact H.out
  · go_wp2_with fail
    go_ret
    have e1 : wForm form [] bad = form := by unfold wForm; split <;> simp
    have e2 : wBad form [] bad = bad := by unfold wBad; rw [if_pos (by simpa using HFL.out)]
    rw [HP.out, if_neg c0, if_neg c1, if_neg c2, if_neg (by omega), if_neg c5]
    exact ⟨rfl, F, by rw [e1, e2]; exact HW.out, fun k h => .inl h, Keep.of_below B.out⟩
set_option maxRecDepth 1000000 in
set_option maxHeartbeats 1000000 in
theorem rFormQ (a0 : Option Addr) (len0 cap0 : Nat) (fs0 : List Fld) (w : World) (hr : RdQ w w.heap.size a0 len0 fs0) (hs : sumF fs0 ≤ 5000) (hl : len0 ≤ 140737488351232) :
    Calls Try.prog 34 #[.slice a0 len0 cap0] w fun e w' => ∃ A n c, e = .returned (.tuple #[.slice A n c, .bool true]) ∧ OwR w' w.heap.size A n (formF fs0 len0) ∧ n ≤ c ∧ c ≤ 9223372036854775807 ∧ n ≤ 5000 ∧ Below w.heap.size w w' := by
  have R := Lib.hid hr
  have HSUM := Lib.hid hs
  clear hr hs
  go_enter Try.func34, Try.ntmps34
  go_wp2_with fail
  refine (wNew w).mono ?_
  rintro e w1 ⟨gw, F, rfl, hw, hF, hb⟩
  have W := Lib.hid hw
  have HF := Lib.hid hF
  have B := Lib.hid hb
  clear hw hF hb
  go_wp2_with fail
  go_loopw [5] (fun i wr => FormsRel w len0 gw fs0 i wr) (fun i _ => len0 - (intOf i).toNat)
  case atStart => exact ⟨0, F, Nat.zero_le _, rfl, W.out, HF.out, B.out, Nat.zero_le _⟩
  case round =>
    clear W HF B
    obtain ⟨k, F, hk, rfl, hw, hF, hb, hlen⟩ := hrel
    have W := Lib.hid hw
    have HF := Lib.hid hF
    have B := Lib.hid hb
    have HK := Lib.hid hk
    have HLEN := Lib.hid hlen
    clear hw hF hb hk hlen
    by_cases hlt : k < len0
    · obtain ⟨b, o, rfl, hbo, hc⟩ := R.out.2 (by omega)
      obtain ⟨A', m, c', h1, h2⟩ := hc k hlt
      have HOKF := Lib.hid h2
      have hrng := rangeAt_below h1 B.out hbo
      have hu := Try.underlying31
      have S37 := Lib.hid (show (Try.prog.info? 31).map (·.size) = some (fldL (fs0.getD k Fld.zero) A' m c').length by rw [fldL_len h2.tl]; kernel_rfl)
      have HSN := Lib.hid (sumF_snoc (fs := fs0) (k := k) (by rw [R.out.1]; exact hlt))
      have HST := Lib.hid (sumF_take fs0 (k + 1))
      have HFS := Lib.hid (formF_succ (fs := fs0) (k := k) (by rw [R.out.1]; exact hlt))
      have HPL := Lib.hid (putF_len (fs0.getD k Fld.zero) h2.tl)
      have HM := Lib.hid h2.rd.1
      have hm5 : m ≤ 5000 := by have := HSUM.out; have := HST.out; have := HSN.out; have := HM.out; omega
      clear hc h1 h2 hbo
      generalize fs0.getD k Fld.zero = f at *
      obtain ⟨fm, hfm⟩ : ∃ l, formF fs0 k = l := ⟨_, rfl⟩
      rw [hfm] at W HLEN HFS
      clear hfm
      have HL5 : Hid (fm.length + (putF f).length ≤ 5000) := by (show _ ≤ _); have := HSUM.out; have := HST.out; have := HSN.out; have := HM.out; have := HPL.out; have := HLEN.out; omega
      go_wp2_with (refine wpList_load_mid rfl 31 _ rfl b (o + k * 37) rfl (fldL f A' m c') _ hrng hu rfl S37.out ?_)
      refine (rAddQ gw F fm false f A' m c' wr W.out ((HOKF.out.below B.out).more B.out.size) (by omega) (by have := HL5.out; omega) (HOKF.out.rd.off HF.out)).mono ?_
      have e1 : wForm fm (putF f) false = fm ++ putF f := by unfold wForm; rw [if_pos ⟨rfl, by have := HL5.out; omega⟩]
      have e2 : wBad fm (putF f) false = false := by unfold wBad; rw [if_pos (by have := HL5.out; omega)]
      rintro e w4 ⟨rfl, F4, hw4, hs4, hk4⟩
      rw [e1, e2] at hw4
      have W4 := Lib.hid hw4
      have HF4 : Hid (∀ k, F4 k → w.heap.size ≤ k) := fun k hf => by
        rcases hs4 k hf with h4 | h4
        · exact HF.out k h4
        · have := B.out.size; omega
      have B4 := Lib.hid (Keep.below B.out hk4 B.out.size HF.out)
      have HREL : Hid (formF fs0 (k + 1) = fm ++ putF f ∧ (fm ++ putF f).length ≤ sumF (fs0.take (k + 1))) := ⟨HFS.out, by rw [List.length_append, HSN.out]; have := HLEN.out; have := HPL.out; omega⟩
      clear e1 e2 hw4 hs4 hk4 W B hrng hu HFS HSN HLEN HPL HL5
      have hk5 : (k : Int) < 140737488351232 := by omega
      go_wp2_with fail
      go_roundw
      case rel => exact ⟨k + 1, F4, by omega, by go_num, by rw [HREL.out.1]; exact W4.out, HF4.out, B4.out, by rw [HREL.out.1]; exact HREL.out.2⟩
      case measure => simp [intOf]; omega
    · obtain rfl : k = len0 := by have := HK.out; omega
      have HL5 : Hid ((formF fs0 k).length ≤ 5000) := Nat.le_trans HLEN.out (Nat.le_trans (sumF_take _ _) HSUM.out)
      go_wp2_with fail
      refine (wDone gw F _ false wr W.out).mono ?_
      rintro e w5 ⟨A5, n5, c5, rfl, ho5, hc5, hc5', hb⟩
      have O5 := Lib.hid (ho5.mono B.out.size)
      have hn5 : n5 ≤ 5000 := by rw [← ho5.1.1]; exact HL5.out
      replace B := Lib.hid (B.out.trans (hb.mono B.out.size))
      clear ho5 hb
      go_wp2_with fail
      go_ret2
      exact ⟨_, _, _, rfl, O5.out, hc5, hc5', hn5, B.out⟩
end Go.Proofs.Ytmhknpkiddgcpaa
