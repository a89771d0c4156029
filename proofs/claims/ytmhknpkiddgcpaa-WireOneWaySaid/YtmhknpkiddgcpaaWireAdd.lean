/- The laws' own add (citadellaw05): a field added to the program's writer. -/
import Derived.Test.YtmhknpkiddgcpaaWireI
namespace Go.Proofs.Ytmhknpkiddgcpaa
open Go.RowKit
set_option linter.unusedVariables false
set_option linter.unusedSimpArgs false

set_option maxRecDepth 1000000 in
set_option maxHeartbeats 2000000 in
theorem rAdd (g : Nat) (F : Nat → Prop) (form : List UInt8) (bad : Bool) (f : Fld) (A : Option Addr) (m c : Nat) (w : World) (h : WrAt w g F form bad) (hf : FldOk w w.heap.size f A m c) (hm : m ≤ 1000000) (hfl : form.length ≤ 65536) (hoff : Off A m F) :
    Calls Try.prog 14 #[.pointer (some ⟨g, 0, none⟩), .agg (fldL f A m c).toArray] w (WrTo w g F form (putF f) bad) := by
  have F0 := FldAt.new w f A m c 31
  have B : Hid (Below w.heap.size w (w.alloc (.cells (fldL f A m c).toArray 31))) := (Below.refl _ _).alloc (Nat.le_refl _) _
  have HW := Lib.hid (h.kept (R := fun _ => False) (Keep.of_below B.out) (fun _ _ h => h))
  have HR := Lib.hid (hf.rd.to B.out)
  have HT := Lib.hid hf.tl
  have HM := Lib.hid hf.rd.1
  have HMC := Lib.hid (⟨hf.mc, hf.cc⟩ : m ≤ c ∧ c ≤ 140737488351232)
  have HP : Hid (putF f = if f.what = 0 then [f.x] else if f.what = 1 then enc (u64N f.n) 8 else if f.what = 2 then [flagB f.is] else if f.what = 3 ∨ f.what = 4 then enc f.b.length 4 ++ f.b else if f.what = 5 then f.t else []) := rfl
  have S5 := Lib.hid (show (Try.prog.info? 29).map (·.size) = some (f.t.map bval).length by rw [List.length_map, hf.tl]; exact (zero_of_info tag_info).2)
  have HFL := Lib.hid hfl
  have HOFF := Lib.hid hoff
  obtain ⟨h0, h1, h2, h3, h4, h5, _⟩ := F0
  clear hf h hfl hoff
  go_enter Try.func14, Try.ntmps14
  generalize hwh : f.what = wh at *
  clear hwh
  by_cases c0 : wh = 0
  · subst c0
    go_wp2_with fail
    refine (wByte g F form bad f.x _ HW.out).mono ?_
    rintro e w1 h
    have H := Lib.hid (h.after B.out)
    obtain ⟨rfl, _⟩ := h
    go_wp2_with fail
    go_ret
    rw [HP.out, if_pos (by trivial)]
    exact H.out
  by_cases c1 : wh = 1
  · subst c1
    go_wp2_with fail
    refine (wInt g F form bad f.n _ HW.out).mono ?_
    rintro e w1 h
    have H := Lib.hid (h.after B.out)
    obtain ⟨rfl, _⟩ := h
    go_wp2_with fail
    go_ret
    rw [HP.out, if_neg (by decide), if_pos (by trivial)]
    exact H.out
  by_cases c2 : wh = 2
  · subst c2
    go_wp2_with fail
    refine (wFlag g F form bad f.is _ HW.out).mono ?_
    rintro e w1 h
    have H := Lib.hid (h.after B.out)
    obtain ⟨rfl, _⟩ := h
    go_wp2_with fail
    go_ret
    rw [HP.out, if_neg (by decide), if_neg (by decide), if_pos (by trivial)]
    exact H.out
  by_cases c3 : wh = 3
  · subst c3
    go_wp2_with fail
    refine (wBytes g F form bad A m c f.b _ HW.out HR.out HOFF.out HMC.out.1 (by have := HMC.out.2; omega) hm).mono ?_
    rintro e w1 h
    have H := Lib.hid (h.after B.out)
    obtain ⟨rfl, _⟩ := h
    go_wp2_with fail
    go_ret
    rw [HP.out, if_neg (by decide), if_neg (by decide), if_neg (by decide), if_pos (by decide)]
    exact H.out
  by_cases c4 : wh = 4
  · subst c4
    have hcv := HR.out.bytesIn.convert (by simp [numsOf, HM.out]) c 26 5 9 Try.underlying26 Try.underlying5 Try.underlying9
    rw [strB_nums] at hcv
    go_wp2_with fail
    refine (wText g F form bad f.b _ HW.out (by rw [HM.out]; exact hm)).mono ?_
    rintro e w1 h
    have H := Lib.hid (h.after B.out)
    obtain ⟨rfl, _⟩ := h
    go_wp2_with fail
    go_ret
    rw [HP.out, if_neg (by decide), if_neg (by decide), if_neg (by decide), if_pos (by decide)]
    exact H.out
  by_cases c5 : wh = 5
  · subst c5
    have hu := Try.underlying29
    go_wp2_with (refine wpList_load_mid rfl 29 _ rfl w.heap.size 5 rfl (f.t.map bval) _ h5 hu rfl S5.out ?_)
    refine (wTag g F form bad f.t _ HW.out HT.out).mono ?_
    rintro e w1 h
    have H := Lib.hid (h.after B.out)
    obtain ⟨rfl, _⟩ := h
    go_wp2_with fail
    go_ret
    rw [HP.out, if_neg (by decide), if_neg (by decide), if_neg (by decide), if_neg (by decide), if_pos (by trivial)]
    exact H.out
  · go_wp2_with fail
    go_ret
    have e1 : wForm form [] bad = form := by unfold wForm; split <;> simp
    have e2 : wBad form [] bad = bad := by unfold wBad; rw [if_pos (by simpa using HFL.out)]
    rw [HP.out, if_neg c0, if_neg c1, if_neg c2, if_neg (by omega), if_neg c5]
    exact ⟨rfl, F, by rw [e1, e2]; exact HW.out, fun k h => .inl h, Keep.of_below B.out⟩
end Go.Proofs.Ytmhknpkiddgcpaa
