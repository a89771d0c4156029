/- What the laws of layer 5 ask of fields: Great, put (citadellaw05), and the document's own Int, Flag, Bytes, Tag (citadelref05). -/
import Derived.Test.YtmhknpkiddgcpaaFld
import Derived.Deep.MidRow
namespace Go.Proofs.Ytmhknpkiddgcpaa
open Go.RowKit
set_option linter.unusedVariables false
set_option linter.unusedSimpArgs false

def sumF (fs : List Fld) : Nat := (fs.map fun f => 40 + f.b.length).sum
theorem sumF_take (fs : List Fld) (k : Nat) : sumF (fs.take k) ≤ sumF fs := by
  induction fs generalizing k with
  | nil => simp [sumF]
  | cons f fs ih =>
    cases k with
    | zero => simp [sumF]
    | succ k => simp only [List.take_succ_cons, sumF, List.map_cons, List.sum_cons] at ih ⊢; have := ih k; omega
theorem sumF_snoc {fs : List Fld} {k : Nat} (h : k < fs.length) : sumF (fs.take (k + 1)) = sumF (fs.take k) + (40 + (fs.getD k Fld.zero).b.length) := by
  rw [List.take_succ_eq_append_getElem h]
  simp only [sumF, List.map_append, List.sum_append, List.map_cons, List.map_nil, List.sum_cons, List.sum_nil, List.getD, List.getElem?_eq_getElem h, Option.getD_some, Nat.add_zero]
def GreatRel (w : World) (fs : List Fld) (n : Nat) (s i : Value) (wr : World) : Prop := ∃ k, k ≤ n ∧ i = .int .i64 (k : Int) ∧ s = .int .i64 (sumF (fs.take k) : Int) ∧ sumF (fs.take k) ≤ 5000 ∧ wr = w

set_option maxRecDepth 100000 in
set_option maxHeartbeats 1000000 in
theorem rGreat (A : Option Addr) (n c B : Nat) (fs : List Fld) (w : World) (ha : RdF w B A n fs) (hn : n ≤ 140737488351232) :
    Calls Try.prog 11 #[.slice A n c] w fun e w' => e = .returned (.bool (decide (5000 < sumF fs))) ∧ w = w' := by
  have HA := Lib.hid ha
  clear ha
  go_enter Try.func11, Try.ntmps11
  go_wp2
  go_loopw [3, 4] (fun s i wr => GreatRel w fs n s i wr) (fun _ i _ => n - (intOf i).toNat)
  case atStart => exact ⟨0, Nat.zero_le _, rfl, rfl, Nat.zero_le _, rfl⟩
  case round =>
    obtain ⟨k, hk, rfl, rfl, hs, rfl⟩ := hrel
    have HS := Lib.hid hs
    by_cases hlt : k < n
    · obtain ⟨b, o, rfl, hbo, hc⟩ := HA.out.2 (by omega)
      obtain ⟨A', m, c', h1, h2⟩ := hc k hlt
      have HF := Lib.hid (sumF_snoc (fs := fs) (k := k) (by rw [HA.out.1]; exact hlt))
      have hm : (fs.getD k Fld.zero).b.length = m := h2.rd.1
      have hcell := h1 4 _ rfl
      have hmb : m ≤ 140737488351232 := Nat.le_trans h2.mc h2.cc
      rw [hm] at HF
      generalize sumF (fs.take k) = s at *
      have HT := Lib.hid (sumF_take fs (k + 1))
      clear hc h1 h2 hm
      by_cases hov : (5000 : Int) < (s : Int) + 40 + (m : Int)
      · go_wp2
        go_ret
        rw [decide_eq_true (by have := HT.out; rw [HF.out] at this; omega)]
        exact ⟨rfl, rfl⟩
      · go_wp2
        go_roundw
        case rel => exact ⟨k + 1, hlt, by go_num, by rw [HF.out]; go_num, by rw [HF.out]; omega, rfl⟩
        case measure => simp [intOf]; omega
    · obtain rfl : k = n := by omega
      go_wp2
      go_ret
      rw [List.take_of_length_le (by rw [HA.out.1]; exact Nat.le_refl _)] at HS
      rw [decide_eq_false (by have := HS.out; omega)]
      exact ⟨rfl, rfl⟩

def flagB (b : Bool) : UInt8 := if b then 1 else 0
/-- A field's bytes. -/
def putF (f : Fld) : List UInt8 :=
  if f.what = 0 then [f.x] else if f.what = 1 then enc (u64N f.n) 8 else if f.what = 2 then [flagB f.is] else if f.what = 3 ∨ f.what = 4 then enc f.b.length 4 ++ f.b else if f.what = 5 then f.t else []

set_option maxRecDepth 100000 in
set_option maxHeartbeats 1000000 in
theorem rIntB (n : Int) (w : World) : Calls Try.prog 40 #[.int .i64 n] w fun e w' => RetB 5 w (enc (u64N n) 8) e w' := by
  have h64 : IntKind.u64.wrap n = (u64N n : Int) := by rw [← u64N_eq]; simp only [IntKind.wrap_u64]
  have HL := Lib.hid (u64N_lt n)
  go_enter Try.func40, Try.ntmps40
  go_wp2_with fail
  refine (refPut (u64N n) 8 w HL.out (by decide)).mono ?_
  rintro e w1 h
  have H := Lib.hid h
  obtain ⟨A1, n1, c1, rfl, _, _⟩ := h
  go_wp2_with fail
  go_ret
  exact H.out

set_option maxRecDepth 100000 in
set_option maxHeartbeats 1000000 in
theorem rFlagB (b : Bool) (w : World) : Calls Try.prog 41 #[.bool b] w fun e w' => RetB 5 w [flagB b] e w' := by
  have h1 := fun (z : Int) => own_top (w := w) (B := w.heap.size) [.int .u8 z] 5 (Nat.le_refl _) (fun u hu => by simp at hu; subst hu; rfl) (by simp)
  have hb := fun (z : Int) => (Below.refl w.heap.size w).alloc (Nat.le_refl _) (.cells #[.int .u8 z] 5)
  have H1 := Lib.hid h1
  have HB := Lib.hid hb
  clear h1 hb
  go_enter Try.func41, Try.ntmps41
  cases b
  · go_wp2
    go_ret
    exact ⟨_, _, _, rfl, H1.out 0, HB.out 0⟩
  · go_wp2
    go_ret
    exact ⟨_, _, _, rfl, H1.out 1, HB.out 1⟩

set_option maxRecDepth 100000 in
set_option maxHeartbeats 1000000 in
theorem rBytesB (A : Option Addr) (m c : Nat) (bs : List UInt8) (w : World) (ha : Rd w w.heap.size A m bs) (hm : m ≤ 1000000000) :
    Calls Try.prog 42 #[.slice A m c] w fun e w' => RetB 5 w (enc m 4 ++ bs) e w' := by
  have HA := Lib.hid ha
  have h64 : IntKind.u64.wrap (m : Int) = (m : Int) := by simp only [IntKind.wrap_u64]; omega
  have HL := Lib.hid (enc_len m 4)
  clear ha
  go_enter Try.func42, Try.ntmps42
  go_wp2_with fail
  refine (refPut m 4 w (by omega) (by decide)).mono ?_
  rintro e w1 ⟨A1, n1, c1, rfl, hown1, hb⟩
  have U := Lib.hid (Rd.of_own hown1)
  obtain rfl : n1 = 4 := (Rd.of_own hown1).1.symm.trans HL.out
  have B := Lib.hid hb
  replace HA := Lib.hid (HA.out.to hb)
  clear hown1 hb
  go_wp2_with fail
  refine (refCat A1 A 4 m c1 c _ bs w1 U.out HA.out (by omega)).mono ?_
  rintro e w2 h
  have H := Lib.hid (RetB.from B.out h)
  obtain ⟨A2, n2, c2, rfl, _, _⟩ := h
  go_wp2_with fail
  go_ret
  exact H.out

set_option maxRecDepth 100000 in
set_option maxHeartbeats 1000000 in
theorem rTagB (t : List UInt8) (w : World) (hl : t.length = 32) : Calls Try.prog 43 #[.agg (arrB t)] w fun e w' => RetB 5 w t e w' := by
  have S1 := Lib.hid (tag_size hl)
  have B : Hid (Below w.heap.size w (w.alloc (.cells (arrB t) 29))) := (Below.refl _ _).alloc (Nat.le_refl _) _
  go_enter Try.func43, Try.ntmps43
  go_wp2_with (refine wpList_load_row rfl 29 _ rfl w.heap.size rfl 29 (arrB t) (0, 0) _ (heap_alloc_last w _) Try.underlying29 rfl S1.out ?_)
  refine (rTagBytes t _ hl).mono ?_
  rintro e w1 h
  have H := Lib.hid (RetB.from B.out h)
  obtain ⟨A1, n1, c1, rfl, _, _⟩ := h
  go_wp2_with fail
  go_ret
  exact H.out

/-- A field in a block of its own. -/
structure FldAt (w : World) (g : Nat) (f : Fld) (A : Option Addr) (m c : Nat) : Prop where
  c0 : w.cell? ⟨g, 0, none⟩ = some (.int .i64 f.what)
  c1 : w.cell? ⟨g, 1, none⟩ = some (.int .u8 (f.x.toNat : Int))
  c2 : w.cell? ⟨g, 2, none⟩ = some (.int .i64 f.n)
  c3 : w.cell? ⟨g, 3, none⟩ = some (.bool f.is)
  c4 : w.cell? ⟨g, 4, none⟩ = some (.slice A m c)
  c5 : w.rangeAt g 5 (f.t.map bval)
  lt : g < w.heap.size
theorem FldAt.new (w : World) (f : Fld) (A : Option Addr) (m c : Nat) (T : TypeId) : FldAt (w.alloc (.cells (fldL f A m c).toArray T)) w.heap.size f A m c := by
  have h : ∀ j v, (fldL f A m c)[j]? = some v → (w.alloc (.cells (fldL f A m c).toArray T)).cell? ⟨w.heap.size, j, none⟩ = some v := fun j v hv => by
    rw [World.cell?_alloc_at _ _ _ _ (by rfl)]
    simpa using hv
  refine ⟨h 0 _ rfl, h 1 _ rfl, h 2 _ rfl, h 3 _ rfl, h 4 _ rfl, fun j v hv => ?_, by simp⟩
  refine h (5 + j) v ?_
  rw [Nat.add_comm]
  exact hv

set_option maxRecDepth 100000 in
set_option maxHeartbeats 1000000 in
theorem rPut (f : Fld) (A : Option Addr) (m c : Nat) (w : World) (hf : FldOk w w.heap.size f A m c) (hm : m ≤ 1000000000) :
    Calls Try.prog 13 #[.agg (fldL f A m c).toArray] w fun e w' => RetB 5 w (putF f) e w' ∧ (putF f = [] → e = .returned (.slice none 0 0)) := by
  have F := FldAt.new w f A m c 31
  have HF := Lib.hid hf
  have B : Hid (Below w.heap.size w (w.alloc (.cells (fldL f A m c).toArray 31))) := (Below.refl _ _).alloc (Nat.le_refl _) _
  obtain ⟨h0, h1, h2, h3, h4, h5, _⟩ := F
  clear hf
  go_enter Try.func13, Try.ntmps13
  have S5 := Lib.hid (show (Try.prog.info? 29).map (·.size) = some (f.t.map bval).length by rw [List.length_map, HF.out.tl]; exact (zero_of_info tag_info).2)
  have HR := Lib.hid (HF.out.rd.to B.out)
  have HT := Lib.hid HF.out.tl
  have HM := Lib.hid HF.out.rd.1
  have HP : Hid (putF f = if f.what = 0 then [f.x] else if f.what = 1 then enc (u64N f.n) 8 else if f.what = 2 then [flagB f.is] else if f.what = 3 ∨ f.what = 4 then enc f.b.length 4 ++ f.b else if f.what = 5 then f.t else []) := rfl
  have HO := Lib.hid (own_top (w := w.alloc (.cells (fldL f A m c).toArray 31)) (B := w.heap.size) [.int .u8 (f.x.toNat : Int)] 5 (by simp) (fun u hu => by simp at hu; subst hu; rfl) (by simp))
  have HB1 := Lib.hid (B.out.alloc B.out.size (.cells #[.int .u8 (f.x.toNat : Int)] 5))
  generalize hwh : f.what = wh at *
  have HW := Lib.hid hwh
  clear hwh
  by_cases c0 : wh = 0
  · subst c0
    go_wp2_with fail
    go_ret
    rw [HP.out, if_pos (by trivial)]
    refine ⟨⟨_, _, _, rfl, ?_, HB1.out⟩, fun h => by simp at h⟩
    have := HO.out
    rw [show (w.alloc (.cells (fldL f A m c).toArray 31)).heap.size = w.heap.size + 1 from by simp] at this
    exact this
  by_cases c1 : wh = 1
  · subst c1
    go_wp2_with fail
    refine (rIntB f.n _).mono ?_
    rintro e w1 h
    have H := Lib.hid (RetB.from B.out h)
    obtain ⟨A1, n1, k1, rfl, _, _⟩ := h
    go_wp2_with fail
    go_ret
    rw [HP.out, if_neg (by decide), if_pos (by trivial)]
    exact ⟨H.out, fun h => by have := congrArg List.length h; rw [enc_len] at this; simp at this⟩
  by_cases c2 : wh = 2
  · subst c2
    go_wp2_with fail
    refine (rFlagB f.is _).mono ?_
    rintro e w1 h
    have H := Lib.hid (RetB.from B.out h)
    obtain ⟨A1, n1, k1, rfl, _, _⟩ := h
    go_wp2_with fail
    go_ret
    rw [HP.out, if_neg (by decide), if_neg (by decide), if_pos (by trivial)]
    exact ⟨H.out, fun h => by simp at h⟩
  by_cases c34 : wh = 3 ∨ wh = 4
  · have HP2 : Hid (putF f = enc f.b.length 4 ++ f.b) := by
      show _ = _
      rw [HP.out, if_neg c0, if_neg c1, if_neg c2, if_pos c34]
    rw [HM.out] at HP2
    rcases c34 with rfl | rfl
    all_goals
      go_wp2_with fail
      refine (rBytesB A m c f.b _ HR.out hm).mono ?_
      rintro e w1 h
      have H := Lib.hid (RetB.from B.out h)
      obtain ⟨A1, n1, k1, rfl, _, _⟩ := h
      go_wp2_with fail
      go_ret
      rw [HP2.out]
      exact ⟨H.out, fun h => by have := congrArg List.length h; rw [List.length_append, enc_len] at this; simp at this⟩
  have c3 : ¬ wh = 3 := fun h => c34 (.inl h)
  have c4 : ¬ wh = 4 := fun h => c34 (.inr h)
  by_cases c5 : wh = 5
  · subst c5
    have hu := Try.underlying29
    go_wp2_with (refine wpList_load_mid rfl 29 _ rfl w.heap.size 5 rfl (f.t.map bval) _ h5 hu rfl S5.out ?_)
    refine (rTagB f.t _ HT.out).mono ?_
    rintro e w1 h
    have H := Lib.hid (RetB.from B.out h)
    obtain ⟨A1, n1, k1, rfl, _, _⟩ := h
    go_wp2_with fail
    go_ret
    rw [HP.out, if_neg (by decide), if_neg (by decide), if_neg (by decide), if_neg (by decide), if_pos (by trivial)]
    exact ⟨H.out, fun h => by have := congrArg List.length h; rw [HT.out] at this; simp at this⟩
  · go_wp2_with fail
    go_ret
    rw [HP.out, if_neg c0, if_neg c1, if_neg c2, if_neg c34, if_neg c5]
    exact ⟨RetB.mk (World.ownsRow_nil _ _ _ _) B.out, fun _ => rfl⟩

theorem putF_len (f : Fld) (h : f.t.length = 32) : (putF f).length ≤ 40 + f.b.length := by
  unfold putF
  split
  · simp; omega
  split
  · rw [enc_len]; omega
  split
  · simp; omega
  split
  · rw [List.length_append, enc_len]; omega
  split
  · omega
  · simp
end Go.Proofs.Ytmhknpkiddgcpaa
