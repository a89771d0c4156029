/- The laws' own back (citadellaw05): a field taken of the program's reader. -/
import Derived.Test.YtmhknpkiddgcpaaWireI
import Derived.Deep.MidRow
import Derived.Laws.Rows
namespace Go.Proofs.Ytmhknpkiddgcpaa
open Go.RowKit
set_option linter.unusedVariables false
set_option linter.unusedSimpArgs false

/-- What is taken: the field, and what the reader becomes. -/
def backF (s : RS) (what : Int) : Fld := ⟨what, if what = 0 then byteV s else 0, if what = 1 then intV s else 0, if what = 2 then decide (s.numb 1 = 1) else false, if what = 3 ∨ what = 4 then bytesV s else [], if what = 5 then tagV s else zeros32⟩
def backS (s : RS) (what : Int) : RS := if what = 0 then s.next 1 else if what = 1 then s.next 8 else if what = 2 then flagS s else if what = 3 ∨ what = 4 then bytesS s else if what = 5 then s.next 32 else s
/-- A field's block. -/
def FB (w : World) (g : Nat) (f : Fld) (A : Option Addr) (m c : Nat) : Prop := w.heap[g]? = some (.cells (fldL f A m c).toArray 31 (0, 0))
theorem FB.below {w w' : World} {g : Nat} {f : Fld} {A : Option Addr} {m c : Nat} (h : FB w g f A m c) (hb : Below w.heap.size w w') : FB w' g f A m c := (hb.block g (heap_at_lt h)).trans h
theorem FB.kept {R : Nat → Prop} {w w' : World} {g : Nat} {f : Fld} {A : Option Addr} {m c : Nat} (h : FB w g f A m c) (hk : Keep R w w') (hn : ¬ R g) : FB w' g f A m c := (hk.block g (heap_at_lt h) hn).trans h
theorem FB.at {w : World} {g : Nat} {f : Fld} {A : Option Addr} {m c : Nat} (h : FB w g f A m c) {j : Nat} {v : Value} (hj : (fldL f A m c)[j]? = some v) : w.cell? ⟨g, j, none⟩ = some v ∧ w.frozen? ⟨g, j, none⟩ = false := by
  unfold FB at h
  refine ⟨?_, by simp [World.frozen?, h]⟩
  rw [cell_of_row w g j _ _ _ h]
  simpa using hj
theorem FB.size {f : Fld} (h : f.t.length = 32) (A : Option Addr) (m c : Nat) : (Try.prog.info? 31).map (·.size) = some (fldL f A m c).toArray.size := by
  rw [List.size_toArray, fldL_len h]; kernel_rfl
theorem fld_one (f : Fld) (A : Option Addr) (m c : Nat) : (fldL f A m c).toArray.all (·.oneCell') = true := by
  refine Go.all_oneCell_toArray (fun v hv => ?_)
  simp only [fldL, List.mem_cons, List.mem_map] at hv
  rcases hv with rfl | rfl | rfl | rfl | rfl | ⟨b, _, rfl⟩ <;> rfl
theorem fld_new (what : Int) : (fldL ⟨what, 0, 0, false, [], zeros32⟩ none 0 0).toArray = #[.int .i64 what, .int .u8 0, .int .i64 0, .bool false, .slice none 0 0, .int .u8 0, .int .u8 0, .int .u8 0, .int .u8 0, .int .u8 0, .int .u8 0, .int .u8 0, .int .u8 0, .int .u8 0, .int .u8 0, .int .u8 0, .int .u8 0, .int .u8 0, .int .u8 0, .int .u8 0, .int .u8 0, .int .u8 0, .int .u8 0, .int .u8 0, .int .u8 0, .int .u8 0, .int .u8 0, .int .u8 0, .int .u8 0, .int .u8 0, .int .u8 0, .int .u8 0, .int .u8 0, .int .u8 0, .int .u8 0, .int .u8 0, .int .u8 0] := rfl
theorem FB.set1 {w : World} {g : Nat} {f : Fld} {A : Option Addr} {m c : Nat} (h : FB w g f A m c) (x : UInt8) : FB (w.setCell ⟨g, 1, none⟩ (.int .u8 (x.toNat : Int))) g { f with x := x } A m c := by
  unfold FB at h ⊢
  rw [heap_setCell_same _ _ _ _ _ _ h]; simp [fldL]
theorem FB.set2 {w : World} {g : Nat} {f : Fld} {A : Option Addr} {m c : Nat} (h : FB w g f A m c) (x : Int) : FB (w.setCell ⟨g, 2, none⟩ (.int .i64 x)) g { f with n := x } A m c := by
  unfold FB at h ⊢
  rw [heap_setCell_same _ _ _ _ _ _ h]; simp [fldL]
theorem FB.set3 {w : World} {g : Nat} {f : Fld} {A : Option Addr} {m c : Nat} (h : FB w g f A m c) (x : Bool) : FB (w.setCell ⟨g, 3, none⟩ (.bool x)) g { f with is := x } A m c := by
  unfold FB at h ⊢
  rw [heap_setCell_same _ _ _ _ _ _ h]; simp [fldL]
theorem FB.set4 {w : World} {g : Nat} {f : Fld} {A A' : Option Addr} {m c m' c' : Nat} (h : FB w g f A m c) (b : List UInt8) : FB (w.setCell ⟨g, 4, none⟩ (.slice A' m' c')) g { f with b := b } A' m' c' := by
  unfold FB at h ⊢
  rw [heap_setCell_same _ _ _ _ _ _ h]; simp [fldL]
theorem heap_setCells (g : Nat) (T : TypeId) : ∀ (vs : List Value) (o : Nat) (cur : Array Value) (w : World), w.heap[g]? = some (.cells cur T (0, 0)) → o + vs.length ≤ cur.size → (w.setCells g o vs).heap[g]? = some (.cells (cur.toList.take o ++ vs ++ cur.toList.drop (o + vs.length)).toArray T (0, 0))
  | [], o, cur, w, h, _ => by
    simp only [World.setCells, List.append_nil, List.length_nil, Nat.add_zero, List.take_append_drop, Array.toArray_toList]
    exact h
  | v :: rest, o, cur, w, h, hl => by
    have hi : o < cur.size := by simp at hl; omega
    have ih := heap_setCells g T rest (o + 1) (cur.setIfInBounds o v) (w.setCell ⟨g, o, none⟩ v) (heap_setCell_same _ _ _ _ _ _ h) (by simp at hl ⊢; omega)
    simp only [World.setCells]
    rw [ih]
    congr 3
    have e := list_seg_step cur.toList o v rest (by simp at hl ⊢; omega)
    simpa [Array.toList_setIfInBounds, Nat.add_assoc] using e
theorem FB.set5 {w : World} {g : Nat} {f : Fld} {A : Option Addr} {m c : Nat} (h : FB w g f A m c) (hl : f.t.length = 32) {t : List UInt8} (ht : t.length = 32) : FB (w.setCells g 5 (arrB t).toList) g { f with t := t } A m c := by
  unfold FB at h ⊢
  have hs : (arrB t).toList = t.map bval := by simp [arrB]
  rw [hs, heap_setCells g _ (t.map bval) 5 _ w h (by simp [fldL, hl, ht])]
  congr 3
  simp [fldL, hl, ht]
theorem FB.there {w : World} {g : Nat} {f : Fld} {A : Option Addr} {m c : Nat} (h : FB w g f A m c) (hl : f.t.length = 32) : w.there g 5 32 := fun j hj => by
  have hj' : 5 + j < (fldL f A m c).length := by rw [fldL_len hl]; omega
  have := h.at (j := 5 + j) (List.getElem?_eq_getElem hj')
  exact ⟨by rw [this.1]; rfl, this.2⟩
theorem keep_setCells {R : Nat → Prop} {a w : World} (h : Keep R a w) (g o : Nat) (vs : List Value) (hg : R g) : Keep R a (w.setCells g o vs) := by
  induction vs generalizing o w with
  | nil => exact h
  | cons v vs ih => exact ih (h.setCell _ _ hg) _

theorem bytesV_len (s : RS) : (bytesV s).length ≤ 65536 := by
  unfold bytesV
  split
  · exact Nat.zero_le _
  · exact Nat.le_trans RS.got_len (by omega)
/-- What back comes to. -/
def BackR (w : World) (g : Nat) (F : Nat → Prop) (s : RS) (what : Int) (e : Ending) (w' : World) : Prop :=
  ∃ A m c F', e = .returned (.agg (fldL (backF s what) A m c).toArray) ∧ Rd w' w'.heap.size A m (backF s what).b ∧ m ≤ c ∧ c ≤ 9223372036854775807 ∧ PrAt w' g F' (backS s what) ∧ Off A m F' ∧ Off A m (· < w.heap.size) ∧ (∀ k, F' k → F k ∨ w.heap.size ≤ k) ∧ Keep F w w'

theorem backF0 (s : RS) : backF s 0 = ⟨0, byteV s, 0, false, [], zeros32⟩ := by simp [backF]
theorem backF1 (s : RS) : backF s 1 = ⟨1, 0, intV s, false, [], zeros32⟩ := by simp [backF]
theorem backF2 (s : RS) : backF s 2 = ⟨2, 0, 0, decide (s.numb 1 = 1), [], zeros32⟩ := by simp [backF]
theorem backF3 (s : RS) : backF s 3 = ⟨3, 0, 0, false, bytesV s, zeros32⟩ := by simp [backF]
theorem backF4 (s : RS) : backF s 4 = ⟨4, 0, 0, false, bytesV s, zeros32⟩ := by simp [backF]
theorem backF5 (s : RS) : backF s 5 = ⟨5, 0, 0, false, [], tagV s⟩ := by simp [backF]
theorem backFn (s : RS) {what : Int} (c0 : what ≠ 0) (c1 : what ≠ 1) (c2 : what ≠ 2) (c3 : what ≠ 3) (c4 : what ≠ 4) (c5 : what ≠ 5) : backF s what = ⟨what, 0, 0, false, [], zeros32⟩ := by simp [backF, c0, c1, c2, c3, c4, c5]
theorem backS0 (s : RS) : backS s 0 = s.next 1 := by simp [backS]
theorem backS1 (s : RS) : backS s 1 = s.next 8 := by simp [backS]
theorem backS2 (s : RS) : backS s 2 = flagS s := by simp [backS]
theorem backS3 (s : RS) : backS s 3 = bytesS s := by simp [backS]
theorem backS4 (s : RS) : backS s 4 = bytesS s := by simp [backS]
theorem backS5 (s : RS) : backS s 5 = s.next 32 := by simp [backS]
theorem backSn (s : RS) {what : Int} (c0 : what ≠ 0) (c1 : what ≠ 1) (c2 : what ≠ 2) (c3 : what ≠ 3) (c4 : what ≠ 4) (c5 : what ≠ 5) : backS s what = s := by simp [backS, c0, c1, c2, c3, c4, c5]
/-- The end of it: the field's block set (w3), the result's written. -/
theorem back_end {w w2 w3 : World} {g : Nat} {F F' : Nat → Prop} {s s' : RS} {what : Int} {f : Fld} {A : Option Addr} {m c : Nat} (cells : Array Value) (hF : ∀ k, F k → k < w.heap.size) (hp : PrAt w2 g F' s') (hs : ∀ k, F' k → F k ∨ w.heap.size + 2 ≤ k) (hk : Keep F w w2) (hk3 : Keep (· = w.heap.size + 1) w2 w3) (hf : backF s what = f) (hs' : backS s what = s')
    (hr : Rd w2 w2.heap.size A m f.b) (ho : Off A m F') (ho2 : Off A m (· < w.heap.size + 2)) (hmc : m ≤ c) (hcc : c ≤ 9223372036854775807) : BackR w g F s what (.returned (.agg (fldL f A m c).toArray)) (w3.setRow w.heap.size cells) := by
  have n1 : ¬ F' (w.heap.size + 1) := fun h => by rcases hs _ h with h | h; exact absurd (hF _ h) (by omega); omega
  have n0 : ¬ F' w.heap.size := fun h => by rcases hs _ h with h | h; exact absurd (hF _ h) (by omega); omega
  have hk4 : Keep (· = w.heap.size) w3 (w3.setRow w.heap.size cells) := ⟨rfl, rfl, rfl, by rw [setRow_size]; exact Nat.le_refl _, fun k hk hr => setRow_other w3 _ k _ (fun h => hr h)⟩
  refine ⟨A, m, c, F', by rw [hf], ?_, hmc, hcc, ?_, ho, fun hn b o e h => ho2 hn b o e (Nat.lt_of_lt_of_le h (by omega)), fun k h => (hs k h).imp id (by omega), ?_⟩
  · rw [hf]
    exact (hr.kept hk3 (fun hn b o e h => ho2 hn b o e (by show b < _; omega))).kept hk4 (fun hn b o e h => ho2 hn b o e (by show b < _; omega))
  · rw [hs']
    exact (hp.kept hk3 (fun k hk e => n1 (e ▸ hk))).kept hk4 (fun k hk e => n0 (e ▸ hk))
  · exact (hk.new (hk3.more (fun k h => .inr (by omega)))).new (hk4.more (fun k h => .inr (by omega)))

/-- A field of noughts. -/
def zeroF : Array Value := (fldL Fld.zero none 0 0).toArray
theorem fld_info : (Try.prog.info? 31).map (fun i => (i.zero, i.size)) = some (some (.agg zeroF), 37) := by kernel_rfl
theorem fld_zero (w : World) : (zeroValue 31).run Try.prog w = .ok (.agg zeroF) w := (zero_of_info fld_info).1 w
/-- What stands when the two fields' blocks are laid. -/
structure BackPre (w w0 w1 : World) (g : Nat) (F : Nat → Prop) (s : RS) (what : Int) : Prop where
  hF : ∀ k, F k → k < w.heap.size
  hw0 : (w.alloc (.cells zeroF 31)).alloc (.cells zeroF 31) = w0
  g0 : w0.heap[w.heap.size + 1]? = some (.cells zeroF 31 (0, 0))
  hw : w0.setRow (w.heap.size + 1) (fldL ⟨what, 0, 0, false, [], zeros32⟩ none 0 0).toArray = w1
  f1 : FB w1 (w.heap.size + 1) ⟨what, 0, 0, false, [], zeros32⟩ none 0 0
  z1 : FB w1 w.heap.size ⟨0, 0, 0, false, [], zeros32⟩ none 0 0
  b1 : Below w.heap.size w w1
  s1 : w1.heap.size = w.heap.size + 2
  h1 : PrAt w1 g F s
theorem backPre (g : Nat) (F : Nat → Prop) (s : RS) (what : Int) (w : World) (h : PrAt w g F s) : ∃ w0 w1, BackPre w w0 w1 g F s what := by
  have hsz0 : (w.alloc (.cells zeroF 31)).heap.size = w.heap.size + 1 := by simp
  obtain ⟨w0, hw0⟩ : ∃ w0, (w.alloc (.cells zeroF 31)).alloc (.cells zeroF 31) = w0 := ⟨_, rfl⟩
  have g0 : w0.heap[w.heap.size + 1]? = some (.cells zeroF 31 (0, 0)) := by
    rw [← hw0, ← hsz0]
    exact heap_alloc_last _ _
  have g1 : w0.heap[w.heap.size]? = some (.cells zeroF 31 (0, 0)) := by
    rw [← hw0]
    exact (Below.heap_alloc _ _ w.heap.size (by rw [hsz0]; omega)).trans (heap_alloc_last w _)
  have b0 : Below w.heap.size w w0 := by
    rw [← hw0]
    exact ((Below.refl _ _).alloc (Nat.le_refl _) _).alloc (by rw [hsz0]; omega) _
  have s0 : w0.heap.size = w.heap.size + 2 := by rw [← hw0]; simp
  have b1 := below_setRow b0 (show w.heap.size ≤ w.heap.size + 1 by omega) (fldL ⟨what, 0, 0, false, [], zeros32⟩ none 0 0).toArray
  refine ⟨w0, _, h.lt, hw0, g0, rfl, setRow_heap _ _ _ _ _ _ g0, ?_, b1, by rw [setRow_size]; exact s0, h.to b1⟩
  exact (setRow_other w0 _ _ _ (by omega)).trans g1
set_option maxRecDepth 1000000 in
set_option maxHeartbeats 1000000 in
theorem rBack0 (g : Nat) (F : Nat → Prop) (s : RS) (w : World) (h : PrAt w g F s) :
    Calls Try.prog 37 #[.pointer (some ⟨g, 0, none⟩), .int .i64 0] w (BackR w g F s 0) := by
  have hz := tag_zero
  have hzf := fld_zero
  obtain ⟨w0, w1, hpre⟩ := backPre g F s 0 w h
  have HW := Lib.hid hpre.hw
  have HW0 := Lib.hid hpre.hw0
  have G0 := Lib.hid hpre.g0
  have HF := Lib.hid hpre.hF
  have F1 := Lib.hid hpre.f1
  have Z1 := Lib.hid hpre.z1
  have B1 := Lib.hid hpre.b1
  have S1 := Lib.hid hpre.s1
  have H := Lib.hid hpre.h1
  have SZ : Hid (zeroF.size = 37) := rfl
  have SF : Hid (∀ (f : Fld) (A : Option Addr) (m c : Nat), f.t.length = 32 → (Try.prog.info? 31).map (·.size) = some (fldL f A m c).toArray.size) := fun f A m c h => FB.size h A m c
  clear hpre h
  go_enter Try.func37, Try.ntmps37
  go_wp2_with (refine wpList_store_row rfl 31 _ _ rfl (w.heap.size + 1) (fldL ⟨0, 0, 0, false, [], zeros32⟩ none 0 0).toArray rfl rfl 31 zeroF (by rw [HW0.out]; exact G0.out) (SF.out _ _ _ _ rfl) (by rw [SZ.out, List.size_toArray, fldL_len rfl]) (fld_one _ _ _ _) ?_; rw [HW0.out, HW.out])
  refine (pByte g F s w1 H.out).mono ?_
  have EF := Lib.hid (backF0 s)
  obtain ⟨x, hx⟩ : ∃ x, byteV s = x := ⟨_, rfl⟩
  rw [hx] at EF
  rw [hx]
  clear hx
  rintro e w2 ⟨rfl, F', hp, hs, hk⟩
  have HP := Lib.hid hp
  have HS : Hid (∀ k, F' k → F k ∨ w.heap.size + 2 ≤ k) := fun k h => by rw [← S1.out]; exact hs k h
  have HK : Hid (Keep F w w2) := (Keep.of_below B1.out).trans hk
  have F2 : Hid (FB w2 (w.heap.size + 1) ⟨0, 0, 0, false, [], zeros32⟩ none 0 0) := F1.out.kept hk (fun h => absurd (HF.out _ h) (by omega))
  have Z2 : Hid (FB w2 w.heap.size ⟨0, 0, 0, false, [], zeros32⟩ none 0 0) := Z1.out.kept hk (fun h => absurd (HF.out _ h) (by omega))
  clear hp hs hk HW F1 Z1 H
  obtain ⟨hcl, hfr⟩ := F2.out.at (j := 1) rfl
  have F3 := Lib.hid (F2.out.set1 x)
  have K3 : Hid (Keep (· = w.heap.size + 1) w2 (w2.setCell ⟨w.heap.size + 1, 1, none⟩ (.int .u8 (x.toNat : Int)))) := (Keep.refl (· = w.heap.size + 1) w2).setCell ⟨w.heap.size + 1, 1, none⟩ _ rfl
  have Z3 := Lib.hid (Z2.out.kept K3.out (by omega))
  have ES := Lib.hid (backS0 s)
  have HTT : Hid ((zeros32 : List UInt8).length = 32) := rfl
  have HRR : Hid (Rd w2 w2.heap.size none 0 []) := Rd.nil _ _ _
  have HO : Hid (Off none 0 F') := fun h => absurd h (Nat.lt_irrefl 0)
  have HO2 : Hid (Off none 0 (· < w.heap.size + 2)) := fun h => absurd h (Nat.lt_irrefl 0)
  have HMC : Hid (0 ≤ 0) := Nat.le_refl 0
  have HCC : Hid (0 ≤ 9223372036854775807) := Nat.zero_le _
  clear Z2 F2
  go_wp2_with (first | (refine wpList_load_row rfl 31 _ rfl (w.heap.size + 1) rfl 31 _ (0, 0) _ F3.out Try.underlying31 rfl (SF.out _ _ _ _ HTT.out) ?_) | (refine wpList_store_row rfl 31 _ _ rfl w.heap.size _ rfl rfl 31 _ Z3.out (SF.out _ _ _ _ HTT.out) (by rw [List.size_toArray, List.size_toArray, fldL_len HTT.out, fldL_len (show (zeros32 : List UInt8).length = 32 from rfl)]) (fld_one _ _ _ _) ?_))
  (try simp only [Exit.inBlock, Exit.then])
  refine bodyPost_ret ?_ rfl (back_end (w2 := w2) _ HF.out HP.out HS.out HK.out K3.out EF.out ES.out HRR.out HO.out HO2.out HMC.out HCC.out)
  exact results_cell_row rfl _ _ w.heap.size 31 _ (0, 0) _ rfl (setRow_heap _ _ _ _ _ _ Z3.out) Try.underlying31 rfl (SF.out _ _ _ _ HTT.out)
set_option maxRecDepth 1000000 in
set_option maxHeartbeats 1000000 in
theorem rBack1 (g : Nat) (F : Nat → Prop) (s : RS) (w : World) (h : PrAt w g F s) :
    Calls Try.prog 37 #[.pointer (some ⟨g, 0, none⟩), .int .i64 1] w (BackR w g F s 1) := by
  have hz := tag_zero
  have hzf := fld_zero
  obtain ⟨w0, w1, hpre⟩ := backPre g F s 1 w h
  have HW := Lib.hid hpre.hw
  have HW0 := Lib.hid hpre.hw0
  have G0 := Lib.hid hpre.g0
  have HF := Lib.hid hpre.hF
  have F1 := Lib.hid hpre.f1
  have Z1 := Lib.hid hpre.z1
  have B1 := Lib.hid hpre.b1
  have S1 := Lib.hid hpre.s1
  have H := Lib.hid hpre.h1
  have SZ : Hid (zeroF.size = 37) := rfl
  have SF : Hid (∀ (f : Fld) (A : Option Addr) (m c : Nat), f.t.length = 32 → (Try.prog.info? 31).map (·.size) = some (fldL f A m c).toArray.size) := fun f A m c h => FB.size h A m c
  clear hpre h
  go_enter Try.func37, Try.ntmps37
  go_wp2_with (refine wpList_store_row rfl 31 _ _ rfl (w.heap.size + 1) (fldL ⟨1, 0, 0, false, [], zeros32⟩ none 0 0).toArray rfl rfl 31 zeroF (by rw [HW0.out]; exact G0.out) (SF.out _ _ _ _ rfl) (by rw [SZ.out, List.size_toArray, fldL_len rfl]) (fld_one _ _ _ _) ?_; rw [HW0.out, HW.out])
  refine (pInt g F s w1 H.out).mono ?_
  have EF := Lib.hid (backF1 s)
  obtain ⟨x, hx⟩ : ∃ x, intV s = x := ⟨_, rfl⟩
  rw [hx] at EF ⊢
  clear hx
  rintro e w2 ⟨rfl, F', hp, hs, hk⟩
  have HP := Lib.hid hp
  have HS : Hid (∀ k, F' k → F k ∨ w.heap.size + 2 ≤ k) := fun k h => by rw [← S1.out]; exact hs k h
  have HK : Hid (Keep F w w2) := (Keep.of_below B1.out).trans hk
  have F2 : Hid (FB w2 (w.heap.size + 1) ⟨1, 0, 0, false, [], zeros32⟩ none 0 0) := F1.out.kept hk (fun h => absurd (HF.out _ h) (by omega))
  have Z2 : Hid (FB w2 w.heap.size ⟨0, 0, 0, false, [], zeros32⟩ none 0 0) := Z1.out.kept hk (fun h => absurd (HF.out _ h) (by omega))
  clear hp hs hk HW F1 Z1 H
  obtain ⟨hcl, hfr⟩ := F2.out.at (j := 2) rfl
  have F3 := Lib.hid (F2.out.set2 x)
  have K3 : Hid (Keep (· = w.heap.size + 1) w2 (w2.setCell ⟨w.heap.size + 1, 2, none⟩ (.int .i64 x))) := (Keep.refl (· = w.heap.size + 1) w2).setCell ⟨w.heap.size + 1, 2, none⟩ _ rfl
  have Z3 := Lib.hid (Z2.out.kept K3.out (by omega))
  have ES := Lib.hid (backS1 s)
  have HTT : Hid ((zeros32 : List UInt8).length = 32) := rfl
  have HRR : Hid (Rd w2 w2.heap.size none 0 []) := Rd.nil _ _ _
  have HO : Hid (Off none 0 F') := fun h => absurd h (Nat.lt_irrefl 0)
  have HO2 : Hid (Off none 0 (· < w.heap.size + 2)) := fun h => absurd h (Nat.lt_irrefl 0)
  have HMC : Hid (0 ≤ 0) := Nat.le_refl 0
  have HCC : Hid (0 ≤ 9223372036854775807) := Nat.zero_le _
  clear Z2 F2
  go_wp2_with (first | (refine wpList_load_row rfl 31 _ rfl (w.heap.size + 1) rfl 31 _ (0, 0) _ F3.out Try.underlying31 rfl (SF.out _ _ _ _ HTT.out) ?_) | (refine wpList_store_row rfl 31 _ _ rfl w.heap.size _ rfl rfl 31 _ Z3.out (SF.out _ _ _ _ HTT.out) (by rw [List.size_toArray, List.size_toArray, fldL_len HTT.out, fldL_len (show (zeros32 : List UInt8).length = 32 from rfl)]) (fld_one _ _ _ _) ?_))
  (try simp only [Exit.inBlock, Exit.then])
  refine bodyPost_ret ?_ rfl (back_end (w2 := w2) _ HF.out HP.out HS.out HK.out K3.out EF.out ES.out HRR.out HO.out HO2.out HMC.out HCC.out)
  exact results_cell_row rfl _ _ w.heap.size 31 _ (0, 0) _ rfl (setRow_heap _ _ _ _ _ _ Z3.out) Try.underlying31 rfl (SF.out _ _ _ _ HTT.out)
set_option maxRecDepth 1000000 in
set_option maxHeartbeats 1000000 in
theorem rBack2 (g : Nat) (F : Nat → Prop) (s : RS) (w : World) (h : PrAt w g F s) :
    Calls Try.prog 37 #[.pointer (some ⟨g, 0, none⟩), .int .i64 2] w (BackR w g F s 2) := by
  have hz := tag_zero
  have hzf := fld_zero
  obtain ⟨w0, w1, hpre⟩ := backPre g F s 2 w h
  have HW := Lib.hid hpre.hw
  have HW0 := Lib.hid hpre.hw0
  have G0 := Lib.hid hpre.g0
  have HF := Lib.hid hpre.hF
  have F1 := Lib.hid hpre.f1
  have Z1 := Lib.hid hpre.z1
  have B1 := Lib.hid hpre.b1
  have S1 := Lib.hid hpre.s1
  have H := Lib.hid hpre.h1
  have SZ : Hid (zeroF.size = 37) := rfl
  have SF : Hid (∀ (f : Fld) (A : Option Addr) (m c : Nat), f.t.length = 32 → (Try.prog.info? 31).map (·.size) = some (fldL f A m c).toArray.size) := fun f A m c h => FB.size h A m c
  clear hpre h
  go_enter Try.func37, Try.ntmps37
  go_wp2_with (refine wpList_store_row rfl 31 _ _ rfl (w.heap.size + 1) (fldL ⟨2, 0, 0, false, [], zeros32⟩ none 0 0).toArray rfl rfl 31 zeroF (by rw [HW0.out]; exact G0.out) (SF.out _ _ _ _ rfl) (by rw [SZ.out, List.size_toArray, fldL_len rfl]) (fld_one _ _ _ _) ?_; rw [HW0.out, HW.out])
  refine (pFlag g F s w1 H.out).mono ?_
  have EF := Lib.hid (backF2 s)
  obtain ⟨x, hx⟩ : ∃ x, decide (s.numb 1 = 1) = x := ⟨_, rfl⟩
  rw [hx] at EF ⊢
  clear hx
  rintro e w2 ⟨rfl, F', hp, hs, hk⟩
  have HP := Lib.hid hp
  have HS : Hid (∀ k, F' k → F k ∨ w.heap.size + 2 ≤ k) := fun k h => by rw [← S1.out]; exact hs k h
  have HK : Hid (Keep F w w2) := (Keep.of_below B1.out).trans hk
  have F2 : Hid (FB w2 (w.heap.size + 1) ⟨2, 0, 0, false, [], zeros32⟩ none 0 0) := F1.out.kept hk (fun h => absurd (HF.out _ h) (by omega))
  have Z2 : Hid (FB w2 w.heap.size ⟨0, 0, 0, false, [], zeros32⟩ none 0 0) := Z1.out.kept hk (fun h => absurd (HF.out _ h) (by omega))
  clear hp hs hk HW F1 Z1 H
  obtain ⟨hcl, hfr⟩ := F2.out.at (j := 3) rfl
  have F3 := Lib.hid (F2.out.set3 x)
  have K3 : Hid (Keep (· = w.heap.size + 1) w2 (w2.setCell ⟨w.heap.size + 1, 3, none⟩ (.bool x))) := (Keep.refl (· = w.heap.size + 1) w2).setCell ⟨w.heap.size + 1, 3, none⟩ _ rfl
  have Z3 := Lib.hid (Z2.out.kept K3.out (by omega))
  have ES := Lib.hid (backS2 s)
  have HTT : Hid ((zeros32 : List UInt8).length = 32) := rfl
  have HRR : Hid (Rd w2 w2.heap.size none 0 []) := Rd.nil _ _ _
  have HO : Hid (Off none 0 F') := fun h => absurd h (Nat.lt_irrefl 0)
  have HO2 : Hid (Off none 0 (· < w.heap.size + 2)) := fun h => absurd h (Nat.lt_irrefl 0)
  have HMC : Hid (0 ≤ 0) := Nat.le_refl 0
  have HCC : Hid (0 ≤ 9223372036854775807) := Nat.zero_le _
  clear Z2 F2
  go_wp2_with (first | (refine wpList_load_row rfl 31 _ rfl (w.heap.size + 1) rfl 31 _ (0, 0) _ F3.out Try.underlying31 rfl (SF.out _ _ _ _ HTT.out) ?_) | (refine wpList_store_row rfl 31 _ _ rfl w.heap.size _ rfl rfl 31 _ Z3.out (SF.out _ _ _ _ HTT.out) (by rw [List.size_toArray, List.size_toArray, fldL_len HTT.out, fldL_len (show (zeros32 : List UInt8).length = 32 from rfl)]) (fld_one _ _ _ _) ?_))
  (try simp only [Exit.inBlock, Exit.then])
  refine bodyPost_ret ?_ rfl (back_end (w2 := w2) _ HF.out HP.out HS.out HK.out K3.out EF.out ES.out HRR.out HO.out HO2.out HMC.out HCC.out)
  exact results_cell_row rfl _ _ w.heap.size 31 _ (0, 0) _ rfl (setRow_heap _ _ _ _ _ _ Z3.out) Try.underlying31 rfl (SF.out _ _ _ _ HTT.out)
end Go.Proofs.Ytmhknpkiddgcpaa
