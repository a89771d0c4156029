/- The program's disk (disk): where it lies (DkAt), and its functions that only look. -/
import Derived.Test.YtopilgedcnbdaaaDoorTz
import Derived.Test.YtopilgedcnbdaaaDoorDiskMap
import Derived.Deep.MidRow
import Derived.Deep.WholeRow
import Derived.WalkSpells
import Derived.Lib.SliceRun
namespace Go.Proofs.YtopilgedcnbdaaaDoor
set_option maxRecDepth 1000000
set_option maxHeartbeats 8000000
open Go.RowKit
set_option linter.unusedVariables false
set_option linter.unusedSimpArgs false
theorem dkArr0 (n : Nat) : arrB (List.replicate n 0) = Array.replicate n (Value.int .u8 0) := by
 unfold arrB
 rw [List.map_replicate]
 exact List.toArray_replicate ..
theorem sec_info : (Tryd.prog.info? 73).map (fun i => (i.zero, i.size)) = some (some (.agg (Array.replicate 64 (.int .u8 0))), 64) := by kernel_rfl
theorem sec_zero (w : World) : (zeroValue 73).run Tryd.prog w = .ok (secV sec0) w := by
 rw [secV, sec0, dkArr0]; exact (zero_of_info sec_info).1 w
theorem sec_size {bs : List UInt8} (h : bs.length = 64) : (Tryd.prog.info? 73).map (·.size) = some (arrB bs).size := by
 rw [arrB_size, h]; exact (zero_of_info sec_info).2
theorem sec_len {bs : List UInt8} (h : bs.length = 64) : (Tryd.prog.info? 73).map (·.size) = some (bs.map bval).length := by
 rw [List.length_map, h]; exact (zero_of_info sec_info).2
def bits0 : List UInt8 := List.replicate 128 0
theorem secs_nil (w : World) (a : Option Addr) (n c : Nat) : (binOp .eql 28 (.slice a n c) (.slice none 0 0)).run Tryd.prog w = .ok (.bool a.isNone) w := Lib.run_eql_slice_nil w _ _ a n c 0 0 Tryd.underlying28
theorem u8_nil (w : World) (a : Option Addr) (n c : Nat) : (binOp .eql 22 (.slice a n c) (.slice none 0 0)).run Tryd.prog w = .ok (.bool a.isNone) w := Lib.run_eql_slice_nil w _ _ a n c 0 0 Tryd.underlying22
theorem u8_some (w : World) (a : Option Addr) (n c : Nat) : (binOp .neq 22 (.slice a n c) (.slice none 0 0)).run Tryd.prog w = .ok (.bool (!a.isNone)) w := run_neq_slice_nil_any w _ _ a n c 0 0 Tryd.underlying22
structure SecsAt (w : World) (fb : Nat) (fs : List (List UInt8)) : Prop where
 at_ : ∀ i, i < fs.length → w.rangeAt fb (i * 64) ((fs.getD i []).map bval)
 there : w.there fb 0 (fs.length * 64)
 len : ∀ x ∈ fs, x.length = 64
theorem SecsAt.block {w w' : World} {fb : Nat} {fs : List (List UInt8)} (h : SecsAt w fb fs) (hb : w'.heap[fb]? = w.heap[fb]?) : SecsAt w' fb fs :=
 ⟨fun i hi j v hv => (World.cell?_of_block hb).trans (h.at_ i hi j v hv), fun j hj => ⟨by rw [World.cell?_of_block hb]; exact (h.there j hj).1, by rw [World.frozen?_of_block hb]; exact (h.there j hj).2⟩, h.len⟩
theorem SecsAt.getLen {w : World} {fb : Nat} {fs : List (List UInt8)} (h : SecsAt w fb fs) {i : Nat} (hi : i < fs.length) : (fs.getD i []).length = 64 := by
 have e : fs.getD i [] = fs[i] := by simp [List.getD, hi]
 rw [e]; exact h.len _ (List.getElem_mem hi)
theorem SecsAt.thereAt {w : World} {fb : Nat} {fs : List (List UInt8)} (h : SecsAt w fb fs) {i : Nat} (hi : i < fs.length) : w.there fb (i * 64) 64 := fun j hj => by
 have := h.there (i * 64 + j) (by omega)
 rwa [Nat.zero_add] at this
theorem rd_range {w : World} {B b o n : Nat} {bs : List UInt8} (hn : bs.length = n) (hb : b < B) (h : w.rangeAt b o (bs.map bval)) : Rd w B (some ⟨b, o, none⟩) n bs :=
 ⟨hn, fun _ => ⟨b, o, rfl, hb, fun j hj => h j _ (by rw [List.getElem?_map, List.getElem?_eq_getElem (by omega), nth_of_lt (by omega)]; rfl)⟩⟩
theorem SecsAt.set {w : World} {fb : Nat} {fs : List (List UInt8)} (h : SecsAt w fb fs) {i : Nat} (hi : i < fs.length) {bs : List UInt8} (hb : bs.length = 64) : SecsAt (w.setCells fb (i * 64) (bs.map bval)) fb (fs.set i bs) := by
 have ht : w.there fb (i * 64) (bs.map bval).length := by rw [List.length_map, hb]; exact h.thereAt hi
 refine ⟨fun j hj => ?_, ?_, fun x hx => ?_⟩
 ·rw [List.length_set] at hj
  by_cases e : i = j
  ·subst e
   have e1 : (fs.set i bs).getD i [] = bs := by simp [List.getD, hi]
   rw [e1]
   exact w.rangeAt_setCells_same fb (i * 64) _ ht
  ·have e1 : (fs.set i bs).getD j [] = fs.getD j [] := by simp [List.getD, e]
   rw [e1]
   refine World.rangeAt_setCells_apart (h.at_ j hj) _ _ _ (.inr ?_)
   rw [List.length_map, List.length_map, hb, h.getLen hj]
   omega
 ·rw [List.length_set]
  exact World.there_setCells h.there _ _ _
 ·rcases List.mem_or_eq_of_mem_set hx with hx | rfl
  ·exact h.len x hx
  ·exact hb
def StAt (w : World) (v : Value) (cb : Nat) (stay : List UInt8) : Prop := False
theorem StAt.block {w w' : World} {v : Value} {cb : Nat} {stay : List UInt8} (h : StAt w v cb stay) (hb : w'.heap[cb]? = w.heap[cb]?) : StAt w' v cb stay := h.elim
def dkCells (fb mb n : Nat) (up : Bool) (left : Nat) (stv : Value) : Array Value := #[.slice (some ⟨fb, 0, none⟩) n n, .map (some mb), .bool up, .int .i64 (left : Int), stv]
structure DkP (w : World) (d fb mb : Nat) (stv : Value) (F : Nat → Prop) (s : DS) : Prop where
 obj : w.heap[d]? = some (.cells (dkCells fb mb s.L.length s.up s.left stv) 34 (0, 0))
 secs : SecsAt w fb (s.L.map (·.1))
 map : MapIs w mb s.L
 st : s.left ≠ 0 → ∃ cb, StAt w stv cb s.stay ∧ F cb ∧ cb ≠ d ∧ cb ≠ fb ∧ cb ≠ mb
 one : stv.oneCell' = true
 fd : F d
 ff : F fb
 fm : F mb
 df : d ≠ fb
 dm : d ≠ mb
 fmne : fb ≠ mb
 lt : ∀ k, F k → k < w.heap.size
 ok : s.ok
def DkAt (w : World) (d : Nat) (F : Nat → Prop) (s : DS) : Prop := ∃ fb mb stv, DkP w d fb mb stv F s
theorem DkP.kept {R : Nat → Prop} {w w' : World} {d fb mb : Nat} {stv : Value} {F : Nat → Prop} {s : DS} (h : DkP w d fb mb stv F s) (hk : Keep R w w') (hn : ∀ k, F k → ¬ R k) : DkP w' d fb mb stv F s := by
 have hb : ∀ k, F k → w'.heap[k]? = w.heap[k]? := fun k hf => hk.block k (h.lt k hf) (hn k hf)
 exact ⟨(hb d h.fd).trans h.obj, h.secs.block (hb fb h.ff), h.map.block (hb mb h.fm), fun hl => by
  obtain ⟨cb, h1, h2, h3⟩ := h.st hl
  exact ⟨cb, h1.block (hb cb h2), h2, h3⟩, h.one, h.fd, h.ff, h.fm, h.df, h.dm, h.fmne, fun k hf => Nat.lt_of_lt_of_le (h.lt k hf) hk.size, h.ok⟩
theorem DkAt.kept {R : Nat → Prop} {w w' : World} {d : Nat} {F : Nat → Prop} {s : DS} (h : DkAt w d F s) (hk : Keep R w w') (hn : ∀ k, F k → ¬ R k) : DkAt w' d F s := by
 obtain ⟨fb, mb, stv, h⟩ := h
 exact ⟨fb, mb, stv, h.kept hk hn⟩
theorem DkP.to {w w' : World} {d fb mb : Nat} {stv : Value} {F : Nat → Prop} {s : DS} (h : DkP w d fb mb stv F s) (hb : Below w.heap.size w w') : DkP w' d fb mb stv F s := h.kept (R := fun _ => False) (Keep.of_below hb) (fun _ _ h => h)
theorem DkAt.to {w w' : World} {d : Nat} {F : Nat → Prop} {s : DS} (h : DkAt w d F s) (hb : Below w.heap.size w w') : DkAt w' d F s := h.kept (R := fun _ => False) (Keep.of_below hb) (fun _ _ h => h)
theorem DkAt.lt {w : World} {d : Nat} {F : Nat → Prop} {s : DS} (h : DkAt w d F s) : ∀ k, F k → k < w.heap.size := by
 obtain ⟨fb, mb, stv, h⟩ := h
 exact h.lt
theorem DkAt.fd {w : World} {d : Nat} {F : Nat → Prop} {s : DS} (h : DkAt w d F s) : F d := by
 obtain ⟨fb, mb, stv, h⟩ := h
 exact h.fd
theorem DkAt.ok {w : World} {d : Nat} {F : Nat → Prop} {s : DS} (h : DkAt w d F s) : s.ok := by
 obtain ⟨fb, mb, stv, h⟩ := h
 exact h.ok
theorem DkP.more {w : World} {d fb mb : Nat} {stv : Value} {F G : Nat → Prop} {s : DS} (h : DkP w d fb mb stv F s) (hg : ∀ k, F k → G k) (hl : ∀ k, G k → k < w.heap.size) : DkP w d fb mb stv G s :=
 ⟨h.obj, h.secs, h.map, fun hn => by obtain ⟨cb, h1, h2, h3⟩ := h.st hn; exact ⟨cb, h1, hg _ h2, h3⟩, h.one, hg _ h.fd, hg _ h.ff, hg _ h.fm, h.df, h.dm, h.fmne, hl, h.ok⟩
theorem DkAt.more {w : World} {d : Nat} {F G : Nat → Prop} {s : DS} (h : DkAt w d F s) (hg : ∀ k, F k → G k) (hl : ∀ k, G k → k < w.heap.size) : DkAt w d G s := by
 obtain ⟨fb, mb, stv, h⟩ := h
 exact ⟨fb, mb, stv, h.obj, h.secs, h.map, fun hn => by obtain ⟨cb, h1, h2, h3⟩ := h.st hn; exact ⟨cb, h1, hg _ h2, h3⟩, h.one, hg _ h.fd, hg _ h.ff, hg _ h.fm, h.df, h.dm, h.fmne, hl, h.ok⟩
theorem dkCell {w : World} {d fb mb n left : Nat} {up : Bool} {stv : Value} {T : TypeId} (h : w.heap[d]? = some (.cells (dkCells fb mb n up left stv) T (0, 0))) :
  w.cell? ⟨d, 0, none⟩ = some (.slice (some ⟨fb, 0, none⟩) n n) ∧ w.cell? ⟨d, 1, none⟩ = some (.map (some mb)) ∧ w.cell? ⟨d, 2, none⟩ = some (.bool up) ∧ w.cell? ⟨d, 3, none⟩ = some (.int .i64 (left : Int)) ∧ w.cell? ⟨d, 4, none⟩ = some stv ∧
  w.frozen? ⟨d, 2, none⟩ = false ∧ w.frozen? ⟨d, 3, none⟩ = false ∧ w.frozen? ⟨d, 4, none⟩ = false := by
 refine ⟨?_, ?_, ?_, ?_, ?_, ?_, ?_, ?_⟩ <;> simp [World.cell?, World.frozen?, h, dkCells]
inductive DkNo : World → Value → Prop
 | none (w : World) : DkNo w (.pointer none)
 | fresh (w : World) (d : Nat) (h : w.heap[d]? = some (.cells #[.slice none 0 0, .map none, .bool false, .int .i64 0, Value.nilFunc] 34 (0, 0))) : DkNo w (.pointer (some ⟨d, 0, none⟩))
theorem DkNo.to {w w' : World} {p : Value} (h : DkNo w p) (hb : Below w.heap.size w w') : DkNo w' p := by
 cases h with
 | none => exact .none _
 | fresh d h => exact .fresh _ d ((hb.block d (heap_at_lt h)).trans h)
theorem dState (d : Nat) (F : Nat → Prop) (s : DS) (w : World) (h : DkAt w d F s) : Calls Tryd.prog 28 #[.pointer (some ⟨d, 0, none⟩)] w fun e w' => e = .returned (.int .i64 (if s.up then 0 else 60)) ∧ w = w' := by
 obtain ⟨fb, mb, stv, h⟩ := h
 obtain ⟨c0, c1, c2, c3, c4, z2, z3, z4⟩ := dkCell h.obj
 clear h
 have q := secs_nil
 go_enter Tryd.func28, Tryd.ntmps28
 cases hu : s.up <;> rw [hu] at c2 <;> clear hu
 ·go_wp2_with fail
  go_ret
  exact ⟨rfl, rfl⟩
 ·go_wp2_with fail
  go_ret
  exact ⟨rfl, rfl⟩
theorem dStateNo (p : Value) (w : World) (h : DkNo w p) : Calls Tryd.prog 28 #[p] w fun e w' => e = .returned (.int .i64 1) ∧ w = w' := by
 cases h with
 | none =>
  go_enter Tryd.func28, Tryd.ntmps28
  go_wp2_with fail
  go_ret
  exact ⟨rfl, rfl⟩
 | fresh d h =>
  have c0 : w.cell? ⟨d, 0, none⟩ = some (.slice none 0 0) := by simp [World.cell?, h]
  clear h
  have q := secs_nil
  go_enter Tryd.func28, Tryd.ntmps28
  go_wp2_with fail
  go_ret
  exact ⟨rfl, rfl⟩
theorem dLen (d : Nat) (F : Nat → Prop) (s : DS) (w : World) (h : DkAt w d F s) : Calls Tryd.prog 25 #[.pointer (some ⟨d, 0, none⟩)] w fun e w' => e = .returned (.int .i64 (s.L.length : Int)) ∧ w = w' := by
 obtain ⟨fb, mb, stv, h⟩ := h
 obtain ⟨c0, c1, c2, c3, c4, z2, z3, z4⟩ := dkCell h.obj
 clear h
 generalize s.L.length = n at *
 go_enter Tryd.func25, Tryd.ntmps25
 go_wp2_with fail
 go_ret
 exact ⟨rfl, rfl⟩
theorem dLenNo (p : Value) (w : World) (h : DkNo w p) : Calls Tryd.prog 25 #[p] w fun e w' => e = .returned (.int .i64 0) ∧ w = w' := by
 cases h with
 | none =>
  go_enter Tryd.func25, Tryd.ntmps25
  go_wp2_with fail
  go_ret
  exact ⟨rfl, rfl⟩
 | fresh d h =>
  have c0 : w.cell? ⟨d, 0, none⟩ = some (.slice none 0 0) := by simp [World.cell?, h]
  clear h
  go_enter Tryd.func25, Tryd.ntmps25
  go_wp2_with fail
  go_ret
  exact ⟨rfl, rfl⟩
def hasN (n : Nat) (i : Int) : Bool := decide (0 ≤ i ∧ i < n)
theorem dHasP (p : Value) (n : Nat) (i : Int) (w : World) (h : Calls Tryd.prog 25 #[p] w fun e w' => e = .returned (.int .i64 (n : Int)) ∧ w = w') :
  Calls Tryd.prog 29 #[p, .int .i64 i] w fun e w' => e = .returned (.bool (hasN n i)) ∧ w = w' := by
 have H := qH h
 clear h
 go_enter Tryd.func29, Tryd.ntmps29
 by_cases h0 : i ≥ 0
 ·go_wp2_with fail
  refine (H.out).mono ?_
  rintro e w1 ⟨rfl, rfl⟩
  by_cases h1 : i < (n : Int)
  ·have HR : Hid (hasN n i = true) := by show _ = _; simp only [hasN, decide_eq_true_eq]; omega
   go_wp2_with fail
   go_ret
   rw [HR.out]
   exact ⟨rfl, rfl⟩
  ·have HR : Hid (hasN n i = false) := by show _ = _; simp only [hasN, decide_eq_false_iff_not]; omega
   have HN : Hid (¬ i < (n : Int)) := h1
   go_wp2_with fail
   go_ret
   rw [HR.out]
   refine ⟨?_, rfl⟩
   show Ending.returned (.bool (decide (i < (n : Int)))) = _
   rw [decide_eq_false (by have := HN.out; omega)]
 ·have HR : Hid (hasN n i = false) := by show _ = _; simp only [hasN, decide_eq_false_iff_not]; omega
  go_wp2_with fail
  go_ret
  rw [HR.out]
  exact ⟨rfl, rfl⟩
theorem dHas (d : Nat) (F : Nat → Prop) (s : DS) (i : Int) (w : World) (h : DkAt w d F s) : Calls Tryd.prog 29 #[.pointer (some ⟨d, 0, none⟩), .int .i64 i] w fun e w' => e = .returned (.bool (s.has i)) ∧ w = w' :=
 dHasP _ _ i w (dLen d F s w h)
theorem dHasNo (p : Value) (i : Int) (w : World) (h : DkNo w p) : Calls Tryd.prog 29 #[p, .int .i64 i] w fun e w' => e = .returned (.bool false) ∧ w = w' := by
 have h1 := dHasP p 0 i w (dLenNo p w h)
 have e : hasN 0 i = false := by simp only [hasN, decide_eq_false_iff_not]; omega
 rwa [e] at h1
theorem dUp (d : Nat) (F : Nat → Prop) (s : DS) (w : World) (h : DkAt w d F s) : Calls Tryd.prog 26 #[.pointer (some ⟨d, 0, none⟩)] w fun e w' => e = .returned (.bool s.up) ∧ w = w' := by
 have H := qH (dState d F s w h)
 clear h
 go_enter Tryd.func26, Tryd.ntmps26
 go_wp2_with fail
 refine (H.out).mono ?_
 rintro e w1 ⟨rfl, rfl⟩
 cases hu : s.up
 ·have HU := qH hu
  clear hu
  go_wp2_with fail
  go_ret
  rw [HU.out]
  exact ⟨rfl, rfl⟩
 ·have HU := qH hu
  clear hu
  go_wp2_with fail
  go_ret
  rw [HU.out]
  exact ⟨rfl, rfl⟩
theorem dUpNo (p : Value) (w : World) (h : DkNo w p) : Calls Tryd.prog 26 #[p] w fun e w' => e = .returned (.bool false) ∧ w = w' := by
 have H := qH (dStateNo p w h)
 clear h
 go_enter Tryd.func26, Tryd.ntmps26
 go_wp2_with fail
 refine (H.out).mono ?_
 rintro e w1 ⟨rfl, rfl⟩
 go_wp2_with fail
 go_ret
 exact ⟨rfl, rfl⟩
end Go.Proofs.YtopilgedcnbdaaaDoor