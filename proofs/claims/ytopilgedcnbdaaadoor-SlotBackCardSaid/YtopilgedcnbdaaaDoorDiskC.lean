/- The program's disk (disk): the cached sectors' numbers; what stays of them; is a crash due. -/
import Derived.Test.YtopilgedcnbdaaaDoorTz
import Derived.Test.YtopilgedcnbdaaaDoorDiskB
namespace Go.Proofs.YtopilgedcnbdaaaDoor
set_option maxRecDepth 1000000
set_option maxHeartbeats 8000000
open Go.RowKit
set_option linter.unusedVariables false
set_option linter.unusedSimpArgs false
theorem dDirty (d : Nat) (F : Nat → Prop) (s : DS) (w : World) (h : DkAt w d F s) : Calls Tryd.prog 13 #[.pointer (some ⟨d, 0, none⟩)] w fun e w' =>
  ∃ A c, e = .returned (.slice A (dirtyL s.L).length c) ∧ w'.ownsRow w.heap.size 3 1 (.slice A (dirtyL s.L).length c) (dirtyL s.L).length ((dirtyL s.L).map (kv .i64)) ∧ Below w.heap.size w w' := by
 obtain ⟨fb, mb, stv, h⟩ := h
 obtain ⟨c0, c1, c2, c3, c4, z2, z3, z4⟩ := dkCell h.obj
 have HM := qH h.map
 have HOK := qH h.ok
 clear h c0 c2 c3 c4 z2 z3 z4
 go_enter Tryd.func13, Tryd.ntmps13
 go_wp2_with fail
 refine (cKeys (some mb) w).mono ?_
 rintro e w1 ⟨rfl, rfl⟩
 have HB : Hid (Below w.heap.size w (w.alloc (.cells #[.map (some mb)] 29))) := (Below.refl _ _).alloc (Nat.le_refl _) _
 have HM1 : Hid (MapIs (w.alloc (.cells #[.map (some mb)] 29)) mb s.L) := HM.out.block (HB.out.block mb HM.out.lt)
 have HC := qH (cell_one_new w (.map (some mb)) 29)
 have HG : Hid (w.heap.size < (w.alloc (.cells #[.map (some mb)] 29)).heap.size) := by show _ < _; simp
 generalize w.alloc (.cells #[.map (some mb)] 29) = w1 at *
 go_wp2_with fail
 refine (cSorted w1 w.heap.size mb s.L HOK.out.len HG.out ?_ HM1.out).mono ?_
 ·have := HC.out 0 _ rfl
  simpa [Addr.add] using this
 rintro e w2 ⟨A, c, rfl, hown, hb⟩
 have O1 := qH hown
 have B1 := qH hb
 clear hown hb
 go_wp2_with fail
 go_ret
 exact ⟨A, c, rfl, own_mono O1.out (Nat.le_of_lt HG.out), HB.out.trans (B1.out.mono (Nat.le_of_lt HG.out))⟩
theorem dDirtyNo (p : Value) (w : World) (h : DkNo w p) : Calls Tryd.prog 13 #[p] w fun e w' => e = .returned (.slice none 0 0) ∧ Below w.heap.size w w' := by
 cases h with
 | none =>
  go_enter Tryd.func13, Tryd.ntmps13
  go_wp2_with fail
  go_ret
  exact ⟨rfl, Below.refl _ _⟩
 | fresh d h =>
  have c1 : w.cell? ⟨d, 1, none⟩ = some (.map none) := by simp [World.cell?, h]
  clear h
  go_enter Tryd.func13, Tryd.ntmps13
  go_wp2_with fail
  refine (cKeys none w).mono ?_
  rintro e w1 ⟨rfl, rfl⟩
  have HB : Hid (Below w.heap.size w (w.alloc (.cells #[.map none] 29))) := (Below.refl _ _).alloc (Nat.le_refl _) _
  have HC := qH (cell_one_new w (.map none) 29)
  have HG : Hid (w.heap.size < (w.alloc (.cells #[.map none] 29)).heap.size) := by show _ < _; simp
  generalize w.alloc (.cells #[.map none] 29) = w1 at *
  go_wp2_with fail
  refine (cSortedNil w1 w.heap.size HG.out ?_).mono ?_
  ·have := HC.out 0 _ rfl
   simpa [Addr.add] using this
  rintro e w2 ⟨rfl, hb⟩
  have B1 := qH hb
  clear hb
  go_wp2_with fail
  go_ret
  exact ⟨rfl, HB.out.trans (B1.out.mono (Nat.le_of_lt HG.out))⟩
theorem u8_and1 (y : Nat) (hy : y < 256) : bits .and .u8 (y : Int) 1 = ((y % 2 : Nat) : Int) := by
 rw [← nat_mask1]; exact u8_and_nat y 1 hy (by decide)
theorem bit_is (x k : Nat) (hx : x < 256) : (bits BinOp.and IntKind.u8 ((x : Int) / 2 ^ k) 1 == 1) = decide (x / 2 ^ k % 2 = 1) := by
 have hp : (0 : Nat) < 2 ^ k := Nat.pow_pos (by decide)
 have e : (x : Int) / 2 ^ k = ((x / 2 ^ k : Nat) : Int) := by rw [Int.natCast_ediv]; simp
 have hlt : x / 2 ^ k < 256 := Nat.lt_of_le_of_lt (Nat.div_le_self _ _) hx
 rw [e, u8_and1 _ hlt]
 by_cases h : x / 2 ^ k % 2 = 1
 ·rw [h]; rfl
 ·have h0 : x / 2 ^ k % 2 = 0 := by omega
  rw [h0]; rfl
theorem bits_at {w : World} {g : Nat} {stay : List UInt8} {T : TypeId} (h : w.heap[g]? = some (.cells (splice (bits0.map bval) 0 ((stay.take 128).map bval)).toArray T (0, 0))) : ∀ j, j < 128 → w.cell? ⟨g, j, none⟩ = some (.int .u8 (nth stay j : Int)) := by
 intro j hj
 rw [cell_of_row w g j _ _ _ h]
 simp only [splice, List.take_zero, List.nil_append, Nat.zero_add]
 rw [List.getElem?_toArray]
 by_cases hl : j < ((stay.take 128).map bval).length
 ·rw [List.getElem?_append_left hl, List.getElem?_map]
  have h1 : j < stay.length := by simp at hl; omega
  rw [List.getElem?_take, if_pos hj, List.getElem?_eq_getElem h1, nth_of_lt h1]
  rfl
 ·rw [List.getElem?_append_right (by omega), List.getElem?_drop, List.getElem?_map]
  have h1 : ¬ j < stay.length := by simp at hl; omega
  have e : ((stay.take 128).map bval).length + (j - ((stay.take 128).map bval).length) = j := by omega
  rw [e]
  have h2 : bits0[j]? = some 0 := by unfold bits0; rw [List.getElem?_replicate, if_pos hj]
  rw [h2]
  have h3 : nth stay j = 0 := by unfold nth; simp [List.getD, List.getElem?_eq_none (Nat.le_of_not_lt h1)]
  rw [h3]
  rfl
theorem DkP.own {w w' : World} {d fb mb : Nat} {stv stv' : Value} {F : Nat → Prop} {s : DS} {up : Bool} {left : Nat} {stay : List UInt8} (h : DkP w d fb mb stv F s) (hk : Keep (· = d) w w')
  (ho : w'.heap[d]? = some (.cells (dkCells fb mb s.L.length up left stv') 34 (0, 0))) (hs : left ≠ 0 → ∃ cb, StAt w stv' cb stay ∧ F cb ∧ cb ≠ d ∧ cb ≠ fb ∧ cb ≠ mb) (h1 : stv'.oneCell' = true) (hl : left ≤ 9223372036854775807) :
  DkP w' d fb mb stv' F ⟨s.L, up, left, stay⟩ :=
 ⟨ho, h.secs.block (hk.block fb (h.lt _ h.ff) (fun e => h.df e.symm)), h.map.block (hk.block mb (h.lt _ h.fm) (fun e => h.dm e.symm)), fun hn => by
  obtain ⟨cb, a1, a2, a3, a4, a5⟩ := hs hn
  exact ⟨cb, a1.block (hk.block cb (h.lt _ a2) a3), a2, a3, a4, a5⟩, h1, h.fd, h.ff, h.fm, h.df, h.dm, h.fmne, fun k hf => Nat.lt_of_lt_of_le (h.lt k hf) hk.size, ⟨h.ok.len, h.ok.fl, h.ok.ca, hl⟩⟩
theorem dkSet3 {w : World} {d fb mb n left : Nat} {up : Bool} {stv : Value} {T : TypeId} (h : w.heap[d]? = some (.cells (dkCells fb mb n up left stv) T (0, 0))) (l : Nat) :
  (w.setCell ⟨d, 3, none⟩ (.int .i64 (l : Int))).heap[d]? = some (.cells (dkCells fb mb n up l stv) T (0, 0)) := by
 rw [heap_setCell_same _ _ _ _ _ _ h]; rfl
theorem dkSet2 {w : World} {d fb mb n left : Nat} {up : Bool} {stv : Value} {T : TypeId} (h : w.heap[d]? = some (.cells (dkCells fb mb n up left stv) T (0, 0))) (u : Bool) :
  (w.setCell ⟨d, 2, none⟩ (.bool u)).heap[d]? = some (.cells (dkCells fb mb n u left stv) T (0, 0)) := by
 rw [heap_setCell_same _ _ _ _ _ _ h]; rfl
theorem dkSet4 {w : World} {d fb mb n left : Nat} {up : Bool} {stv : Value} {T : TypeId} (h : w.heap[d]? = some (.cells (dkCells fb mb n up left stv) T (0, 0))) (v : Value) :
  (w.setCell ⟨d, 4, none⟩ v).heap[d]? = some (.cells (dkCells fb mb n up left v) T (0, 0)) := by
 rw [heap_setCell_same _ _ _ _ _ _ h]; rfl
theorem dDue (d fb mb : Nat) (stv : Value) (F : Nat → Prop) (s : DS) (w : World) (h : DkP w d fb mb stv F s) :
  Calls Tryd.prog 42 #[.pointer (some ⟨d, 3, none⟩)] w fun e w' => e = .returned (.bool (decide (s.left = 1))) ∧ DkP w' d fb mb stv F ⟨s.L, s.up, s.left - 1, s.stay⟩ ∧ Keep (· = d) w w' := by
 obtain ⟨c0, c1, c2, c3, c4, z2, z3, z4⟩ := dkCell h.obj
 have H := qH h
 clear h c0 c1 c2 c4 z2 z4
 go_enter Tryd.func42, Tryd.ntmps42
 by_cases h0 : s.left = 0
 ·have H0 := qH h0
  rw [h0] at c3
  clear h0
  go_wp2_with fail
  go_ret
  refine ⟨by rw [H0.out]; rfl, ?_, Keep.refl _ _⟩
  have e : (⟨s.L, s.up, s.left - 1, s.stay⟩ : DS) = s := by show DS.mk s.L s.up (s.left - 1) s.stay = DS.mk s.L s.up s.left s.stay; rw [H0.out]
  rw [e]
  exact H.out
 ·obtain ⟨l, hl⟩ : ∃ l, s.left = l + 1 := ⟨s.left - 1, by omega⟩
  have HL := qH hl
  have hlt := H.out.ok.lt
  rw [hl] at c3 hlt
  have hne : ¬ ((l + 1 : Nat) : Int) = 0 := by omega
  have e1 : ((l + 1 : Nat) : Int) - 1 = (l : Int) := by omega
  clear h0 hl
  go_wp2_with fail
  go_ret
  have hk : Keep (· = d) w (w.setCell ⟨d, 3, none⟩ (.int .i64 (l : Int))) := (Keep.refl _ _).setCell _ _ rfl
  have e2 : s.left - 1 = l := by rw [HL.out]; rfl
  rw [e2]
  refine ⟨?_, H.out.own hk (dkSet3 H.out.obj l) (fun _ => H.out.st (by rw [HL.out]; omega)) H.out.one (by omega), hk⟩
  rw [HL.out]
  show Ending.returned (.bool ((l : Int) == 0)) = _
  congr 2
  by_cases h : l = 0
  ·subst h; rfl
  ·rw [decide_eq_false (by omega)]
   simp
   omega
end Go.Proofs.YtopilgedcnbdaaaDoor