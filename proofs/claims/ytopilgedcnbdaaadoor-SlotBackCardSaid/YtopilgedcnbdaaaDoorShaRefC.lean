/- The contract of the document's own Chain (citadelref03), which calls itself. -/
import Derived.Test.YtopilgedcnbdaaaDoorTz
import Derived.Test.YtopilgedcnbdaaaDoorShaRefS
import Derived.Deep.RegionLaw
import Derived.Deep.MidRow
namespace Go.Proofs.YtopilgedcnbdaaaDoor
set_option maxRecDepth 1000000
set_option maxHeartbeats 8000000
open Go.RowKit
set_option linter.unusedVariables false
theorem chainL_snoc (x : List UInt8) (l : List (List UInt8)) (b : List UInt8) : chainL (x :: l ++ [b]) = shaL (chainL (x :: l) ++ b) := by
 simp [chainL, List.foldl_append]
theorem chainL_len (l : List (List UInt8)) : (chainL l).length = 32 := by
 cases l with
 | nil => exact shaL_len _
 | cons x l =>
  rcases List.eq_nil_or_concat l with rfl | ⟨l', b, rfl⟩
  ·exact shaL_len _
  ·rw [List.concat_eq_append, ← List.cons_append, chainL_snoc]; exact shaL_len _
theorem rows_split {bss : List (List UInt8)} {n : Nat} (h : bss.length = n + 1) : bss = bss.take n ++ [bss.getD n []] := by
 have h1 := List.take_succ_eq_append_getElem (l := bss) (i := n) (by omega)
 rw [List.take_of_length_le (by omega)] at h1
 have h2 : bss.getD n [] = bss[n] := by simp [List.getD, List.getElem?_eq_getElem (show n < bss.length by omega)]
 rw [h2]; exact h1
theorem RdS.front {w : World} {B n : Nat} {A : Option Addr} {bss : List (List UInt8)} (h : RdS w B A n bss) {k : Nat} (hk : k ≤ n) : RdS w B A k (bss.take k) := by
 refine ⟨by simp [h.1]; omega, fun h0 => ?_⟩
 obtain ⟨b, o, e, hb, hc⟩ := h.2 (by omega)
 refine ⟨b, o, e, hb, fun j hj => ?_⟩
 obtain ⟨A', m, c, h1, h2⟩ := hc j (by omega)
 refine ⟨A', m, c, h1, ?_⟩
 simpa [List.getD, hj] using h2
theorem RdS.below {w w' : World} {B n : Nat} {A : Option Addr} {bss : List (List UInt8)} (h : RdS w B A n bss) (hb : Below B w w') : RdS w' B A n bss := by
 refine ⟨h.1, fun h0 => ?_⟩
 obtain ⟨b, o, e, hlt, hc⟩ := h.2 h0
 refine ⟨b, o, e, hlt, fun j hj => ?_⟩
 obtain ⟨A', m, c, h1, h2⟩ := hc j hj
 exact ⟨A', m, c, (hb.cell hlt).trans h1, h2.below hb⟩
theorem RdS.more {w : World} {B B' n : Nat} {A : Option Addr} {bss : List (List UInt8)} (h : RdS w B A n bss) (hB : B ≤ B') : RdS w B' A n bss := by
 refine ⟨h.1, fun h0 => ?_⟩
 obtain ⟨b, o, e, hlt, hc⟩ := h.2 h0
 refine ⟨b, o, e, by omega, fun j hj => ?_⟩
 obtain ⟨A', m, c, h1, h2⟩ := hc j hj
 exact ⟨A', m, c, h1, h2.more hB⟩
theorem RdS.to {w w' : World} {n : Nat} {A : Option Addr} {bss : List (List UInt8)} (h : RdS w w.heap.size A n bss) (hb : Below w.heap.size w w') : RdS w' w'.heap.size A n bss := (h.below hb).more hb.size
theorem slice_h1 {P : Program} {T U : TypeId} (hul : P.underlying T = some (.slice U)) (hs : ∀ w : World, (sizeOf U).run P w = .ok 1 w) (A : Option Addr) {n c h : Nat} (h2 : h ≤ n) (hc : n ≤ c) :
  ∀ (k' : IntKind) (w : World), (Instr.slice T (.slice A n c) none (some (.int k' (h : Int))) none).run P w = .ok (.slice A h c) w := by
 intro k' w
 have he : P.elem T = U := by simp [Program.elem, hul]
 rw [run_slice_h (ht := by rw [he]; exact hul) (kh := k') (h := (h : Int)) (h0 := by omega) (h2 := by omega), he, hs]
 simp only [Result.andThen, sliced]
 congr 1
 cases A with
 | none => simp
 | some a => simp [addr_add_zero]
theorem rows_size (w : World) : (sizeOf 22).run Tryd.prog w = .ok 1 w := by
 have h : (Tryd.prog.info? 22).map (·.size) = some 1 := by kernel_rfl
 cases hi : Tryd.prog.info? 22 with
 | none => rw [hi] at h; cases h
 | some i => rw [hi] at h; simp at h; simp [sizeOf, typeInfo, hi, h]
theorem TagAt.range {w : World} {g : Nat} {bs : List UInt8} (h : TagAt w g bs) : w.rangeAt g 0 (bs.map bval) := fun j v hv => by
 rw [Nat.zero_add, cell_of_row _ _ j _ _ (0, 0) h.2]
 simpa [arrB] using hv
theorem TagAt.loads {w : World} {g : Nat} {bs : List UInt8} (h : TagAt w g bs) :
  (Instr.loadAt 41 (.pointer (some ⟨g, 0, none⟩))).run Tryd.prog w = .ok (.agg (arrB bs)) w ∧ (loadVar 41 ⟨g, 0, none⟩).run Tryd.prog w = .ok (.agg (arrB bs)) w := by
 have h2 := run_loadVar_row (P := Tryd.prog) w g 41 41 (arrB bs) (0, 0) _ h.2 Tryd.underlying41 rfl (tag_size h.1)
 exact ⟨by simp only [Instr.loadAt, Instr.sureAddr, Sem.run_bind, Sem.run_pure, Result.andThen]; exact h2, h2⟩
def tagv (bs : List UInt8) (j : Nat) : Value := .int .u8 (nth bs j : Int)
theorem tagv_all {bs : List UInt8} (h : bs.length = 32) : #[tagv bs 0, tagv bs 1, tagv bs 2, tagv bs 3, tagv bs 4, tagv bs 5, tagv bs 6, tagv bs 7, tagv bs 8, tagv bs 9, tagv bs 10, tagv bs 11, tagv bs 12, tagv bs 13, tagv bs 14, tagv bs 15, tagv bs 16, tagv bs 17, tagv bs 18, tagv bs 19, tagv bs 20, tagv bs 21, tagv bs 22, tagv bs 23, tagv bs 24, tagv bs 25, tagv bs 26, tagv bs 27, tagv bs 28, tagv bs 29, tagv bs 30, tagv bs 31] = arrB bs := by
 apply Array.ext
 ·rw [arrB_size, h]; rfl
 ·intro i h1 h2
  have h3 : i < 32 := by simpa using h1
  have e : ∀ (l : List Value) (hl : l = (List.range 32).map (tagv bs)) (hi : i < l.length), l[i] = tagv bs i := by
   rintro l rfl hi; simp
  have e2 := arrB_at (bs := bs) (j := i) (by omega)
  rw [Array.getElem?_eq_getElem h2] at e2
  injection e2 with e2
  rw [e2]
  exact e _ rfl _
theorem TagAt.cells {w : World} {g : Nat} {bs : List UInt8} (h : TagAt w g bs) : ∀ j, j < 32 → w.cell? ⟨g, j, none⟩ = some (tagv bs j) := fun j hj => (h.cell hj).1
theorem TagAt.rd {w : World} {g : Nat} {bs : List UInt8} (h : TagAt w g bs) : Rd w w.heap.size (some ⟨g, 0, none⟩) 32 bs :=
 ⟨h.1, fun _ => ⟨g, 0, rfl, heap_at_lt h.2, fun j hj => by rw [Nat.zero_add]; exact (h.cell hj).1⟩⟩
theorem run_storeTag {P : Program} {w : World} {g : Nat} {old bs : List UInt8} (h : TagAt w g old) (hl : bs.length = 32) :
  (storeCells ⟨g, 0, none⟩ (arrB bs).toList 0).run P w = .ok () (w.setRow g (arrB bs)) := by
 have h1 := run_storeCells_from (P := P) g 41 (arrB bs).toList 0 (arrB old) w h.2 (by simp [arrB_size, h.1, hl]) (fun v hv => (Array.all_eq_true_iff_forall_mem.1 (arrB_one bs)) v (by simpa using hv))
 simpa using h1
theorem TagAt.setRow {w : World} {g : Nat} {old bs : List UInt8} (h : TagAt w g old) (hl : bs.length = 32) : TagAt (w.setRow g (arrB bs)) g bs := ⟨hl, setRow_heap _ _ _ _ _ _ h.2⟩
end Go.Proofs.YtopilgedcnbdaaaDoor