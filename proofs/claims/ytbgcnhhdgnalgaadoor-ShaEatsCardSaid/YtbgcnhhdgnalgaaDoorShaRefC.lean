/- The contract of the document's own Chain (citadelref03), which calls itself. -/
import Derived.Test.YtbgcnhhdgnalgaaDoorShaRefS
import Derived.Deep.RegionLaw
import Derived.Deep.MidRow
namespace Go.Proofs.YtbgcnhhdgnalgaaDoor
open Go.RowKit
set_option linter.unusedVariables false

theorem chainL_snoc (x : List UInt8) (l : List (List UInt8)) (b : List UInt8) : chainL (x :: l ++ [b]) = shaL (chainL (x :: l) ++ b) := by
  simp [chainL, List.foldl_append]
theorem chainL_len (l : List (List UInt8)) : (chainL l).length = 32 := by
  cases l with
  | nil => exact shaL_len _
  | cons x l =>
    rcases List.eq_nil_or_concat l with rfl | ⟨l', b, rfl⟩
    · exact shaL_len _
    · rw [List.concat_eq_append, ← List.cons_append, chainL_snoc]; exact shaL_len _
theorem rows_split {bss : List (List UInt8)} {n : Nat} (h : bss.length = n + 1) : bss = bss.take n ++ [bss.getD n []] := by
  have h1 := List.take_succ_eq_append_getElem (l := bss) (i := n) (by omega)
  rw [List.take_of_length_le (by omega)] at h1
  have h2 : bss.getD n [] = bss[n] := by simp [List.getD, List.getElem?_eq_getElem (show n < bss.length by omega)]
  rw [h2]; exact h1
theorem RdS.front {w : World} {B n : Nat} {A : Option Addr} {bss : List (List UInt8)} (h : RdS w B A n bss) {k : Nat} (hk : k ≤ n) : RdS w B A k (bss.take k) := by
  refine ⟨by simp [h.1]; omega, fun h0 => ?_⟩
  obtain ⟨b, o, e, hb, hc⟩ := h.2 (by omega)
  refine ⟨b, o, e, hb, fun j hj => ?_⟩
  obtain ⟨A', m, c, h1, h2⟩ := hc j (by omega)
  refine ⟨A', m, c, h1, ?_⟩
  simpa [List.getD, hj] using h2
theorem RdS.below {w w' : World} {B n : Nat} {A : Option Addr} {bss : List (List UInt8)} (h : RdS w B A n bss) (hb : Below B w w') : RdS w' B A n bss := by
  refine ⟨h.1, fun h0 => ?_⟩
  obtain ⟨b, o, e, hlt, hc⟩ := h.2 h0
  refine ⟨b, o, e, hlt, fun j hj => ?_⟩
  obtain ⟨A', m, c, h1, h2⟩ := hc j hj
  exact ⟨A', m, c, (hb.cell hlt).trans h1, h2.below hb⟩
theorem RdS.more {w : World} {B B' n : Nat} {A : Option Addr} {bss : List (List UInt8)} (h : RdS w B A n bss) (hB : B ≤ B') : RdS w B' A n bss := by
  refine ⟨h.1, fun h0 => ?_⟩
  obtain ⟨b, o, e, hlt, hc⟩ := h.2 h0
  refine ⟨b, o, e, by omega, fun j hj => ?_⟩
  obtain ⟨A', m, c, h1, h2⟩ := hc j hj
  exact ⟨A', m, c, h1, h2.more hB⟩
theorem RdS.to {w w' : World} {n : Nat} {A : Option Addr} {bss : List (List UInt8)} (h : RdS w w.heap.size A n bss) (hb : Below w.heap.size w w') : RdS w' w'.heap.size A n bss := (h.below hb).more hb.size
/-- l[:k] of a slice whose elements take one cell. -/
theorem slice_h1 {P : Program} {T U : TypeId} (hul : P.underlying T = some (.slice U)) (hs : ∀ w : World, (sizeOf U).run P w = .ok 1 w) (A : Option Addr) {n c h : Nat} (h2 : h ≤ n) (hc : n ≤ c) :
    ∀ (k' : IntKind) (w : World), (Instr.slice T (.slice A n c) none (some (.int k' (h : Int))) none).run P w = .ok (.slice A h c) w := by
  intro k' w
  have he : P.elem T = U := by simp [Program.elem, hul]
  rw [run_slice_h (ht := by rw [he]; exact hul) (kh := k') (h := (h : Int)) (h0 := by omega) (h2 := by omega), he, hs]
  simp only [Result.andThen, sliced]
  congr 1
  cases A with
  | none => simp
  | some a => simp [addr_add_zero]
theorem rows_size (w : World) : (sizeOf 25).run Tryd.prog w = .ok 1 w := by
  have h : (Tryd.prog.info? 25).map (·.size) = some 1 := by kernel_rfl
  cases hi : Tryd.prog.info? 25 with
  | none => rw [hi] at h; cases h
  | some i => rw [hi] at h; simp at h; simp [sizeOf, typeInfo, hi, h]
theorem TagAt.range {w : World} {g : Nat} {bs : List UInt8} (h : TagAt w g bs) : w.rangeAt g 0 (bs.map bval) := fun j v hv => by
  rw [Nat.zero_add, cell_of_row _ _ j _ _ (0, 0) h.2]
  simpa [arrB] using hv
/-- A whole tag read, in the three forms in which a walk may meet it. -/
theorem TagAt.loads {w : World} {g : Nat} {bs : List UInt8} (h : TagAt w g bs) :
    (Instr.loadAt 36 (.pointer (some ⟨g, 0, none⟩))).run Tryd.prog w = .ok (.agg (arrB bs)) w ∧ (loadVar 36 ⟨g, 0, none⟩).run Tryd.prog w = .ok (.agg (arrB bs)) w := by
  have h2 := run_loadVar_row (P := Tryd.prog) w g 36 36 (arrB bs) (0, 0) _ h.2 Tryd.underlying36 rfl (tag_size h.1)
  exact ⟨by simp only [Instr.loadAt, Instr.sureAddr, Sem.run_bind, Sem.run_pure, Result.andThen]; exact h2, h2⟩
/-- A tag's cells one by one, for a walk that reads it cell by cell. -/
def tagv (bs : List UInt8) (j : Nat) : Value := .int .u8 (nth bs j : Int)
theorem tagv_all {bs : List UInt8} (h : bs.length = 32) : #[tagv bs 0, tagv bs 1, tagv bs 2, tagv bs 3, tagv bs 4, tagv bs 5, tagv bs 6, tagv bs 7, tagv bs 8, tagv bs 9, tagv bs 10, tagv bs 11, tagv bs 12, tagv bs 13, tagv bs 14, tagv bs 15, tagv bs 16, tagv bs 17, tagv bs 18, tagv bs 19, tagv bs 20, tagv bs 21, tagv bs 22, tagv bs 23, tagv bs 24, tagv bs 25, tagv bs 26, tagv bs 27, tagv bs 28, tagv bs 29, tagv bs 30, tagv bs 31] = arrB bs := by
  apply Array.ext
  · rw [arrB_size, h]; rfl
  · intro i h1 h2
    have h3 : i < 32 := by simpa using h1
    have e : ∀ (l : List Value) (hl : l = (List.range 32).map (tagv bs)) (hi : i < l.length), l[i] = tagv bs i := by
      rintro l rfl hi; simp
    have e2 := arrB_at (bs := bs) (j := i) (by omega)
    rw [Array.getElem?_eq_getElem h2] at e2
    injection e2 with e2
    rw [e2]
    exact e _ rfl _
theorem TagAt.cells {w : World} {g : Nat} {bs : List UInt8} (h : TagAt w g bs) : ∀ j, j < 32 → w.cell? ⟨g, j, none⟩ = some (tagv bs j) := fun j hj => (h.cell hj).1
theorem TagAt.rd {w : World} {g : Nat} {bs : List UInt8} (h : TagAt w g bs) : Rd w w.heap.size (some ⟨g, 0, none⟩) 32 bs :=
  ⟨h.1, fun _ => ⟨g, 0, rfl, heap_at_lt h.2, fun j hj => by rw [Nat.zero_add]; exact (h.cell hj).1⟩⟩

/-- A tag stored over another, as the walk of a region that draws meets it. -/
theorem run_storeTag {P : Program} {w : World} {g : Nat} {old bs : List UInt8} (h : TagAt w g old) (hl : bs.length = 32) :
    (storeCells ⟨g, 0, none⟩ (arrB bs).toList 0).run P w = .ok () (w.setRow g (arrB bs)) := by
  have h1 := run_storeCells_from (P := P) g 36 (arrB bs).toList 0 (arrB old) w h.2 (by simp [arrB_size, h.1, hl]) (fun v hv => (Array.all_eq_true_iff_forall_mem.1 (arrB_one bs)) v (by simpa using hv))
  simpa using h1
theorem TagAt.setRow {w : World} {g : Nat} {old bs : List UInt8} (h : TagAt w g old) (hl : bs.length = 32) : TagAt (w.setRow g (arrB bs)) g bs := ⟨hl, setRow_heap _ _ _ _ _ _ h.2⟩

set_option maxRecDepth 100000 in
set_option maxHeartbeats 1000000 in
theorem rChain : ∀ (n : Nat) (A : Option Addr) (c : Nat) (bss : List (List UInt8)) (w : World), RdS w w.heap.size A n bss → n ≤ c → c ≤ 9223372036854775807 → n ≤ 100000 → bss.flatten.length ≤ 1000000 →
    Calls Tryd.prog 25 #[.slice A n c] w fun e w' => e = .returned (.agg (arrB (chainL bss))) ∧ Below w.heap.size w w'
  | 0, A, c, bss, w, ha, hc, hc', hn, ht => by
    obtain rfl : bss = [] := List.eq_nil_of_length_eq_zero ha.1
    have hz := tag_zero
    have T0 : Hid (TagAt (w.alloc (.cells (arrB zeros32) 36)) w.heap.size zeros32) := ⟨rfl, heap_alloc_last w _⟩
    have B : Hid (Below w.heap.size w (w.alloc (.cells (arrB zeros32) 36))) := (Below.refl _ _).alloc (Nat.le_refl _) _
    have HC : Hid (chainL [] = shaL []) := rfl
    clear ha
    go_enter Tryd.func25, Tryd.ntmps25
    go_wp2_with fail
    generalize w.alloc (.cells (arrB zeros32) 36) = w0 at *
    refine (rSum none 0 0 [] w0 (Rd.nil _ _ _) (by decide)).mono ?_
    rintro e w1 ⟨rfl, hb⟩
    have S1 := Lib.hid (tag_size (shaL_len []))
    have E1 : Hid ((arrB zeros32).size = (arrB (shaL [])).size) := by
      show _ = _
      rw [arrB_size, arrB_size, shaL_len]; rfl
    replace T0 := Lib.hid (T0.out.below hb)
    clear hz
    replace B := Lib.hid (B.out.trans (hb.mono B.out.size))
    clear hb
    go_wp2_with (refine wpList_store_row rfl 36 _ _ rfl w.heap.size (arrB (shaL [])) rfl rfl 36 (arrB zeros32) T0.out.2 S1.out E1.out (arrB_one _) ?_)
    (try simp only [Exit.inBlock, Exit.then])
    refine bodyPost_ret (v := .agg (arrB (shaL []))) ?_ rfl ⟨rfl, below_setRow B.out (Nat.le_refl _) _⟩
    exact results_cell_row rfl _ _ w.heap.size 36 (arrB (shaL [])) (0, 0) _ rfl (setRow_heap _ _ _ _ _ _ T0.out.2) Tryd.underlying36 rfl S1.out
  | 1, A, c, bss, w, ha, hc, hc', hn, ht => by
    obtain ⟨x, rfl⟩ : ∃ x, bss = [x] := List.length_eq_one_iff.1 ha.1
    have hz := tag_zero
    have T0 : Hid (TagAt (w.alloc (.cells (arrB zeros32) 36)) w.heap.size zeros32) := ⟨rfl, heap_alloc_last w _⟩
    have hb0 : Below w.heap.size w (w.alloc (.cells (arrB zeros32) 36)) := (Below.refl _ _).alloc (Nat.le_refl _) _
    have R := Lib.hid (ha.to hb0)
    have B := Lib.hid hb0
    have HC : Hid (chainL [x] = shaL x) := rfl
    have hx : x.length ≤ 1000000 := by simpa using ht
    clear ha hb0
    go_enter Tryd.func25, Tryd.ntmps25
    obtain ⟨b, o, rfl, hbo, hcl⟩ := R.out.2 (by decide)
    obtain ⟨A1, n1, c1, hcell, hr⟩ := hcl 0 (by decide)
    rw [Nat.add_zero] at hcell
    have X : Hid (Rd (w.alloc (.cells (arrB zeros32) 36)) (w.alloc (.cells (arrB zeros32) 36)).heap.size A1 n1 x) := hr
    have hn1 : n1 ≤ 1000000 := by rw [← X.out.1]; exact hx
    clear hcl hr R
    go_wp2_with fail
    clear hz
    generalize w.alloc (.cells (arrB zeros32) 36) = w0 at *
    refine (rSum A1 n1 c1 x w0 X.out (by omega)).mono ?_
    rintro e w1 ⟨rfl, hb⟩
    have S1 := Lib.hid (tag_size (shaL_len x))
    have E1 : Hid ((arrB zeros32).size = (arrB (shaL x)).size) := by
      show _ = _
      rw [arrB_size, arrB_size, shaL_len]; rfl
    replace T0 := Lib.hid (T0.out.below hb)
    replace B := Lib.hid (B.out.trans (hb.mono B.out.size))
    clear hb
    go_wp2_with (refine wpList_store_row rfl 36 _ _ rfl w.heap.size (arrB (shaL x)) rfl rfl 36 (arrB zeros32) T0.out.2 S1.out E1.out (arrB_one _) ?_)
    (try simp only [Exit.inBlock, Exit.then])
    refine bodyPost_ret (v := .agg (arrB (shaL x))) ?_ rfl ⟨rfl, below_setRow B.out (Nat.le_refl _) _⟩
    exact results_cell_row rfl _ _ w.heap.size 36 (arrB (shaL x)) (0, 0) _ rfl (setRow_heap _ _ _ _ _ _ T0.out.2) Tryd.underlying36 rfl S1.out
  | n + 2, A, c, bss, w, ha, hc, hc', hn, ht => by
    have IH := Lib.hid (fun (A : Option Addr) (c : Nat) (bss : List (List UInt8)) (w : World) => rChain (n + 1) A c bss w)
    obtain ⟨m, hm⟩ : ∃ m, m = n + 1 := ⟨_, rfl⟩
    have hsp := rows_split (n := n + 1) ha.1
    rw [← hm] at hsp IH
    obtain ⟨N, hN⟩ : ∃ N, N = n + 2 := ⟨_, rfl⟩
    rw [← hN] at ha hc hn ⊢
    have hNm : N = m + 1 := by omega
    have hm1 : 1 ≤ m := by omega
    clear hm hN
    generalize hy : bss.getD m [] = y at *
    obtain ⟨x, l, hxl⟩ : ∃ x l, bss.take m = x :: l := by
      have hlen : (bss.take m).length = m := by simp [ha.1]; omega
      cases h : bss.take m with
      | nil => rw [h] at hlen; simp at hlen; omega
      | cons x l => exact ⟨x, l, rfl⟩
    have HC : Hid (chainL bss = shaL (chainL (bss.take m) ++ y)) := by
      show _ = _
      rw [hxl] at hsp ⊢
      rw [hsp, chainL_snoc]
    have hfl : (bss.take m).flatten.length + y.length = bss.flatten.length := by
      rw [hsp]
      simp [Nat.min_eq_left, ha.1, hNm]
    have hz := tag_zero
    have T0 : Hid (TagAt (w.alloc (.cells (arrB zeros32) 36)) w.heap.size zeros32) := ⟨rfl, heap_alloc_last w _⟩
    have hb0 : Below w.heap.size w (w.alloc (.cells (arrB zeros32) 36)) := (Below.refl _ _).alloc (Nat.le_refl _) _
    have R := Lib.hid (ha.to hb0)
    have B := Lib.hid hb0
    have hi1 : (N : Int) - 1 = (m : Int) := by omega
    have hmN : m ≤ N := by omega
    have s0 := slice_h1 (P := Tryd.prog) Tryd.underlying46 rows_size A hmN hc .i64
    have hN0 : ((N : Int) == 0) = false := by simp; omega
    have hm0 : ((m : Int) == 0) = false := by simp; omega
    have hN0' : ¬ ((N : Int) = 0) := by omega
    have hm0' : ¬ ((m : Int) = 0) := by omega
    have hmN2 : m < N := by omega
    have HX := Lib.hid hxl
    have HM := Lib.hid hm1
    clear ha hb0 hsp hxl hNm hm1
    go_enter Tryd.func25, Tryd.ntmps25
    go_wp2_with fail
    generalize w.alloc (.cells (arrB zeros32) 36) = w0 at *
    refine (IH.out A c (bss.take m) w0 (R.out.front hmN) (by omega) hc' (by omega) (by omega)).mono ?_
    rintro e w1 ⟨rfl, hb⟩
    replace T0 := Lib.hid (T0.out.below hb)
    replace R := Lib.hid (R.out.to hb)
    replace B := Lib.hid (B.out.trans (hb.mono B.out.size))
    clear hb
    have hcl := chainL_len (bss.take m)
    generalize chainL (bss.take m) = t at *
    have S1 := Lib.hid (tag_size hcl)
    have E1 : Hid ((arrB zeros32).size = (arrB t).size) := by
      show _ = _
      rw [arrB_size, arrB_size, hcl]; rfl
    go_wp2_with (refine wpList_store_row rfl 36 _ _ rfl w1.heap.size (arrB t) rfl rfl 36 (arrB zeros32) (heap_alloc_last w1 _) S1.out E1.out (arrB_one _) ?_; rw [World.setRow_alloc_new])
    have hb1 : Below w1.heap.size w1 (w1.alloc (.cells (arrB t) 36)) := (Below.refl _ _).alloc (Nat.le_refl _) _
    have T1 : Hid (TagAt (w1.alloc (.cells (arrB t) 36)) w1.heap.size t) := ⟨hcl, heap_alloc_last w1 _⟩
    replace T0 := Lib.hid (T0.out.below hb1)
    replace R := Lib.hid (R.out.to hb1)
    replace B := Lib.hid (B.out.trans (hb1.mono B.out.size))
    clear hb1 S1 E1 hz s0
    generalize w1.heap.size = g at *
    generalize w1.alloc (.cells (arrB t) 36) = w2 at *
    obtain ⟨b, o, rfl, hbo, hrow⟩ := R.out.2 (by omega)
    obtain ⟨A1, n1, c1, hcell, hr⟩ := hrow m hmN2
    rw [hy] at hr
    have HT : Hid (Rd w2.drew w2.drew.heap.size (some ⟨g, 0, none⟩) 32 t) := T1.out.rd
    have HY : Hid (Rd w2.drew w2.drew.heap.size A1 n1 y) := hr
    have hn1 : n1 ≤ 1000000 := by rw [← HY.out.1]; omega
    have T0d : Hid (TagAt w2.drew w.heap.size zeros32) := T0.out
    replace B := Lib.hid B.out.drew
    have hL : (t ++ y).length ≤ 1000032 := by rw [List.length_append, hcl]; omega
    have S1 := Lib.hid (tag_size (shaL_len (t ++ y)))
    have E1 : Hid ((arrB zeros32).size = (arrB (shaL (t ++ y))).size) := by
      show _ = _
      rw [arrB_size, arrB_size, shaL_len]; rfl
    clear hrow hr T0 T1 R hy hfl
    go_region_law (first
      | (go_simp; go_at_call 30; refine (refCat (some ⟨g, 0, none⟩) A1 32 n1 32 c1 t y _ HT.out HY.out (by omega)).mono ?_; rintro e w5 ⟨A5, n5, c5, rfl, hown5, hb⟩; have Q := Lib.hid (Rd.of_own hown5); have hn5 : n5 ≤ 1000032 := (by rw [← Q.out.1]; exact hL); replace T0d := Lib.hid (T0d.out.below hb); replace B := Lib.hid (B.out.trans (hb.mono B.out.size)); clear hown5 hb)
      | (go_simp; go_at_call 20; refine (rSum A5 n5 c5 (t ++ y) _ Q.out (by omega)).mono ?_; rintro e w6 ⟨rfl, hb⟩; replace T0d := Lib.hid (T0d.out.below hb); replace B := Lib.hid (B.out.trans (hb.mono B.out.size)); clear hb; have hsc := run_storeTag (P := Tryd.prog) T0d.out (shaL_len (t ++ y)); have hsz : (arrB (shaL (t ++ y))).size = 32 := (by rw [arrB_size, shaL_len])))
    go_wp2
    (try simp only [Exit.inBlock, Exit.then])
    refine bodyPost_ret (v := .agg (arrB (chainL bss))) ?_ rfl ⟨rfl, below_setRow B.out (Nat.le_refl _) _⟩
    rw [HC.out]
    exact results_cell_row rfl _ _ w.heap.size 36 (arrB (shaL (t ++ y))) (0, 0) _ rfl (T0d.out.setRow (shaL_len _)).2 Tryd.underlying36 rfl S1.out
end Go.Proofs.YtbgcnhhdgnalgaaDoor
