/- Contracts of the document's own Tail and Print (citadelref03). -/
import Derived.Test.YtopilgedcnbdaaaGreatDoorTz
import Derived.Test.YtopilgedcnbdaaaGreatDoorShaRefE
import Derived.Deep.LoopGhost
namespace Go.Proofs.YtopilgedcnbdaaaGreatDoor
set_option maxRecDepth 1000000
set_option maxHeartbeats 8000000
open Go.RowKit
set_option linter.unusedVariables false
def PadRow (j : Nat) : List UInt8 := 128 :: List.replicate j 0
theorem padRow_len (j : Nat) : (PadRow j).length = j + 1 := by simp [PadRow]
theorem padRow_snoc (j : Nat) : PadRow (j + 1) = PadRow j ++ [0] := by
 unfold PadRow; rw [List.replicate_succ', List.cons_append]
theorem rTail (n : Nat) (w : World) (hn : n ≤ 1000000000) :
  Calls Tryz.prog 39 #[.int .i64 (n : Int)] w fun e w' => RetB 5 w (tailL n) e w' := by
 have HT : Hid (tailL n = PadRow (zerosOf n) ++ enc (8 * n) 8) := rfl
 have HZ : Hid (zerosOf n = (64 - (n + 9) % 64) % 64) := rfl
 generalize zerosOf n = z at *
 obtain ⟨m8, hm8⟩ : ∃ m : Nat, m = 8 * n := ⟨_, rfl⟩
 have i8 : 8 * (n : Int) = (m8 : Int) := by omega
 have i64 : (m8 : Int) % 18446744073709551616 = (m8 : Int) := by omega
 have HM := qH hm8
 clear hm8
 have hz64 : z < 64 := by have := HZ.out; omega
 go_enter Tryz.func39, Tryz.ntmps39
 go_wp2
 go_loopg [3] z (fun g v wr => ∃ j : Nat, j + g = z ∧ wr.ownsRow w.heap.size 5 1 v (j + 1) ((PadRow j).map bval) ∧ Below w.heap.size w wr)
 case atStart => exact ⟨0, by omega, own_top [.int .u8 128] 5 (Nat.le_refl _) (by simp [Value.oneCell']) (by decide), (Below.refl _ _).alloc (Nat.le_refl _) _⟩
 case round =>
  obtain ⟨j, hj, hown, hbel⟩ := hrel
  have hsz := hbel.size
  obtain ⟨A, c, rfl⟩ := own_slice hown
  cases gk with
  | zero =>
   obtain rfl : j = z := by omega
   have h0 : ((n : Int) + ((j : Int) + 1) + 8) % 64 = 0 := by have := HZ.out; omega
   have R := qH (Rd.of_own hown)
   have B := qH hbel
   clear hown hbel
   go_wp2_with fail
   refine (refPut m8 8 wr (by have := HM.out; omega) (by decide)).mono ?_
   rintro e w1 ⟨A1, n1, c1, rfl, hown1, hb⟩
   have P := qH (Rd.of_own hown1)
   obtain rfl : n1 = 8 := by rw [← P.out.1, enc_len]
   clear hown1
   replace R := qH (R.out.to hb)
   replace B := qH (B.out.trans (hb.mono B.out.size))
   clear hb
   go_wp2_with fail
   refine (refCat A A1 (j + 1) 8 c c1 _ _ w1 R.out P.out (by omega)).mono ?_
   rintro e w2 ⟨A2, n2, c2, rfl, hown2, hb⟩
   have O := qH (RetB.from B.out (RetB.mk hown2 hb))
   clear hown2 hb
   go_wp2_with fail
   go_ret
   rw [HT.out, ← HM.out]
   exact O.out
  | succ g =>
   have h0 : ¬ (((n : Int) + ((j : Int) + 1) + 8) % 64 = 0) := by have := HZ.out; omega
   have HE := qH (padRow_snoc j)
   go_wp2_with (at_builtin; refine wpList_push isU8 rfl _ _ rfl rfl rfl hown hbel hsz (by omega) 0 rfl ?_; intro v1 w1 hown1 hbel1 hsz1)
   go_roundg g
   case measure => omega
   case rel => exact ⟨j + 1, by omega, by rw [HE.out]; exact hown1, hbel1⟩
def fillB (bs : List UInt8) (m : Nat) : List UInt8 := bs.take m ++ List.replicate (bs.length - m) 0
theorem fillB_len {bs : List UInt8} {m : Nat} (h : m ≤ bs.length) : (fillB bs m).length = bs.length := by simp [fillB]; omega
theorem fillB_zero (bs : List UInt8) : fillB bs 0 = List.replicate bs.length 0 := by simp [fillB]
theorem fillB_all (bs : List UInt8) : fillB bs bs.length = bs := by simp [fillB]
theorem fillB_set {bs : List UInt8} {m : Nat} (h : m < bs.length) : (fillB bs m).set m (bs.getD m 0) = fillB bs (m + 1) := by
 unfold fillB
 rw [List.set_append_right _ _ (by simp; omega), take_snoc_getD h, show bs.length - m = (bs.length - (m + 1)) + 1 from by omega, List.replicate_succ]
 simp [Nat.min_eq_left (Nat.le_of_lt h)]
theorem printL_at : ∀ (s : List Nat) (k j : Nat), k < s.length → j < 4 → (printL s).getD (4 * k + j) 0 = (enc (nx s k) 4).getD j 0
 | [], _, _, h, _ => by simp at h
 | x :: s, 0, j, _, hj => by
  simp only [printL, List.map_cons, List.flatten_cons, Nat.mul_zero, Nat.zero_add, nx, List.getD_cons_zero]
  simp only [List.getD]
  rw [List.getElem?_append_left (by rw [enc_len]; exact hj)]
 | x :: s, k + 1, j, h, hj => by
  have ih := printL_at s k j (by simpa using h) hj
  simp only [printL, List.map_cons, List.flatten_cons, nx, List.getD_cons_succ] at ih ⊢
  rw [← ih]
  simp only [List.getD]
  rw [List.getElem?_append_right (by rw [enc_len]; omega), enc_len, show 4 * (k + 1) + j - 4 = 4 * k + j from by omega]
theorem arrB_zeros (n : Nat) : arrB (List.replicate n 0) = Array.replicate n (Value.int .u8 0) := by
 unfold arrB
 rw [List.map_replicate]
 exact List.toArray_replicate ..
theorem tag_info : (Tryz.prog.info? 57).map (fun i => (i.zero, i.size)) = some (some (.agg (Array.replicate 32 (.int .u8 0))), 32) := by kernel_rfl
def zeros32 : List UInt8 := List.replicate 32 0
theorem tag_zero (w : World) : (zeroValue 57).run Tryz.prog w = .ok (.agg (arrB zeros32)) w := by
 rw [zeros32, arrB_zeros]; exact (zero_of_info tag_info).1 w
theorem tag_size {bs : List UInt8} (h : bs.length = 32) : (Tryz.prog.info? 57).map (·.size) = some (arrB bs).size := by
 rw [arrB_size, h]; exact (zero_of_info tag_info).2
def TagAt (w : World) (g : Nat) (bs : List UInt8) : Prop := bs.length = 32 ∧ w.heap[g]? = some (.cells (arrB bs) 57 (0, 0))
theorem TagAt.below {w w' : World} {g : Nat} {bs : List UInt8} (h : TagAt w g bs) (hb : Below w.heap.size w w') : TagAt w' g bs := by
 refine ⟨h.1, ?_⟩
 have hlt := heap_at_lt h.2
 rw [hb.block g hlt]; exact h.2
theorem TagAt.cell {w : World} {g j : Nat} {bs : List UInt8} (h : TagAt w g bs) (hj : j < 32) : w.cell? ⟨g, j, none⟩ = some (.int .u8 (nth bs j : Int)) ∧ w.frozen? ⟨g, j, none⟩ = false := by
 refine ⟨?_, by simp [World.frozen?, h.2]⟩
 rw [cell_of_row _ _ j _ _ (0, 0) h.2]
 exact arrB_at (by rw [h.1]; exact hj)
theorem TagAt.set {w : World} {g j : Nat} {bs : List UInt8} (h : TagAt w g bs) (y : UInt8) : TagAt (w.setCell ⟨g, j, none⟩ (.int .u8 (y.toNat : Int))) g (bs.set j y) := by
 refine ⟨by rw [List.length_set]; exact h.1, ?_⟩
 rw [heap_setCell_same _ _ _ _ _ _ h.2, arrB_set]
theorem TagAt.other {w : World} {g : Nat} {bs : List UInt8} (h : TagAt w g bs) (a : Addr) (v : Value) (hne : g ≠ a.block) : TagAt (w.setCell a v) g bs :=
 ⟨h.1, (Below.heap_setCell w a v g hne).trans h.2⟩
theorem two_tags (w : World) (bs : List UInt8) (h : bs.length = 32) : TagAt ((w.alloc (.cells (arrB bs) 57)).alloc (.cells (arrB bs) 57)) w.heap.size bs ∧ TagAt ((w.alloc (.cells (arrB bs) 57)).alloc (.cells (arrB bs) 57)) (w.heap.size + 1) bs :=
 ⟨⟨h, (two_blocks w _ _ _).1⟩, ⟨h, (two_blocks w _ _ _).2⟩⟩
def PrintRel (w : World) (out : List UInt8) (i : Value) (wr : World) : Prop :=
 ∃ k : Nat, k ≤ 8 ∧ i = .int .i64 (k : Int) ∧ TagAt wr w.heap.size zeros32 ∧ TagAt wr (w.heap.size + 1) (fillB out (4 * k)) ∧ Below w.heap.size w wr
def PrintRel2 (w : World) (out : List UInt8) (k gz : Nat) (row : List UInt8) (i : Value) (wr : World) : Prop :=
 ∃ j : Nat, j ≤ 4 ∧ i = .int .i64 (j : Int) ∧ TagAt wr w.heap.size zeros32 ∧ TagAt wr (w.heap.size + 1) (fillB out (4 * k + j)) ∧ Rd wr (gz + 1) (some ⟨gz, 0, none⟩) 4 row ∧ Below w.heap.size w wr
theorem rPrint (A : Option Addr) (c : Nat) (s : List Nat) (w : World) (hs : RdK .u32 w w.heap.size A 8 s) (hs8 : Is8 s) :
  Calls Tryz.prog 42 #[.slice A 8 c] w fun e w' => e = .returned (.agg (arrB (printL s))) ∧ Below w.heap.size w w' := by
 have HS := qH hs
 have HL := qH (printL_len hs8.1)
 have HZ := qH (tag_zero)
 have hz := tag_zero
 clear hs
 go_enter Tryz.func42, Tryz.ntmps42
 go_wp2
 clear hz
 go_loopw [4, 6] (fun i _ wr => PrintRel w (printL s) i wr) (fun i _ _ => 8 - (intOf i).toNat)
 case atStart =>
  have h := two_tags w zeros32 rfl
  refine ⟨0, Nat.zero_le _, rfl, h.1, ?_, ((Below.refl _ _).alloc (Nat.le_refl _) _).alloc (by simp) _⟩
  rw [Nat.mul_zero, fillB_zero, HL.out]; exact h.2
 case round =>
  obtain ⟨k, hk, rfl, h0, h1, hb⟩ := hrel
  have T0 := qH h0
  have T1 := qH h1
  have B := qH hb
  have HK := qH hk
  clear h0 h1 hb hk
  by_cases h8 : (k : Int) < 8
  ·obtain ⟨b, o, rfl, hbo, hc⟩ := HS.out.2 (by decide)
   have hcell : wr.cell? ⟨b, o + k, none⟩ = some (.int .u32 (nx s k : Int)) := (B.out.cell hbo).trans (hc k (by omega))
   have hlt := hs8.2 k
   clear hc
   have h64 : (nx s k : Int) % 18446744073709551616 = (nx s k : Int) := by omega
   go_wp2_with fail
   refine (refPut (nx s k) 4 wr (by omega) (by decide)).mono ?_
   rintro e w1 ⟨A1, n1, c1, rfl, hown1, hb⟩
   have R := qH (Rd.of_own hown1)
   obtain rfl : n1 = 4 := by rw [← R.out.1, enc_len]
   obtain ⟨gz, rfl, hgz⟩ := own_head hown1 (by decide)
   have hgz2 : w.heap.size + 1 < gz := Nat.lt_of_lt_of_le (heap_at_lt T1.out.2) hgz
   have HG := qH hgz2
   have T0' := qH (T0.out.below hb)
   have T1' := qH (T1.out.below hb)
   have R' : Hid (Rd w1 (gz + 1) (some ⟨gz, 0, none⟩) 4 (enc (nx s k) 4)) := by
    refine ⟨R.out.1, fun _ => ⟨gz, 0, rfl, by omega, fun j hj => ?_⟩⟩
    exact R.out.at hj
   have HP : Hid (∀ j, j < 4 → (printL s).getD (4 * k + j) 0 = (enc (nx s k) 4).getD j 0) := fun j hj => printL_at s k j (by rw [hs8.1]; omega) hj
   replace B := qH (B.out.trans (hb.mono B.out.size))
   clear hb
   clear hown1 R T0 T1 hgz hgz2 hcell h64 hlt
   generalize enc (nx s k) 4 = row at *
   go_wp2_with fail
   go_loopw [6] (fun i wr => PrintRel2 w (printL s) k gz row i wr) (fun i _ => 4 - (intOf i).toNat)
   case atStart => exact ⟨0, Nat.zero_le _, rfl, T0'.out, T1'.out, R'.out, B.out⟩
   case round =>
    obtain ⟨j, hj, rfl, h0, h1, hr, hb⟩ := hrel
    have T0 := qH h0
    have T1 := qH h1
    have R := qH hr
    have B := qH hb
    have HJ := qH hj
    clear h0 h1 hr hb hj
    by_cases h4 : (j : Int) < 4
    ·obtain ⟨k4, hk4⟩ : ∃ m : Nat, m = 4 * k := ⟨_, rfl⟩
     obtain ⟨q, hq⟩ : ∃ m : Nat, m = 4 * k + j := ⟨_, rfl⟩
     have e1 : 4 * (k : Int) = (k4 : Int) := by omega
     have e2 : (k4 : Int) + (j : Int) = (q : Int) := by omega
     have hq32 : (q : Int) < 32 := by omega
     have HQ := qH hq
     clear hk4 hq
     obtain ⟨hcell, hfr⟩ := T1.out.cell (j := q) (by omega)
     have hrow := R.out.at (j := j) (by omega)
     rw [Nat.zero_add] at hrow
     have HN : Hid ((nth row j : Int) = ((row.getD j 0).toNat : Int)) := rfl
     go_wp2_with fail
     go_roundw
     case rel =>
      rw [HN.out]
      refine ⟨j + 1, by omega, by go_num, T0.out.other _ _ (by show w.heap.size ≠ w.heap.size + 1; omega), ?_, R.out.setOther _ _ (by show gz ≠ w.heap.size + 1; have := HG.out; omega), B.out.setCell (by show w.heap.size ≤ w.heap.size + 1; omega) _⟩
      have h := T1.out.set (j := q) (row.getD j 0)
      rw [← HP.out j (by omega), ← HQ.out, fillB_set (by rw [HL.out, HQ.out]; omega), HQ.out] at h
      rw [← HP.out j (by omega), ← HQ.out, HQ.out, show 4 * k + (j + 1) = 4 * k + j + 1 from by omega]
      exact h
     case measure => simp [intOf]; omega
    ·obtain rfl : j = 4 := by have := HJ.out; omega
     go_wp2_with fail
     go_roundw
     case rel => exact ⟨k + 1, by omega, by go_num, T0.out, by rw [show 4 * (k + 1) = 4 * k + 4 from by omega]; exact T1.out, B.out⟩
     case measure => simp [intOf]; omega
  ·obtain rfl : k = 8 := by have := HK.out; omega
   have hfull : fillB (printL s) (4 * 8) = printL s := by
    have := fillB_all (printL s)
    rw [HL.out] at this; exact this
   rw [hfull] at T1
   have S1 := qH (tag_size HL.out)
   have E1 : Hid ((arrB zeros32).size = (arrB (printL s)).size) := by
    show _ = _
    rw [arrB_size, arrB_size, HL.out]; rfl
   go_wp2_with (first | (refine wpList_load_row rfl 57 _ rfl (w.heap.size + 1) rfl 57 (arrB (printL s)) (0, 0) _ T1.out.2 Tryz.underlying57 rfl S1.out ?_) | (refine wpList_store_row rfl 57 _ _ rfl w.heap.size (arrB (printL s)) rfl rfl 57 (arrB zeros32) T0.out.2 S1.out E1.out (arrB_one _) ?_))
   (try simp only [Exit.inBlock, Exit.then])
   refine bodyPost_ret (v := .agg (arrB (printL s))) ?_ rfl ⟨rfl, below_setRow B.out (Nat.le_refl _) _⟩
   exact results_cell_row rfl _ _ w.heap.size 57 (arrB (printL s)) (0, 0) _ rfl (setRow_heap _ _ _ _ _ _ T0.out.2) Tryz.underlying57 rfl S1.out
end Go.Proofs.YtopilgedcnbdaaaGreatDoor