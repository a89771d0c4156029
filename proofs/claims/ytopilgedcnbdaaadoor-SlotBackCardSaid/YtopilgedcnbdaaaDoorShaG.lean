/- Contracts of the program's First and constants (sha). -/
import Derived.Test.YtopilgedcnbdaaaDoorTz
import Derived.Test.YtopilgedcnbdaaaDoorShaF
namespace Go.Proofs.YtopilgedcnbdaaaDoor
set_option maxRecDepth 1000000
set_option maxHeartbeats 8000000
open Go.RowKit
set_option linter.unusedVariables false
def zeros8 : List Nat := List.replicate 8 0
def zeros64 : List Nat := List.replicate 64 0
theorem st_info : (Tryd.prog.info? 81).map (fun i => (i.zero, i.size)) = some (some (.agg (Array.replicate 8 (.int .u32 0))), 8) := by kernel_rfl
theorem st_zero (w : World) : (zeroValue 81).run Tryd.prog w = .ok (.agg (arrN .u32 zeros8)) w := by
 rw [zeros8, arrN_zeros]; exact (zero_of_info st_info).1 w
theorem st_size {xs : List Nat} (h : xs.length = 8) : (Tryd.prog.info? 81).map (·.size) = some (arrN .u32 xs).size := by
 rw [arrN_size, h]; exact (zero_of_info st_info).2
theorem k_info : (Tryd.prog.info? 66).map (fun i => (i.zero, i.size)) = some (some (.agg (Array.replicate 64 (.int .u32 0))), 64) := by kernel_rfl
theorem k_zero (w : World) : (zeroValue 66).run Tryd.prog w = .ok (.agg (arrN .u32 zeros64)) w := by
 rw [zeros64, arrN_zeros]; exact (zero_of_info k_info).1 w
theorem k_size {xs : List Nat} (h : xs.length = 64) : (Tryd.prog.info? 66).map (·.size) = some (arrN .u32 xs).size := by
 rw [arrN_size, h]; exact (zero_of_info k_info).2
theorem same_size {k : IntKind} {xs ys : List Nat} (h : xs.length = ys.length) : (arrN k xs).size = (arrN k ys).size := by rw [arrN_size, arrN_size, h]
def FillRel (T : TypeId) (out zs : List Nat) (w : World) (i : Value) (wr : World) : Prop :=
 ∃ m : Nat, m ≤ out.length ∧ i = .int .i64 (m : Int) ∧ NumAt T .u32 wr w.heap.size zs ∧ NumAt T .u32 wr (w.heap.size + 1) (fillN out m) ∧ Below w.heap.size w wr
theorem wConstants (w : World) (hp : Pr w) : Calls Tryd.prog 21 #[] w fun e w' => e = .returned (.agg (arrN .u32 shaK)) ∧ Below w.heap.size w w' := by
 have HP := qH hp
 clear hp
 have hz := k_zero
 go_enter Tryd.func21, Tryd.ntmps21
 go_wp2
 clear hz
 go_loopw [3] (fun i wr => FillRel 66 shaK zeros64 w i wr) (fun i _ => 64 - (intOf i).toNat)
 case atStart => exact ⟨0, Nat.zero_le _, rfl, (two_nums _ _ w zeros64 zeros64).1, (two_nums _ _ w zeros64 zeros64).2, ((Below.refl _ _).alloc (Nat.le_refl _) _).alloc (by simp) _⟩
 case round =>
  obtain ⟨k, hk, rfl, h0, h1, hb⟩ := hrel
  have hk : k ≤ 64 := hk
  have T0 := qH h0
  have T1 := qH h1
  have B := qH hb
  have HK := qH hk
  have P1 := qH (HP.out.to hb)
  clear h0 h1 hb hk
  by_cases h64 : (k : Int) < 64
  ·have hk64 : k < 64 := by omega
   have hcell := P1.out.2 k hk64
   have hlt := prime_lt k
   have HV := qH (cube_at hk64)
   have HK64 := qH hk64
   clear hk64
   generalize nx primeL k = p at *
   go_wp2_with fail
   refine (wFracCu p wr hlt).mono ?_
   rintro e w' ⟨rfl, rfl⟩
   rw [HV.out]
   obtain ⟨hc1, hfr⟩ := T1.out.cell (j := k) (by rw [fillN_len (by have := HK.out; exact this)]; exact HK64.out)
   go_wp2_with fail
   go_roundw
   case rel =>
    refine ⟨k + 1, HK64.out, by go_num, T0.out.other _ _ (by show w.heap.size ≠ w.heap.size + 1; omega), ?_, B.out.setCell (by show w.heap.size ≤ w.heap.size + 1; omega) _⟩
    have h := T1.out.set (j := k) (nx shaK k)
    rw [fillN_set (by exact HK64.out)] at h
    exact h
   case measure => simp [intOf]; omega
  ·obtain rfl : k = 64 := by have := HK.out; omega
   have hfull : fillN shaK 64 = shaK := fillN_all shaK
   rw [hfull] at T1
   have S1 := qH (k_size (xs := shaK) rfl)
   have E1 := qH (same_size (k := .u32) (xs := zeros64) (ys := shaK) rfl)
   go_wp2_with (first | (refine wpList_load_row rfl 66 _ rfl (w.heap.size + 1) rfl 66 (arrN .u32 shaK) (0, 0) _ T1.out Tryd.underlying66 rfl S1.out ?_) | (refine wpList_store_row rfl 66 _ _ rfl w.heap.size (arrN .u32 shaK) rfl rfl 66 (arrN .u32 zeros64) T0.out S1.out E1.out (arrN_one _ _) ?_))
   (try simp only [Exit.inBlock, Exit.then])
   refine bodyPost_ret (v := .agg (arrN .u32 shaK)) ?_ rfl ⟨rfl, below_setRow B.out (Nat.le_refl _) _⟩
   exact results_cell_row rfl _ _ w.heap.size 66 (arrN .u32 shaK) (0, 0) _ rfl (setRow_heap _ _ _ _ _ _ T0.out) Tryd.underlying66 rfl S1.out
theorem wFirst (w : World) (hp : Pr w) : Calls Tryd.prog 33 #[] w fun e w' => e = .returned (.agg (arrN .u32 shaF)) ∧ Below w.heap.size w w' := by
 have HP := qH hp
 clear hp
 have hz := st_zero
 go_enter Tryd.func33, Tryd.ntmps33
 go_wp2
 clear hz
 go_loopw [3] (fun i wr => FillRel 81 shaF zeros8 w i wr) (fun i _ => 8 - (intOf i).toNat)
 case atStart => exact ⟨0, Nat.zero_le _, rfl, (two_nums _ _ w zeros8 zeros8).1, (two_nums _ _ w zeros8 zeros8).2, ((Below.refl _ _).alloc (Nat.le_refl _) _).alloc (by simp) _⟩
 case round =>
  obtain ⟨k, hk, rfl, h0, h1, hb⟩ := hrel
  have hk : k ≤ 8 := hk
  have T0 := qH h0
  have T1 := qH h1
  have B := qH hb
  have HK := qH hk
  have P1 := qH (HP.out.to hb)
  clear h0 h1 hb hk
  by_cases h64 : (k : Int) < 8
  ·have hk64 : k < 8 := by omega
   have hcell := P1.out.2 k (by omega)
   have hlt := prime_lt k
   have HV := qH (square_at hk64)
   have HK64 := qH hk64
   clear hk64
   generalize nx primeL k = p at *
   go_wp2_with fail
   refine (wFracSq p wr hlt).mono ?_
   rintro e w' ⟨rfl, rfl⟩
   rw [HV.out]
   obtain ⟨hc1, hfr⟩ := T1.out.cell (j := k) (by rw [fillN_len (by have := HK.out; exact this)]; exact HK64.out)
   go_wp2_with fail
   go_roundw
   case rel =>
    refine ⟨k + 1, HK64.out, by go_num, T0.out.other _ _ (by show w.heap.size ≠ w.heap.size + 1; omega), ?_, B.out.setCell (by show w.heap.size ≤ w.heap.size + 1; omega) _⟩
    have h := T1.out.set (j := k) (nx shaF k)
    rw [fillN_set (by exact HK64.out)] at h
    exact h
   case measure => simp [intOf]; omega
  ·obtain rfl : k = 8 := by have := HK.out; omega
   have hfull : fillN shaF 8 = shaF := fillN_all shaF
   rw [hfull] at T1
   have S1 := qH (st_size (xs := shaF) rfl)
   have E1 := qH (same_size (k := .u32) (xs := zeros8) (ys := shaF) rfl)
   go_wp2_with (first | (refine wpList_load_row rfl 81 _ rfl (w.heap.size + 1) rfl 81 (arrN .u32 shaF) (0, 0) _ T1.out Tryd.underlying81 rfl S1.out ?_) | (refine wpList_store_row rfl 81 _ _ rfl w.heap.size (arrN .u32 shaF) rfl rfl 81 (arrN .u32 zeros8) T0.out S1.out E1.out (arrN_one _ _) ?_))
   (try simp only [Exit.inBlock, Exit.then])
   refine bodyPost_ret (v := .agg (arrN .u32 shaF)) ?_ rfl ⟨rfl, below_setRow B.out (Nat.le_refl _) _⟩
   exact results_cell_row rfl _ _ w.heap.size 81 (arrN .u32 shaF) (0, 0) _ rfl (setRow_heap _ _ _ _ _ _ T0.out) Tryd.underlying81 rfl S1.out
end Go.Proofs.YtopilgedcnbdaaaDoor