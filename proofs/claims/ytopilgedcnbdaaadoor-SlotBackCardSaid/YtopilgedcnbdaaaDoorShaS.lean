/- Contract of the program's spread (sha): the 64 numbers of a block, in an array. -/
import Derived.Test.YtopilgedcnbdaaaDoorTz
import Derived.Test.YtopilgedcnbdaaaDoorShaG
import Derived.Test.YtopilgedcnbdaaaDoorShaP
import Derived.Test.YtopilgedcnbdaaaDoorNumW
namespace Go.Proofs.YtopilgedcnbdaaaDoor
set_option maxRecDepth 1000000
set_option maxHeartbeats 8000000
open Go.RowKit
set_option linter.unusedVariables false
theorem numsW_at (blk : List UInt8) : ∀ {n k : Nat}, k < n → nx (numsW blk n) k = nextW blk (numsW blk k)
 | 0, _, h => by omega
 | n + 1, k, h => by
  rw [numsW]
  by_cases e : k = n
  ·subst e
   have := nx_last (numsW blk k) (nextW blk (numsW blk k))
   rwa [numsW_len] at this
  ·rw [nx_left (by rw [numsW_len]; omega)]
   exact numsW_at blk (by omega)
theorem numsW_pre (blk : List UInt8) {n k j : Nat} (hk : k ≤ n) (hj : j < k) : nx (numsW blk n) j = nx (numsW blk k) j := by
 rw [numsW_at blk (by omega), numsW_at blk hj]
theorem FillRel.drew {T : TypeId} {out zs : List Nat} {w wr : World} {i : Value} (h : FillRel T out zs w i wr) : FillRel T out zs w i wr.drew := by
 obtain ⟨m, h1, h2, h3, h4, h5⟩ := h
 exact ⟨m, h1, h2, h3, h4, h5.drew⟩
theorem wSpread (A : Option Addr) (c : Nat) (blk : List UInt8) (w : World) (ha : Rd w w.heap.size A 64 blk) (hc : 64 ≤ c) (hc' : c ≤ 9223372036854775807) :
  Calls Tryd.prog 54 #[.slice A 64 c] w fun e w' => e = .returned (.agg (arrN .u32 (numsW blk 64))) ∧ Below w.heap.size w w' := by
 have HA := qH ha
 have HLN : Hid ((numsW blk 64).length = 64) := numsW_len blk 64
 clear ha
 have hz := k_zero
 go_enter Tryd.func54, Tryd.ntmps54
 go_wp2
 clear hz
 go_loopw [7] (fun i wr => FillRel 66 (numsW blk 64) zeros64 w i wr) (fun i _ => 64 - (intOf i).toNat)
 case atStart =>
  have h := two_nums 66 .u32 w zeros64 zeros64
  refine ⟨0, Nat.zero_le _, rfl, h.1, ?_, ((Below.refl _ _).alloc (Nat.le_refl _) _).alloc (by simp) _⟩
  rw [fillN_zero, HLN.out]; exact h.2
 case round =>
  obtain ⟨k, hk, rfl, h0, h1, hb⟩ := hrel
  rw [HLN.out] at hk
  have T0 := qH h0
  have T1 := qH h1
  have B := qH hb
  have HK := qH hk
  clear h0 h1 hb hk
  by_cases h64 : (k : Int) < 64
  ·have HK64 : Hid (k < 64) := by show _ < _; omega
   have HV := qH (numsW_at blk HK64.out)
   have HLF : Hid ((fillN (numsW blk 64) k).length = 64) := by
    show _ = _
    rw [fillN_len (by rw [HLN.out]; exact HK.out), HLN.out]
   have HST : Hid (∀ y wx, Below w.heap.size w wx → NumAt 66 .u32 wx w.heap.size zeros64 → NumAt 66 .u32 wx (w.heap.size + 1) (fillN (numsW blk 64) k) → y = nextW blk (numsW blk k) →
     FillRel 66 (numsW blk 64) zeros64 w (.int .i64 ((k : Int) + 1)) (wx.setCell ⟨w.heap.size + 1, k, none⟩ (.int .u32 (y : Int)))) := fun y wx hB hT0 hT1 hy => by
    refine ⟨k + 1, by rw [HLN.out]; exact HK64.out, by go_num, hT0.other _ _ (by show w.heap.size ≠ w.heap.size + 1; omega), ?_, hB.setCell (by show w.heap.size ≤ w.heap.size + 1; omega) _⟩
    have h := hT1.set (j := k) y
    rw [hy, ← HV.out, fillN_set (by rw [HLN.out]; exact HK64.out)] at h
    rw [hy, ← HV.out]
    exact h
   by_cases h16 : (k : Int) < 16
   ·have HN := qH (loadOf_num (blk := blk) (k := k) HA.out.1 (by omega))
    have HR := qH (HA.out.to B.out)
    have hw4 : (k : Int) * 4 = 4 * (k : Int) := by omega
    obtain ⟨hc1, hfr⟩ := T1.out.cell (j := k) (by rw [HLF.out]; exact HK64.out)
    go_wp2_with fail
    refine (wLoad32 A 64 c _ (4 * (k : Int)) blk wr HR.out hc hc' (by omega) (by omega)).mono ?_
    rintro e w' ⟨rfl, rfl⟩
    rw [HN.out]
    generalize nextW blk (numsW blk k) = y at *
    go_wp2_with fail
    go_roundw
    case rel => exact HST.out y _ B.out T0.out T1.out rfl
    case measure => simp [intOf]; omega
   ·have hk16 : 16 ≤ k := by omega
    obtain ⟨j15, e15⟩ : ∃ j : Nat, j = k - 15 := ⟨_, rfl⟩
    obtain ⟨j2, e2⟩ : ∃ j : Nat, j = k - 2 := ⟨_, rfl⟩
    obtain ⟨j16, e16⟩ : ∃ j : Nat, j = k - 16 := ⟨_, rfl⟩
    obtain ⟨j7, e7⟩ : ∃ j : Nat, j = k - 7 := ⟨_, rfl⟩
    have i15 : (k : Int) - 15 = (j15 : Int) := by omega
    have i2 : (k : Int) - 2 = (j2 : Int) := by omega
    have i16 : (k : Int) - 16 = (j16 : Int) := by omega
    have i7 : (k : Int) - 7 = (j7 : Int) := by omega
    have HAT : Hid (∀ j, j < k → wr.cell? ⟨w.heap.size + 1, j, none⟩ = some (.int .u32 (nx (numsW blk k) j : Int))) := fun j hj => by
     rw [(T1.out.cell (j := j) (by rw [HLF.out]; have := HK64.out; omega)).1, fillN_at hj (by rw [HLN.out]; exact HK.out), numsW_pre blk HK.out hj]
    have f15 := HAT.out j15 (by omega)
    have f2 := HAT.out j2 (by omega)
    have f16 := HAT.out j16 (by omega)
    have f7 := HAT.out j7 (by omega)
    have b15 := numsW_lt blk k j15
    have b2 := numsW_lt blk k j2
    have HW : Hid (nextW blk (numsW blk k) = (nx (numsW blk k) j16 + nx (numsW blk k) j7 + sp (nx (numsW blk k) j15) + sq (nx (numsW blk k) j2)) % 4294967296) := by
     show _ = _
     unfold nextW
     rw [numsW_len, if_neg (by omega), e15, e2, e16, e7]
    have l16 : (j16 : Int) < 64 := by omega
    have l7 : (j7 : Int) < 64 := by omega
    have l15 : (j15 : Int) < 64 := by omega
    have l2 : (j2 : Int) < 64 := by omega
    obtain ⟨hc1, hfr⟩ := T1.out.cell (j := k) (by rw [HLF.out]; exact HK64.out)
    have HSP : Hid (∀ x : Nat, (rotr x 7 ^^^ rotr x 18 ^^^ x / 2 ^ 3 = sp x)) := fun x => rfl
    have HSQ : Hid (∀ x : Nat, (rotr x 17 ^^^ rotr x 19 ^^^ x / 2 ^ 10 = sq x)) := fun x => rfl
    clear e15 e2 e16 e7
    generalize nx (numsW blk k) j15 = x15 at *
    generalize nx (numsW blk k) j2 = x2 at *
    generalize nx (numsW blk k) j16 = x16 at *
    generalize nx (numsW blk k) j7 = x7 at *
    go_wp2_with fail
    refine (wShifted x15 7 18 3 rfl rfl rfl wr b15 (by decide) (by decide) (by decide)).mono ?_
    rintro e w' ⟨rfl, q, rfl⟩
    rw [HSP.out]
    have B1 := qH (below_drewN B.out q)
    have T0' : Hid (NumAt 66 .u32 (wr.drewN q) w.heap.size zeros64) := T0.out
    have T1' : Hid (NumAt 66 .u32 (wr.drewN q) (w.heap.size + 1) (fillN (numsW blk 64) k)) := T1.out
    have g2 : (wr.drewN q).cell? ⟨w.heap.size + 1, j2, none⟩ = some (.int .u32 (x2 : Int)) := f2
    have g16 : (wr.drewN q).cell? ⟨w.heap.size + 1, j16, none⟩ = some (.int .u32 (x16 : Int)) := f16
    have g7 : (wr.drewN q).cell? ⟨w.heap.size + 1, j7, none⟩ = some (.int .u32 (x7 : Int)) := f7
    clear B T0 T1 f15 f2 f16 f7 hc1 hfr HAT
    generalize wr.drewN q = wr1 at *
    go_wp2_with fail
    refine (wShifted x2 17 19 10 rfl rfl rfl wr1 b2 (by decide) (by decide) (by decide)).mono ?_
    rintro e w' ⟨rfl, q2, rfl⟩
    rw [HSQ.out]
    have B := qH (below_drewN B1.out q2)
    have T0 : Hid (NumAt 66 .u32 (wr1.drewN q2) w.heap.size zeros64) := T0'.out
    have T1 : Hid (NumAt 66 .u32 (wr1.drewN q2) (w.heap.size + 1) (fillN (numsW blk 64) k)) := T1'.out
    have f16 : (wr1.drewN q2).cell? ⟨w.heap.size + 1, j16, none⟩ = some (.int .u32 (x16 : Int)) := g16
    have f7 : (wr1.drewN q2).cell? ⟨w.heap.size + 1, j7, none⟩ = some (.int .u32 (x7 : Int)) := g7
    clear B1 T0' T1' g2 g16 g7
    generalize wr1.drewN q2 = wr2 at *
    obtain ⟨hc1, hfr⟩ := T1.out.cell (j := k) (by rw [HLF.out]; exact HK64.out)
    generalize hp : sp x15 = p at *
    generalize hq : sq x2 = q at *
    clear hp hq
    have w16 : IntKind.i64.wrap (j16 : Int) = (j16 : Int) := IntWalk.i64_in _ (by omega)
    have w7 : IntKind.i64.wrap (j7 : Int) = (j7 : Int) := IntWalk.i64_in _ (by omega)
    go_wp2_with fail
    go_region
    have hy : ((x16 : Int) + (x7 : Int) + (p : Int) + (q : Int)) % 4294967296 = (((x16 + x7 + p + q) % 4294967296 : Nat) : Int) := by omega
    rw [hy]
    have HF := qH (HST.out _ wr2 B.out T0.out T1.out HW.out.symm).drew
    clear hy
    generalize (x16 + x7 + p + q) % 4294967296 = y at *
    generalize ((wr2.setCell ⟨w.heap.size + 1, k, none⟩ (.int .u32 (y : Int)))).drew = wr3 at *
    go_wp2_with fail
    go_roundw
    case rel => exact HF.out
    case measure => simp [intOf]; omega
  ·obtain rfl : k = 64 := by have := HK.out; omega
   have hfull : fillN (numsW blk 64) 64 = numsW blk 64 := by
    have h := fillN_all (numsW blk 64)
    rwa [HLN.out] at h
   rw [hfull] at T1
   obtain ⟨ws, hws⟩ : ∃ ws, numsW blk 64 = ws := ⟨_, rfl⟩
   rw [hws] at T1 HLN
   have HWS := qH hws
   clear hws hfull
   have S1 := qH (k_size (xs := ws) HLN.out)
   have E1 := qH (same_size (k := .u32) (xs := zeros64) (ys := ws) (by rw [HLN.out]; exact List.length_replicate))
   go_wp2_with (first | (refine wpList_load_row rfl 66 _ rfl (w.heap.size + 1) rfl 66 (arrN .u32 ws) (0, 0) _ T1.out Tryd.underlying66 rfl S1.out ?_) | (refine wpList_store_row rfl 66 _ _ rfl w.heap.size (arrN .u32 ws) rfl rfl 66 (arrN .u32 zeros64) T0.out S1.out E1.out (arrN_one _ _) ?_))
   (try simp only [Exit.inBlock, Exit.then])
   refine bodyPost_ret (v := .agg (arrN .u32 ws)) ?_ rfl ⟨by rw [HWS.out], below_setRow B.out (Nat.le_refl _) _⟩
   exact results_cell_row rfl _ _ w.heap.size 66 (arrN .u32 ws) (0, 0) _ rfl (setRow_heap _ _ _ _ _ _ T0.out) Tryd.underlying66 rfl S1.out
end Go.Proofs.YtopilgedcnbdaaaDoor