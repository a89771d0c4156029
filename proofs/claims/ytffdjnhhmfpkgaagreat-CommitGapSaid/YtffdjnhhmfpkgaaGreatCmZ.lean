/- Layer 16's laws: what the row that rows hands back reads as; a sector with one byte otherwise. -/
import Derived.Test.YtffdjnhhmfpkgaaGreatTz
import Derived.Test.YtffdjnhhmfpkgaaGreatCmX
namespace Go.Proofs.YtffdjnhhmfpkgaaGreat
set_option maxRecDepth 1000000
set_option maxHeartbeats 8000000
open Go.RowKit
set_option linter.unusedVariables false
set_option linter.unusedSimpArgs false
theorem rows_own {w0 w : World} {d : Nat} {F : Nat → Prop} {fr : Int} {l : List Rcd} {n c : Nat} {A : Option Addr} (h : RowsS w0 w d F fr l n (.slice A n c)) (hn : 0 < n) :
  ∃ g, A = some ⟨g, 0, none⟩ ∧ g < w.heap.size ∧ ∀ j, j < n → w.rangeAt g (j * 36) (rcL (rN fr l j)) := by
 obtain ⟨g, h1, h2, h3, h4⟩ := own_rc h.own (rL_len fr l n) (rL_hash (fun j hj => (h.may j hj).2)) hn
 exact ⟨g, h1, h3, fun j hj => by have := h4 j hj; rwa [rL_at hj] at this⟩
theorem byte_at (v : UInt8) {i : Nat} (hi : i < 4) (hv : v ≠ 0) : ∃ over, over < 4294967296 ∧ over ≠ 0 ∧ ∀ j, (enc over 4).getD j 0 = if j = i then v else 0 := by
 have hl : ((List.replicate 4 (0 : UInt8)).set i v).length = 4 := by simp
 have hlt := num_lt ((List.replicate 4 (0 : UInt8)).set i v)
 have he := enc_num ((List.replicate 4 (0 : UInt8)).set i v)
 rw [hl] at hlt he
 have hat : ∀ j, (enc (num ((List.replicate 4 (0 : UInt8)).set i v)) 4).getD j 0 = if j = i then v else 0 := fun j => by
  rw [he]
  by_cases e : j = i
  ·subst e
   rw [if_pos rfl]
   simp [List.getD, hi]
  ·rw [if_neg e]
   simp only [List.getD]
   rw [List.getElem?_set_ne (Ne.symm e)]
   rw [List.getElem?_replicate]
   split <;> rfl
 refine ⟨_, by omega, fun h0 => ?_, hat⟩
 have h1 := hat i
 rw [if_pos rfl, (enc_zeros _ (by omega)).2 h0] at h1
 simp only [List.getD, List.getElem?_replicate] at h1
 apply hv
 rw [← h1]
 split <;> rfl
theorem tw_rev (w : World) {x y : Rcd} (hx : x.hash.length = 32) (hy : y.hash.length = 32) :
  (tw0 w).heap[w.heap.size + 1]? = some (.cells (rcL Rcd.zero).toArray 34 (0, 0)) ∧ ((tw0 w).setRow (w.heap.size + 1) (rcL x).toArray).heap[w.heap.size]? = some (.cells (rcL Rcd.zero).toArray 34 (0, 0)) ∧
  RB (((tw0 w).setRow (w.heap.size + 1) (rcL x).toArray).setRow w.heap.size (rcL y).toArray) (w.heap.size + 1) x ∧ RB (((tw0 w).setRow (w.heap.size + 1) (rcL x).toArray).setRow w.heap.size (rcL y).toArray) w.heap.size y ∧ Below w.heap.size w (((tw0 w).setRow (w.heap.size + 1) (rcL x).toArray).setRow w.heap.size (rcL y).toArray) := by
 obtain ⟨w1, hw1⟩ : ∃ w1, w.alloc (.cells (rcL Rcd.zero).toArray 34) = w1 := ⟨_, rfl⟩
 have B1 : Below w.heap.size w w1 := by rw [← hw1]; exact (Below.refl _ _).alloc (Nat.le_refl _) _
 have e1 : w1.heap.size = w.heap.size + 1 := by rw [← hw1]; simp
 have hE : tw0 w = w1.alloc (.cells (rcL Rcd.zero).toArray 34) := by rw [← hw1]
 have B2 : Below w1.heap.size w1 (tw0 w) := by rw [hE]; exact (Below.refl _ _).alloc (Nat.le_refl _) _
 have D1 : RB w1 w.heap.size Rcd.zero := by rw [← hw1]; exact RB.new w rfl
 have D2 : RB (tw0 w) w1.heap.size Rcd.zero := by rw [hE]; exact RB.new w1 rfl
 rw [e1] at D2
 have D1' := D1.to B2
 have E2 : RB ((tw0 w).setRow (w.heap.size + 1) (rcL x).toArray) (w.heap.size + 1) x := D2.setRow hx
 have E1 : RB ((tw0 w).setRow (w.heap.size + 1) (rcL x).toArray) w.heap.size Rcd.zero := D1'.setOther (by omega)
 exact ⟨D2.2, E1.2, E2.setOther (by omega), E1.setRow hy, below_setRow (below_setRow (B1.trans (B2.mono B1.size)) (by omega) _) (Nat.le_refl _) _⟩
theorem frm_byte {k : UInt8} {xs : List UInt8} (h : xs.length ≤ 58) {j : Nat} (hj : j < 64) {v : UInt8} (hv : v ≠ 0) : frOk ((frm k xs).set j ((frm k xs).getD j 0 ^^^ v)) = false := by
 have hl := frm_len (k := k) h
 obtain ⟨p, hp, hpj, hpj2⟩ : ∃ p, (p ≤ 56 ∨ p = 60) ∧ p ≤ j ∧ j < p + 4 := by
  by_cases h1 : j < 60
  ·exact ⟨min j 56, .inl (by omega), by omega, by omega⟩
  ·exact ⟨60, .inr rfl, by omega, by omega⟩
 have hps : p + 4 ≤ (frm k xs).length := by omega
 obtain ⟨over, ho, h0, hz⟩ := byte_at v (i := j - p) (by omega) hv
 have := frm_turned (k := k) h ho h0 hp
 rw [← this]
 congr 1
 apply List.ext_getElem (by simp [patch_len])
 intro i h1 h2
 have hi : i < (frm k xs).length := by simpa using h1
 have e1 : ∀ (L : List UInt8) (hL : i < L.length), L[i] = L.getD i 0 := fun L hL => by simp [List.getD, hL]
 rw [e1 _ h1, e1 _ h2, patch_getD _ _ _ _ _ hps]
 have e2 : ((frm k xs).set j ((frm k xs).getD j 0 ^^^ v)).getD i 0 = if i = j then (frm k xs).getD j 0 ^^^ v else (frm k xs).getD i 0 := by
  by_cases e : i = j
  ·subst e
   rw [if_pos rfl]
   simp [List.getD, hi]
  ·rw [if_neg e]
   simp only [List.getD]
   rw [List.getElem?_set_ne (Ne.symm e)]
 rw [e2]
 by_cases e : i = j
 ·subst e
  rw [if_pos rfl, if_pos ⟨hpj, hpj2⟩, hz (i - p), if_pos rfl]
 ·rw [if_neg e]
  by_cases hin : p ≤ i ∧ i < p + 4
  ·rw [if_pos hin, hz (i - p), if_neg (by omega), UInt8.xor_zero]
  ·rw [if_neg hin]
theorem own_frozC {w : World} {B g n c : Nat} {T : TypeId} {xs : List Value} (h : w.ownsRow B T 1 (.slice (some ⟨g, 0, none⟩) n c) n xs) (hn : 0 < n) : ∀ k, w.frozen? ⟨g, k, none⟩ = false := by
 rcases h.2 with ⟨h, h0⟩ | ⟨g', cap, cur, hv, hg, hh, _⟩
 ·injection h with h; cases h
 ·injection hv with hA
  injection hA with hA
  injection hA with hA
  subst hA
  exact fun k => by simp [World.frozen?, hh]
theorem Rd.setC {W : World} {B g n j : Nat} {bs : List UInt8} (h : Rd W B (some ⟨g, 0, none⟩) n bs) (hj : j < n) (v : UInt8) : Rd (W.setCell ⟨g, j, none⟩ (.int .u8 (v.toNat : Int))) B (some ⟨g, 0, none⟩) n (bs.set j v) := by
 refine ⟨by rw [List.length_set]; exact h.1, fun hn => ?_⟩
 obtain ⟨b, o, e, hb, hc⟩ := h.2 hn
 injection e with e
 injection e with e1 e2
 subst e1; subst e2
 refine ⟨g, 0, rfl, hb, fun i hi => ?_⟩
 have hi0 := hc i hi
 rw [Nat.zero_add] at hi0 ⊢
 have hl := h.1
 by_cases hij : i = j
 ·subst hij
  have en : nth (bs.set i v) i = v.toNat := by unfold nth; simp [List.getD, show i < bs.length by omega]
  rw [en]
  exact World.cell?_setCell_same _ _ _ hi0
 ·have en : nth (bs.set j v) i = nth bs i := by unfold nth; simp only [List.getD]; rw [List.getElem?_set_ne (Ne.symm hij)]
  rw [en, World.cell?_setCell_other _ _ _ _ (fun e => hij (by have h9 := congrArg Addr.off e; simp at h9; omega))]
  exact hi0
theorem arm_sN (fr : Int) (l : List Rcd) (k : Nat) {a : Int} (ha : 1 ≤ a) (st : List UInt8) : (sN fr l k).arm a st = (0, ⟨(sN fr l k).L, true, a.toNat, st⟩) := by
 have hu : (sN fr l k).up = true := by cases k <;> (simp only [sN, dsP]; split <;> rfl)
 unfold DS.arm
 rw [if_neg (by rw [hu]; simp), if_neg (by omega), hu]
end Go.Proofs.YtffdjnhhmfpkgaaGreat