/- Slots in plain words: what a slot's bytes are behind a write of a disk that is up and not armed, which sectors are in the cache then. No program is named here. -/
import Derived.Test.YtopilgedcnbdaaaTz
import Derived.Test.YtopilgedcnbdaaaSlP
namespace Go.Proofs.Ytopilgedcnbdaaa
set_option maxRecDepth 1000000
set_option maxHeartbeats 8000000
open Go.RowKit
set_option linter.unusedVariables false
set_option linter.unusedSimpArgs false
theorem secAt_put {L : List Sec} {i j : Nat} (h : i < L.length) (s : Sec) : secAt (L.set i s) j = if i = j then s else secAt L j := by
 unfold secAt
 by_cases e : i = j
 ·subst e; simp [List.getD, h]
 ·simp [List.getD, e]
structure Calm (sl : Nat) (s : DS) : Prop where
 up : s.up = true
 left : s.left = 0
 ok : s.ok
 room : 3 + 64 * sl + 64 ≤ s.L.length
theorem overS_miss {s b : List UInt8} {j p : Nat} (hs : s.length = 64) (h : hitS j p b.length = false) : overS s j p b = s := by
 refine List.ext_getElem? fun k => ?_
 by_cases hk : k < s.length
 ·rw [overS_get hk, if_neg, List.getElem?_eq_getElem hk]
  ·simp [List.getD, hk]
  ·intro g
   have : hitS j p b.length = true := hitS_iff.2 (by omega)
   rw [h] at this; cases this
 ·rw [List.getElem?_eq_none (by rw [overS_len]; omega), List.getElem?_eq_none (by omega)]
theorem stepW_calm {sl p j : Nat} {b : List UInt8} {s : DS} (h : Calm sl s) (hj : j < 64) (hh : hitS j p b.length = true) : stepW sl p b j s = (0, s.put (3 + 64 * sl + j) (overS (Sec.now (secAt s.L (3 + 64 * sl + j))) j p b)) := by
 have hl : 3 + 64 * sl + j < s.L.length := by have := h.room; omega
 unfold stepW
 rw [if_pos hh, read_at h.up, if_pos hl, if_neg (by simp)]
 unfold DS.write
 rw [if_neg (by rw [h.up]; decide), if_neg (by simp [DS.has]; omega), if_neg (by rw [overS_len, now_len h.ok hl]; simp), if_neg (by rw [h.left]; decide), Int.toNat_natCast]
theorem Calm.put {sl i : Nat} {s : DS} (h : Calm sl s) {c : List UInt8} (hi : i < s.L.length) (hc : c.length = 64) : Calm sl (s.put i c) :=
 ⟨h.up, by show s.left - 1 = 0; rw [h.left], h.ok.put hi hc, by show _ ≤ (s.L.set _ _).length; rw [List.length_set]; exact h.room⟩
def secW (sl p m : Nat) (b : List UInt8) (s : DS) (i : Nat) : Sec :=
 if 3 + 64 * sl ≤ i ∧ i < 3 + 64 * sl + m ∧ hitS (i - (3 + 64 * sl)) p b.length = true then ((secAt s.L i).1, some (overS (Sec.now (secAt s.L i)) (i - (3 + 64 * sl)) p b)) else secAt s.L i
theorem goL_calm {sl p : Nat} {b : List UInt8} {s : DS} (h : Calm sl s) : ∀ m, m ≤ 64 → ∃ s', goL sl p b (hits p b.length m) s = (0, s') ∧ Calm sl s' ∧ s'.L.length = s.L.length ∧ ∀ i, secAt s'.L i = secW sl p m b s i
 | 0, _ => ⟨s, rfl, h, rfl, fun i => by unfold secW; rw [if_neg (by omega)]⟩
 | m + 1, hm => by
  obtain ⟨s', h1, h2, h3, h4⟩ := goL_calm (p := p) (b := b) h m (by omega)
  cases hh : hitS m p b.length with
  | false =>
   refine ⟨s', by rw [hits_miss hh, h1], h2, h3, fun i => ?_⟩
   rw [h4]
   unfold secW
   by_cases c : 3 + 64 * sl ≤ i ∧ i < 3 + 64 * sl + m ∧ hitS (i - (3 + 64 * sl)) p b.length = true
   ·rw [if_pos c, if_pos ⟨c.1, by omega, c.2.2⟩]
   ·rw [if_neg c, if_neg]
    rintro ⟨c1, c2, c3⟩
    by_cases e : i = 3 + 64 * sl + m
    ·subst e
     rw [Nat.add_sub_cancel_left, hh] at c3; cases c3
    ·exact c ⟨c1, by omega, c3⟩
  | true =>
   have hl : 3 + 64 * sl + m < s'.L.length := by have := h2.room; omega
   refine ⟨_, by rw [hits_hit hh, goL_snoc, h1, if_neg (by simp), stepW_calm h2 (by omega) hh], h2.put hl (by rw [overS_len, now_len h2.ok hl]), by show (s'.L.set _ _).length = _; rw [List.length_set, h3], fun i => ?_⟩
   show secAt (s'.L.set _ _) i = _
   rw [secAt_put hl]
   unfold secW
   by_cases e : 3 + 64 * sl + m = i
   ·subst e
    have h5 : secAt s'.L (3 + 64 * sl + m) = secAt s.L (3 + 64 * sl + m) := by rw [h4]; unfold secW; rw [if_neg (by omega)]
    rw [if_pos rfl, if_pos ⟨by omega, by omega, by rw [Nat.add_sub_cancel_left]; exact hh⟩, h5, Nat.add_sub_cancel_left]
   ·rw [if_neg e, h4]
    unfold secW
    by_cases c : 3 + 64 * sl ≤ i ∧ i < 3 + 64 * sl + m ∧ hitS (i - (3 + 64 * sl)) p b.length = true
    ·rw [if_pos c, if_pos ⟨c.1, by omega, c.2.2⟩]
    ·rw [if_neg c, if_neg]
     rintro ⟨c1, c2, c3⟩
     exact c ⟨c1, by omega, c3⟩
def setB (bs : List UInt8) (p : Nat) (b : List UInt8) : List UInt8 := bs.take p ++ b ++ bs.drop (p + b.length)
theorem setB_len {bs b : List UInt8} {p : Nat} (h : p + b.length ≤ bs.length) : (setB bs p b).length = bs.length := by unfold setB; simp; omega
theorem setB_get {bs b : List UInt8} {p q : Nat} (h : p + b.length ≤ bs.length) (hq : q < bs.length) : (setB bs p b)[q]? = some (if p ≤ q ∧ q < p + b.length then b.getD (q - p) 0 else bs.getD q 0) := by
 unfold setB
 have e0 : (bs.take p).length = p := by simp; omega
 by_cases c1 : q < p
 ·rw [if_neg (by omega), List.append_assoc, List.getElem?_append_left (by omega), List.getElem?_take, if_pos c1, List.getElem?_eq_getElem hq]
  simp [List.getD, hq]
 ·by_cases c2 : q < p + b.length
  ·have c3 : q - p < b.length := by omega
   rw [if_pos (by omega), List.getElem?_append_left (by simp; omega), List.getElem?_append_right (by omega), e0, List.getElem?_eq_getElem c3]
   simp [List.getD, c3]
  ·rw [if_neg (by omega), List.getElem?_append_right (by simp; omega), List.getElem?_drop, List.length_append, e0, show p + b.length + (q - (p + b.length)) = q from by omega, List.getElem?_eq_getElem hq]
   simp [List.getD, hq]
theorem allS_get {s : DS} (h : s.ok) (sl : Nat) : ∀ k, 3 + 64 * sl + k ≤ s.L.length → ∀ q, q < 64 * k → (allS sl s k)[q]? = some ((Sec.now (secAt s.L (3 + 64 * sl + q / 64))).getD (q % 64) 0)
 | 0, _, _, hq => absurd hq (by omega)
 | k + 1, hk, q, hq => by
  have hA := allS_len h sl k (by omega)
  unfold allS
  by_cases c : q < 64 * k
  ·rw [List.getElem?_append_left (by omega), allS_get h sl k (by omega) q c]
  ·have e : q / 64 = k := by omega
   have hN := now_len h (i := 3 + 64 * sl + k) (by omega)
   have hb : q - 64 * k < 64 := by omega
   rw [List.getElem?_append_right (by omega), hA, e, show q % 64 = q - 64 * k from by omega, List.getElem?_eq_getElem (by omega)]
   simp [List.getD, hN, hb]
theorem writeS_calm {sl p : Nat} {b : List UInt8} {s : DS} (h : Calm sl s) (hsl : sl = 0 ∨ sl = 1) (hp : p + b.length ≤ 4096) :
  ∃ s', writeS (sl : Int) (p : Int) b s = (0, s') ∧ Calm sl s' ∧ s'.L.length = s.L.length ∧ allS sl s' 64 = setB (allS sl s 64) p b ∧
   (∀ o, o ≠ sl → 3 + 64 * o + 64 ≤ s.L.length → allS o s' 64 = allS o s 64) ∧ ∀ i ∈ dirtyL s'.L, i ∈ dirtyL s.L ∨ 3 + 64 * sl ≤ i ∧ i < 3 + 64 * sl + 64 := by
 have h0 : refS (sl : Int) (p : Int) b.length = 0 := by
  unfold refS
  rw [if_neg (by omega), if_neg (by omega)]
 obtain ⟨s', h1, h2, h3, h4⟩ := goL_calm (p := p) (b := b) h 64 (Nat.le_refl _)
 have hlen := allS_len h.ok sl 64 h.room
 have hlen' := allS_len h2.ok sl 64 h2.room
 refine ⟨s', by rw [writeS_hits h0 h.up, Int.toNat_natCast, Int.toNat_natCast, h1], h2, h3, ?_, fun o ho hr => ?_, fun i hi => ?_⟩
 ·refine List.ext_getElem? fun q => ?_
  by_cases hq : q < 4096
  ·rw [allS_get h2.ok sl 64 h2.room q (by omega), setB_get (by omega) (by omega), h4]
   have hN := now_len h.ok (i := 3 + 64 * sl + q / 64) (by have := h.room; omega)
   have e1 : Sec.now (secW sl p 64 b s (3 + 64 * sl + q / 64)) = overS (Sec.now (secAt s.L (3 + 64 * sl + q / 64))) (q / 64) p b := by
    unfold secW
    rw [Nat.add_sub_cancel_left]
    by_cases c : 3 + 64 * sl ≤ 3 + 64 * sl + q / 64 ∧ 3 + 64 * sl + q / 64 < 3 + 64 * sl + 64 ∧ hitS (q / 64) p b.length = true
    ·rw [if_pos c]; rfl
    ·rw [if_neg c, overS_miss hN]
     cases e : hitS (q / 64) p b.length with
     | false => rfl
     | true => exact absurd ⟨by omega, by omega, e⟩ c
   rw [e1]
   have e2 : 64 * (q / 64) + q % 64 = q := by omega
   have e3 := allS_get h.ok sl 64 h.room q (by omega)
   have e4 : (allS sl s 64).getD q 0 = (Sec.now (secAt s.L (3 + 64 * sl + q / 64))).getD (q % 64) 0 := by rw [List.getD, e3]; rfl
   rw [e4]
   generalize Sec.now (secAt s.L (3 + 64 * sl + q / 64)) = c at *
   have e5 := overS_get (s := c) (b := b) (j := q / 64) (p := p) (k := q % 64) (by omega)
   rw [e2] at e5
   rw [List.getD, e5]
   rfl
  ·rw [List.getElem?_eq_none (by omega), List.getElem?_eq_none (by rw [setB_len (by omega)]; omega)]
 ·have g1 := allS_len h.ok o 64 hr
  have g2 := allS_len h2.ok o 64 (by omega)
  refine List.ext_getElem? fun q => ?_
  by_cases hq : q < 4096
  ·rw [allS_get h2.ok o 64 (by omega) q (by omega), allS_get h.ok o 64 hr q (by omega), h4]
   unfold secW
   rw [if_neg (by omega)]
  ·rw [List.getElem?_eq_none (by omega), List.getElem?_eq_none (by omega)]
 ·obtain ⟨g1, g2⟩ := (dirtyL_mem _ _).1 hi
  rw [h4] at g2
  unfold secW at g2
  split at g2
  ·rename_i c; exact .inr ⟨c.1, c.2.1⟩
  ·exact .inl ((dirtyL_mem _ _).2 ⟨by omega, g2⟩)
theorem readS_calm {sl n : Nat} {s : DS} (h : Calm sl s) (hsl : sl = 0 ∨ sl = 1) (hn : n ≤ 4096) : readS (sl : Int) (n : Int) s = ((allS sl s 64).take n, 0) := by
 have h0 : refS (sl : Int) 0 (n : Int) = 0 := by
  unfold refS
  rw [if_neg (by omega), if_neg (by omega)]
 have hs : slotN sl s = 64 := by have := h.room; unfold slotN; omega
 unfold readS
 rw [if_neg (by rw [h0]; simp), if_neg (by rw [h.up]; decide), Int.toNat_natCast, Int.toNat_natCast, hs, if_neg (by omega)]
theorem Calm.new {sl n : Nat} (h : 3 + 64 * sl + 64 ≤ n) (hn : n ≤ 1024) : Calm sl (DS.new n) := ⟨rfl, rfl, DS.ok.new hn, by simpa [DS.new] using h⟩
theorem allS_new {sl n : Nat} (h : 3 + 64 * sl + 64 ≤ n) (hn : n ≤ 1024) : allS sl (DS.new n) 64 = List.replicate 4096 0 := by
 have hc := Calm.new h hn
 have g := allS_len hc.ok sl 64 hc.room
 refine List.ext_getElem? fun q => ?_
 by_cases hq : q < 4096
 ·rw [allS_get hc.ok sl 64 hc.room q (by omega), List.getElem?_replicate, if_pos hq]
  have e : secAt (DS.new n).L (3 + 64 * sl + q / 64) = (sec0, none) := by
   unfold secAt DS.new
   simp only [List.getD, List.getElem?_replicate]
   rw [if_pos (by omega)]
   rfl
  rw [e]
  show some ((List.replicate 64 (0 : UInt8)).getD (q % 64) 0) = _
  have e2 : q % 64 < 64 := Nat.mod_lt _ (by decide)
  rw [List.getD, List.getElem?_replicate, if_pos e2]
  rfl
 ·rw [List.getElem?_eq_none (by omega), List.getElem?_eq_none (by simp; omega)]
theorem dirty_new (n : Nat) : dirtyL (DS.new n).L = [] := by
 refine List.eq_nil_iff_forall_not_mem.2 fun i hi => ?_
 obtain ⟨h1, h2⟩ := (dirtyL_mem _ _).1 hi
 unfold DS.new at h1 h2
 simp only [List.length_replicate] at h1
 unfold secAt at h2
 simp [List.getD, List.getElem?_replicate, h1] at h2
end Go.Proofs.Ytopilgedcnbdaaa