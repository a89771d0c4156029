/- Several texts in one (a claim has 60 files at most): DiskRows, SlQ, SlW, SlX. -/
import Derived.Test.YtopilgedcnbdaaaDoorTz
import Derived.Test.YtopilgedcnbdaaaDoorKitO
import Derived.Deep.AppendLies
import Derived.Deep.MidRow
import Derived.Test.YtopilgedcnbdaaaDoorSlP
import Derived.Test.YtopilgedcnbdaaaDoorQ0
import Derived.Test.YtopilgedcnbdaaaDoorDiskG
import Derived.Test.YtopilgedcnbdaaaDoorBytes
import Derived.Test.YtopilgedcnbdaaaDoorKit
namespace Go.Proofs.YtopilgedcnbdaaaDoor
set_option maxRecDepth 1000000
set_option maxHeartbeats 8000000
set_option linter.unusedVariables false
set_option linter.unusedSimpArgs false
section
open Go.RowKit
theorem rowsG_info : (Tryd.prog.info? 22).map (fun i => (i.zero, i.size, i.bytes)) = some (some (.slice none 0 0), 1, 24) := by kernel_rfl
def RowsG (w : World) (B : Nat) (v : Value) (rows : List (List UInt8)) (G : Nat → Prop) : Prop :=
 ∃ vs, w.ownsRow B 22 1 v rows.length vs ∧ (∀ b, v.ownBlock = some b → G b) ∧ (∀ k, G k → k < w.heap.size) ∧
  ∀ j, j < rows.length → ∃ A n c, vs[j]? = some (.slice A n c) ∧ Rd w w.heap.size A n (rows.getD j []) ∧ (0 < n → ∀ b o, A = some ⟨b, o, none⟩ → G b ∧ v.ownBlock ≠ some b) ∧ n ≤ c ∧ c ≤ 9223372036854775807
theorem RowsG.nil (w : World) (B : Nat) : RowsG w B (.slice none 0 0) [] (fun _ => False) := ⟨[], ⟨rfl, .inl ⟨rfl, rfl⟩⟩, fun _ h => (by cases h), fun _ h => h.elim, fun _ h => absurd h (Nat.not_lt_zero _)⟩
theorem own_kept {R : Nat → Prop} {w w' : World} {B : Nat} {T : TypeId} {v : Value} {n : Nat} {xs : List Value} (h : w.ownsRow B T 1 v n xs) (hk : Keep R w w') (hn : ∀ b, v.ownBlock = some b → ¬ R b) : w'.ownsRow B T 1 v n xs := by
 refine ⟨h.1, ?_⟩
 rcases h.2 with h | ⟨g, cap, cur, e, hg, hh, h⟩
 ·exact .inl h
 ·exact .inr ⟨g, cap, cur, e, hg, (hk.block g (heap_at_lt hh) (hn g (by rw [e]; rfl))).trans hh, h⟩
theorem RowsG.kept {R : Nat → Prop} {w w' : World} {B : Nat} {v : Value} {rows : List (List UInt8)} {G : Nat → Prop} (h : RowsG w B v rows G) (hk : Keep R w w') (hn : ∀ k, G k → ¬ R k) : RowsG w' B v rows G := by
 obtain ⟨vs, h1, h2, h3, h4⟩ := h
 refine ⟨vs, own_kept h1 hk (fun b e => hn b (h2 b e)), h2, fun k hg => Nat.lt_of_lt_of_le (h3 k hg) hk.size, fun j hj => ?_⟩
 obtain ⟨A, n, c, e, hr, hb, hc⟩ := h4 j hj
 exact ⟨A, n, c, e, hr.kept hk (fun h0 b o e => hn b (hb h0 b o e).1), hb, hc⟩
theorem RowsG.to {w w' : World} {B : Nat} {v : Value} {rows : List (List UInt8)} {G : Nat → Prop} (h : RowsG w B v rows G) (hb : Below w.heap.size w w') : RowsG w' B v rows G := h.kept (R := fun _ => False) (Keep.of_below hb) (fun _ _ h => h)
theorem RowsG.lt {w : World} {B : Nat} {v : Value} {rows : List (List UInt8)} {G : Nat → Prop} (h : RowsG w B v rows G) : ∀ k, G k → k < w.heap.size := by
 obtain ⟨vs, h1, h2, h3, h4⟩ := h
 exact h3
theorem RowsG.at_ {w : World} {B : Nat} {v : Value} {rows : List (List UInt8)} {G : Nat → Prop} (h : RowsG w B v rows G) {j : Nat} (hj : j < rows.length) :
  ∃ g cap A n c, v = .slice (some ⟨g, 0, none⟩) rows.length cap ∧ w.cell? ⟨g, j, none⟩ = some (.slice A n c) ∧ Rd w w.heap.size A n (rows.getD j []) ∧ (0 < n → ∀ b o, A = some ⟨b, o, none⟩ → G b) ∧ n ≤ c ∧ c ≤ 9223372036854775807 := by
 obtain ⟨vs, h1, h2, h3, h4⟩ := h
 obtain ⟨A, n, c, e, hr, hb, hc⟩ := h4 j hj
 obtain ⟨A0, c0, rfl⟩ := own_slice h1
 obtain ⟨g, rfl, _⟩ := own_head h1 (by omega)
 have hc' := h1.cells (g := g) rfl j (.slice A n c) e
 rw [Addr.add_mid] at hc'
 rw [Nat.zero_add] at hc'
 exact ⟨g, c0, A, n, c, rfl, hc', hr, fun h0 b o e => (hb h0 b o e).1, hc⟩
theorem RowsG.slice {w : World} {B : Nat} {v : Value} {rows : List (List UInt8)} {G : Nat → Prop} (h : RowsG w B v rows G) : ∃ A c, v = .slice A rows.length c := by
 obtain ⟨vs, h1, _⟩ := h
 exact own_slice h1
theorem wpList_pushG' {ops : Array Oper} {rest : List Oper} {o : Oper} {a : Act} {Q : Exit → Act → World → Prop} (hgd : o.guard = none) (s x : Operand)
  (ho : o.op = .call { callee := .builtin .append, args := #[s, x], argTypes := #[44, 44] }) {B n c : Nat} {A : Option Addr} {wr : World} {v : Value} {rows : List (List UInt8)} {row : List UInt8} {G : Nat → Prop} (hs : a.eval s = v)
  (hx : a.eval x = .slice (some ⟨wr.heap.size, 0, none⟩) 1 1) (hown : RowsG wr B v rows G) (hr : Rd wr wr.heap.size A n row) (hc : n ≤ c) (hc' : c ≤ 9223372036854775807) (hne : 0 < n → ∀ b o, A = some ⟨b, o, none⟩ → ¬ G b)
  (hB : B ≤ wr.heap.size) (hk : rows.length + 1 ≤ 1000)
  (h : ∀ v' w1, RowsG w1 B v' (rows ++ [row]) (fun k => G k ∨ (0 < n ∧ ∃ o, A = some ⟨k, o, none⟩) ∨ (wr.heap.size ≤ k ∧ k < w1.heap.size)) → Keep G wr w1 → wpList Tryd.prog ops Q rest (a.put o.dst v') w1) : wpList Tryd.prog ops Q (o :: rest) a (wr.alloc (.cells #[.slice A n c] 22)) := by
 obtain ⟨i0, hi, hz0, hz1, hz2⟩ := info_parts rowsG_info
 have hba : Below wr.heap.size wr (wr.alloc (.cells #[.slice A n c] 22)) := (Below.refl _ _).alloc (Nat.le_refl _) _
 obtain ⟨vs, h10, h2, h3, h4⟩ := hown
 have h1 := own_below h10 hba
 have hsz : (wr.alloc (.cells #[.slice A n c] 22)).heap.size = wr.heap.size + 1 := by simp
 refine wpList_plain hgd fun K hK => ?_
 refine wp_append_lies _ s x _ ho B 22 i0 (.slice none 0 0) 1 24 Tryd.underlying44 hi hz0 hz1 hz2 rfl (by decide) v rows.length _ hs h1 ⟨wr.heap.size, 0, none⟩ 1 1 [.slice A n c] hx rfl (cell_one_new _ _ _) ?_ (by decide) ?_ ?_ (by omega) _ rfl ?_
 ·intro u hu; simp at hu; subst hu; rfl
 ·unfold maxLen; omega
 ·omega
 ·intro g cap w1 hown' hgrow hg hg1
  have hkg : Keep (fun b => v.ownBlock = some b) (wr.alloc (.cells #[.slice A n c] 22)) w1 := ⟨hgrow.os, hgrow.tape, hgrow.output, hgrow.size, fun b hb hn => hgrow.block b hb (fun e => hn e.symm)⟩
  have hk0 : Keep (fun b => v.ownBlock = some b) wr w1 := (Keep.of_below hba).trans hkg
  have hlt : ∀ k, G k → k < w1.heap.size := fun k hg => Nat.lt_of_lt_of_le (h3 k hg) hk0.size
  have hown1 : ∀ b, (Value.slice (some ⟨g, 0, none⟩) (rows.length + 1) cap).ownBlock = some b → v.ownBlock = some b ∨ (wr.heap.size ≤ b ∧ b < w1.heap.size) := fun b e => by
   simp only [Value.ownBlock, Option.some.injEq] at e
   subst e
   exact hg.imp id (fun e => ⟨by omega, hg1⟩)
  have hvl : vs.length = rows.length := by simpa using h10.1
  refine hK _ _ (h _ w1 ⟨vs ++ [.slice A n c], by rw [List.length_append]; exact hown', fun b e => ?_, fun k hk => ?_, fun j hj => ?_⟩ (hk0.more (fun b e => h2 b e)))
  ·rcases hown1 b e with h | h
   ·exact .inl (h2 b h)
   ·exact .inr (.inr h)
  ·rcases hk with hk | ⟨h0, o', e⟩ | hk
   ·exact hlt k hk
   ·obtain ⟨b', o'', e', hb', _⟩ := hr.2 h0
    rw [e] at e'
    injection e' with e'; injection e' with e1 _
    have := hk0.size
    omega
   ·exact hk.2
  ·rw [List.length_append] at hj
   rcases Nat.lt_succ_iff_lt_or_eq.1 hj with hlt' | rfl
   ·obtain ⟨A1, n1, c1, e1, hr1, hb1, hcc⟩ := h4 j hlt'
    refine ⟨A1, n1, c1, by rw [List.getElem?_append_left (by omega)]; exact e1, ?_, fun h0 b o e => ⟨.inl (hb1 h0 b o e).1, fun e2 => ?_⟩, hcc⟩
    ·rw [show (rows ++ [row]).getD j [] = rows.getD j [] from by simp [List.getD, List.getElem?_append_left hlt']]
     exact hr1.kept hk0 (fun h0 b o e => (hb1 h0 b o e).2)
    ·rcases hown1 b e2 with h | h
     ·exact (hb1 h0 b o e).2 h
     ·have := h3 b (hb1 h0 b o e).1; omega
   ·refine ⟨A, n, c, by rw [← hvl]; simp, ?_, fun h0 b o e => ⟨.inr (.inl ⟨h0, o, e⟩), fun e2 => ?_⟩, hc, hc'⟩
    ·rw [show (rows ++ [row]).getD rows.length [] = row from by simp [List.getD]]
     exact hr.kept hk0 (fun h0 b o e hb => hne h0 b o e (h2 b hb))
    ·rcases hown1 b e2 with h | h
     ·exact hne h0 b o e (h2 b h)
     ·obtain ⟨b', o'', e', hb', _⟩ := hr.2 h0
      rw [e] at e'
      injection e' with e'; injection e' with e1 _
      omega
end
section
open Go.RowKit
theorem secAt_put {L : List Sec} {i j : Nat} (h : i < L.length) (s : Sec) : secAt (L.set i s) j = if i = j then s else secAt L j := by
 unfold secAt
 by_cases e : i = j
 ·subst e; simp [List.getD, h]
 ·simp [List.getD, e]
structure Calm (sl : Nat) (s : DS) : Prop where
 up : s.up = true
 left : s.left = 0
 ok : s.ok
 room : 3 + 64 * sl + 64 ≤ s.L.length
theorem overS_miss {s b : List UInt8} {j p : Nat} (hs : s.length = 64) (h : hitS j p b.length = false) : overS s j p b = s := by
 refine List.ext_getElem? fun k => ?_
 by_cases hk : k < s.length
 ·rw [overS_get hk, if_neg, List.getElem?_eq_getElem hk]
  ·simp [List.getD, hk]
  ·intro g
   have : hitS j p b.length = true := hitS_iff.2 (by omega)
   rw [h] at this; cases this
 ·rw [List.getElem?_eq_none (by rw [overS_len]; omega), List.getElem?_eq_none (by omega)]
theorem stepW_calm {sl p j : Nat} {b : List UInt8} {s : DS} (h : Calm sl s) (hj : j < 64) (hh : hitS j p b.length = true) : stepW sl p b j s = (0, s.put (3 + 64 * sl + j) (overS (Sec.now (secAt s.L (3 + 64 * sl + j))) j p b)) := by
 have hl : 3 + 64 * sl + j < s.L.length := by have := h.room; omega
 unfold stepW
 rw [if_pos hh, read_at h.up, if_pos hl, if_neg (by simp)]
 unfold DS.write
 rw [if_neg (by rw [h.up]; decide), if_neg (by simp [DS.has]; omega), if_neg (by rw [overS_len, now_len h.ok hl]; simp), if_neg (by rw [h.left]; decide), Int.toNat_natCast]
theorem Calm.put {sl i : Nat} {s : DS} (h : Calm sl s) {c : List UInt8} (hi : i < s.L.length) (hc : c.length = 64) : Calm sl (s.put i c) :=
 ⟨h.up, by show s.left - 1 = 0; rw [h.left], h.ok.put hi hc, by show _ ≤ (s.L.set _ _).length; rw [List.length_set]; exact h.room⟩
def secW (sl p m : Nat) (b : List UInt8) (s : DS) (i : Nat) : Sec :=
 if 3 + 64 * sl ≤ i ∧ i < 3 + 64 * sl + m ∧ hitS (i - (3 + 64 * sl)) p b.length = true then ((secAt s.L i).1, some (overS (Sec.now (secAt s.L i)) (i - (3 + 64 * sl)) p b)) else secAt s.L i
theorem goL_calm {sl p : Nat} {b : List UInt8} {s : DS} (h : Calm sl s) : ∀ m, m ≤ 64 → ∃ s', goL sl p b (hits p b.length m) s = (0, s') ∧ Calm sl s' ∧ s'.L.length = s.L.length ∧ ∀ i, secAt s'.L i = secW sl p m b s i
 | 0, _ => ⟨s, rfl, h, rfl, fun i => by unfold secW; rw [if_neg (by omega)]⟩
 | m + 1, hm => by
  obtain ⟨s', h1, h2, h3, h4⟩ := goL_calm (p := p) (b := b) h m (by omega)
  cases hh : hitS m p b.length with
  | false =>
   refine ⟨s', by rw [hits_miss hh, h1], h2, h3, fun i => ?_⟩
   rw [h4]
   unfold secW
   by_cases c : 3 + 64 * sl ≤ i ∧ i < 3 + 64 * sl + m ∧ hitS (i - (3 + 64 * sl)) p b.length = true
   ·rw [if_pos c, if_pos ⟨c.1, by omega, c.2.2⟩]
   ·rw [if_neg c, if_neg]
    rintro ⟨c1, c2, c3⟩
    by_cases e : i = 3 + 64 * sl + m
    ·subst e
     rw [Nat.add_sub_cancel_left, hh] at c3; cases c3
    ·exact c ⟨c1, by omega, c3⟩
  | true =>
   have hl : 3 + 64 * sl + m < s'.L.length := by have := h2.room; omega
   refine ⟨_, by rw [hits_hit hh, goL_snoc, h1, if_neg (by simp), stepW_calm h2 (by omega) hh], h2.put hl (by rw [overS_len, now_len h2.ok hl]), by show (s'.L.set _ _).length = _; rw [List.length_set, h3], fun i => ?_⟩
   show secAt (s'.L.set _ _) i = _
   rw [secAt_put hl]
   unfold secW
   by_cases e : 3 + 64 * sl + m = i
   ·subst e
    have h5 : secAt s'.L (3 + 64 * sl + m) = secAt s.L (3 + 64 * sl + m) := by rw [h4]; unfold secW; rw [if_neg (by omega)]
    rw [if_pos rfl, if_pos ⟨by omega, by omega, by rw [Nat.add_sub_cancel_left]; exact hh⟩, h5, Nat.add_sub_cancel_left]
   ·rw [if_neg e, h4]
    unfold secW
    by_cases c : 3 + 64 * sl ≤ i ∧ i < 3 + 64 * sl + m ∧ hitS (i - (3 + 64 * sl)) p b.length = true
    ·rw [if_pos c, if_pos ⟨c.1, by omega, c.2.2⟩]
    ·rw [if_neg c, if_neg]
     rintro ⟨c1, c2, c3⟩
     exact c ⟨c1, by omega, c3⟩
def setB (bs : List UInt8) (p : Nat) (b : List UInt8) : List UInt8 := bs.take p ++ b ++ bs.drop (p + b.length)
theorem setB_len {bs b : List UInt8} {p : Nat} (h : p + b.length ≤ bs.length) : (setB bs p b).length = bs.length := by unfold setB; simp; omega
theorem setB_get {bs b : List UInt8} {p q : Nat} (h : p + b.length ≤ bs.length) (hq : q < bs.length) : (setB bs p b)[q]? = some (if p ≤ q ∧ q < p + b.length then b.getD (q - p) 0 else bs.getD q 0) := by
 unfold setB
 have e0 : (bs.take p).length = p := by simp; omega
 by_cases c1 : q < p
 ·rw [if_neg (by omega), List.append_assoc, List.getElem?_append_left (by omega), List.getElem?_take, if_pos c1, List.getElem?_eq_getElem hq]
  simp [List.getD, hq]
 ·by_cases c2 : q < p + b.length
  ·have c3 : q - p < b.length := by omega
   rw [if_pos (by omega), List.getElem?_append_left (by simp; omega), List.getElem?_append_right (by omega), e0, List.getElem?_eq_getElem c3]
   simp [List.getD, c3]
  ·rw [if_neg (by omega), List.getElem?_append_right (by simp; omega), List.getElem?_drop, List.length_append, e0, show p + b.length + (q - (p + b.length)) = q from by omega, List.getElem?_eq_getElem hq]
   simp [List.getD, hq]
theorem allS_get {s : DS} (h : s.ok) (sl : Nat) : ∀ k, 3 + 64 * sl + k ≤ s.L.length → ∀ q, q < 64 * k → (allS sl s k)[q]? = some ((Sec.now (secAt s.L (3 + 64 * sl + q / 64))).getD (q % 64) 0)
 | 0, _, _, hq => absurd hq (by omega)
 | k + 1, hk, q, hq => by
  have hA := allS_len h sl k (by omega)
  unfold allS
  by_cases c : q < 64 * k
  ·rw [List.getElem?_append_left (by omega), allS_get h sl k (by omega) q c]
  ·have e : q / 64 = k := by omega
   have hN := now_len h (i := 3 + 64 * sl + k) (by omega)
   have hb : q - 64 * k < 64 := by omega
   rw [List.getElem?_append_right (by omega), hA, e, show q % 64 = q - 64 * k from by omega, List.getElem?_eq_getElem (by omega)]
   simp [List.getD, hN, hb]
theorem writeS_calm {sl p : Nat} {b : List UInt8} {s : DS} (h : Calm sl s) (hsl : sl = 0 ∨ sl = 1) (hp : p + b.length ≤ 4096) :
  ∃ s', writeS (sl : Int) (p : Int) b s = (0, s') ∧ Calm sl s' ∧ s'.L.length = s.L.length ∧ allS sl s' 64 = setB (allS sl s 64) p b ∧
   (∀ o, o ≠ sl → 3 + 64 * o + 64 ≤ s.L.length → allS o s' 64 = allS o s 64) ∧ ∀ i ∈ dirtyL s'.L, i ∈ dirtyL s.L ∨ 3 + 64 * sl ≤ i ∧ i < 3 + 64 * sl + 64 := by
 have h0 : refS (sl : Int) (p : Int) b.length = 0 := by
  unfold refS
  rw [if_neg (by omega), if_neg (by omega)]
 obtain ⟨s', h1, h2, h3, h4⟩ := goL_calm (p := p) (b := b) h 64 (Nat.le_refl _)
 have hlen := allS_len h.ok sl 64 h.room
 have hlen' := allS_len h2.ok sl 64 h2.room
 refine ⟨s', by rw [writeS_hits h0 h.up, Int.toNat_natCast, Int.toNat_natCast, h1], h2, h3, ?_, fun o ho hr => ?_, fun i hi => ?_⟩
 ·refine List.ext_getElem? fun q => ?_
  by_cases hq : q < 4096
  ·rw [allS_get h2.ok sl 64 h2.room q (by omega), setB_get (by omega) (by omega), h4]
   have hN := now_len h.ok (i := 3 + 64 * sl + q / 64) (by have := h.room; omega)
   have e1 : Sec.now (secW sl p 64 b s (3 + 64 * sl + q / 64)) = overS (Sec.now (secAt s.L (3 + 64 * sl + q / 64))) (q / 64) p b := by
    unfold secW
    rw [Nat.add_sub_cancel_left]
    by_cases c : 3 + 64 * sl ≤ 3 + 64 * sl + q / 64 ∧ 3 + 64 * sl + q / 64 < 3 + 64 * sl + 64 ∧ hitS (q / 64) p b.length = true
    ·rw [if_pos c]; rfl
    ·rw [if_neg c, overS_miss hN]
     cases e : hitS (q / 64) p b.length with
     | false => rfl
     | true => exact absurd ⟨by omega, by omega, e⟩ c
   rw [e1]
   have e2 : 64 * (q / 64) + q % 64 = q := by omega
   have e3 := allS_get h.ok sl 64 h.room q (by omega)
   have e4 : (allS sl s 64).getD q 0 = (Sec.now (secAt s.L (3 + 64 * sl + q / 64))).getD (q % 64) 0 := by rw [List.getD, e3]; rfl
   rw [e4]
   generalize Sec.now (secAt s.L (3 + 64 * sl + q / 64)) = c at *
   have e5 := overS_get (s := c) (b := b) (j := q / 64) (p := p) (k := q % 64) (by omega)
   rw [e2] at e5
   rw [List.getD, e5]
   rfl
  ·rw [List.getElem?_eq_none (by omega), List.getElem?_eq_none (by rw [setB_len (by omega)]; omega)]
 ·have g1 := allS_len h.ok o 64 hr
  have g2 := allS_len h2.ok o 64 (by omega)
  refine List.ext_getElem? fun q => ?_
  by_cases hq : q < 4096
  ·rw [allS_get h2.ok o 64 (by omega) q (by omega), allS_get h.ok o 64 hr q (by omega), h4]
   unfold secW
   rw [if_neg (by omega)]
  ·rw [List.getElem?_eq_none (by omega), List.getElem?_eq_none (by omega)]
 ·obtain ⟨g1, g2⟩ := (dirtyL_mem _ _).1 hi
  rw [h4] at g2
  unfold secW at g2
  split at g2
  ·rename_i c; exact .inr ⟨c.1, c.2.1⟩
  ·exact .inl ((dirtyL_mem _ _).2 ⟨by omega, g2⟩)
theorem readS_calm {sl n : Nat} {s : DS} (h : Calm sl s) (hsl : sl = 0 ∨ sl = 1) (hn : n ≤ 4096) : readS (sl : Int) (n : Int) s = ((allS sl s 64).take n, 0) := by
 have h0 : refS (sl : Int) 0 (n : Int) = 0 := by
  unfold refS
  rw [if_neg (by omega), if_neg (by omega)]
 have hs : slotN sl s = 64 := by have := h.room; unfold slotN; omega
 unfold readS
 rw [if_neg (by rw [h0]; simp), if_neg (by rw [h.up]; decide), Int.toNat_natCast, Int.toNat_natCast, hs, if_neg (by omega)]
theorem Calm.new {sl n : Nat} (h : 3 + 64 * sl + 64 ≤ n) (hn : n ≤ 1024) : Calm sl (DS.new n) := ⟨rfl, rfl, DS.ok.new hn, by simpa [DS.new] using h⟩
theorem allS_new {sl n : Nat} (h : 3 + 64 * sl + 64 ≤ n) (hn : n ≤ 1024) : allS sl (DS.new n) 64 = List.replicate 4096 0 := by
 have hc := Calm.new h hn
 have g := allS_len hc.ok sl 64 hc.room
 refine List.ext_getElem? fun q => ?_
 by_cases hq : q < 4096
 ·rw [allS_get hc.ok sl 64 hc.room q (by omega), List.getElem?_replicate, if_pos hq]
  have e : secAt (DS.new n).L (3 + 64 * sl + q / 64) = (sec0, none) := by
   unfold secAt DS.new
   simp only [List.getD, List.getElem?_replicate]
   rw [if_pos (by omega)]
   rfl
  rw [e]
  show some ((List.replicate 64 (0 : UInt8)).getD (q % 64) 0) = _
  have e2 : q % 64 < 64 := Nat.mod_lt _ (by decide)
  rw [List.getD, List.getElem?_replicate, if_pos e2]
  rfl
 ·rw [List.getElem?_eq_none (by omega), List.getElem?_eq_none (by simp; omega)]
theorem dirty_new (n : Nat) : dirtyL (DS.new n).L = [] := by
 refine List.eq_nil_iff_forall_not_mem.2 fun i hi => ?_
 obtain ⟨h1, h2⟩ := (dirtyL_mem _ _).1 hi
 unfold DS.new at h1 h2
 simp only [List.length_replicate] at h1
 unfold secAt at h2
 simp [List.getD, List.getElem?_replicate, h1] at h2
end
section
open Go.RowKit Go.Shelf
theorem sEmpty (w : World) : Calls Tryd.prog 10 #[] w fun e w' => ∃ d, e = .returned (.tuple #[.pointer (some ⟨d, 0, none⟩), .bool true]) ∧ ∃ F, DkAt w' d F (DS.new 323) ∧ (∀ k, F k → w.heap.size ≤ k) ∧ Below w.heap.size w w' := by
 go_enter Tryd.func10, Tryd.ntmps10
 go_wp2_with fail
 refine (dNew 323 w (by decide) (by decide)).mono ?_
 rintro e w1 ⟨d, rfl, F, hd, hf, hb⟩
 have HD := qH hd
 have HF := qH hf
 have HB := qH hb
 clear hd hf hb
 go_wp2_with fail
 refine bodyPost_ret (res_twoS rfl _ _ _ _ rfl rfl) rfl ?_
 exact ⟨d, rfl, F, HD.out, HF.out, HB.out⟩
theorem wpList_makeS {P : Program} {T U : TypeId} (L : U8 P T U) {w : World} {ops : Array Oper} {rest : List Oper} {o : Oper} {a : Act} {Q : Exit → Act → World → Prop}
  (hg : o.guard = none) (l c : Operand) (hop : o.op = Op.makeSlice T l c) {kl kc : IntKind} {I C : Int} (n : Nat) (hl : a.eval l = .int kl I) (hc : a.eval c = .int kc C) (hI : I = (n : Int)) (hC : C = (n : Int)) (hn : n ≤ 281474976710656)
  (hK : ∀ w1, w1.heap[w.heap.size]? = some (.cells ((List.replicate n (0 : UInt8)).map bval).toArray U (0, 0)) → Below w.heap.size w w1 → wpList P ops Q rest (a.put o.dst (.slice (some ⟨w.heap.size, 0, none⟩) n n)) w1) :
  wpList P ops Q (o :: rest) a w :=
 wpList_makeB L hg l c hop n hl hc hI hC hn (Below.refl _ _) (Nat.le_refl _) fun w1 hown hb _ => by
  obtain ⟨cur, -, hcur, hlen, htake, -⟩ := own_cur hown
  rw [List.take_of_length_le (by omega)] at htake
  exact hK w1 (by rw [hcur, htake]) hb
theorem run_makeS {P : Program} {T U : TypeId} (L : U8 P T U) (w : World) (n : Nat) (hn : n ≤ 281474976710656) :
  ∃ w1, (Instr.makeSlice T (.int .i64 (n : Int)) (.int .i64 (n : Int))).run P w = .ok (.slice (some ⟨w.heap.size, 0, none⟩) n n) w1 ∧ w1.heap[w.heap.size]? = some (.cells ((List.replicate n (0 : UInt8)).map bval).toArray U (0, 0)) ∧ Below w.heap.size w w1 := by
 obtain ⟨i0, hi, hz0, hz1, hz2⟩ := info_parts L.info
 obtain ⟨w1, hrun, hown, hgr⟩ := run_make_full (P := P) w w.heap.size T U i0 (.int .u8 0) 1 L.ul hi hz0 hz1 .i64 .i64 n (by rw [hz2]; omega) (by unfold maxLen; omega) (Nat.le_refl _)
 have e : (madeCells (Value.int .u8 0).cells (n * 1)).toList = (List.replicate n (0 : UInt8)).map bval := by
  rw [Nat.mul_one, List.map_replicate]
  exact toList_madeCells_one _ _
 rw [e] at hown
 obtain ⟨cur, -, hcur, hlen, htake, -⟩ := own_cur hown
 rw [List.take_of_length_le (by omega)] at htake
 exact ⟨w1, hrun, by rw [hcur, htake], (Below.refl _ _).grown hgr (Nat.le_refl _) (fun k hk => by cases hk)⟩
theorem slice_at4 {P : Program} {T U : TypeId} (L : U8 P T U) (g : Nat) {n l : Nat} (h2 : l ≤ n) : ∃ A' c', (∀ (k : IntKind) (w : World), (Instr.slice T (.slice (some ⟨g, 0, none⟩) n n) (some (.int k (l : Int))) none none).run P w = .ok (.slice A' (n - l) c') w) ∧ (l < n → A' = some ⟨g, l, none⟩) := by
 by_cases h : l < n
 ·exact ⟨_, _, fun k w => slice_blk L g (n := n) (c := n) (l := l) h2 (.inl h) (Nat.le_refl _) k w, fun _ => rfl⟩
 ·obtain ⟨A', c', h1, -⟩ := slice_lS L (some ⟨g, 0, none⟩) (n := n) (c := n) (l := l) h2 (Nat.le_refl _)
  exact ⟨A', c', h1, fun h' => absurd h' h⟩
theorem splice_set {bs b : List UInt8} {p : Nat} : splice (bs.map bval) p (b.map bval) = (setB bs p b).map bval := by
 unfold splice setB
 rw [List.length_map]
 simp only [List.map_append, List.map_take, List.map_drop, List.append_assoc]
theorem own_blockGe {w : World} {B : Nat} {T : TypeId} {v : Value} {n : Nat} {xs : List Value} (h : w.ownsRow B T 1 v n xs) {b : Nat} (e : v.ownBlock = some b) : B ≤ b := by
 rcases h.2 with ⟨h, _⟩ | ⟨g, cap, cur, hv, hg, _⟩
 ·rw [h] at e; cases e
 ·rw [hv] at e
  simp [Value.ownBlock] at e
  omega
theorem rd_all {w : World} {B n : Nat} {A : Option Addr} {b : List UInt8} (h : Rd w B A n b) (hp : 0 < (b.map bval).length) : ∃ ad, A = some ad ∧ ∀ j v, (b.map bval)[j]? = some v → w.cell? (ad.add j) = some v := by
 have e : b.take n = b := List.take_of_length_le (by rw [h.1]; exact Nat.le_refl _)
 have := rd_take (m := n) h (by rw [e]; exact hp)
 rwa [e] at this
end
section
open Go.RowKit Go.Shelf
def abcB : List UInt8 := [97, 98, 99]
def row66 : List UInt8 := List.replicate 62 0 ++ abcB ++ [0]
def s1D : DS := (writeS 0 62 abcB (DS.new 323)).2
theorem aw_w : writeS 0 62 abcB (DS.new 323) = (0, s1D) := by kernel_rfl
theorem aw_d : dirtyL s1D.L = [3, 4] := by kernel_rfl
theorem aw_r : readS 0 66 s1D = (row66, 0) := by kernel_rfl
theorem aw_l : s1D.L.length = 323 := by kernel_rfl
theorem aw_u : s1D.up = true := by kernel_rfl
theorem rd_topS {w : World} (bs : List UInt8) (vs : List Value) (T : TypeId) (fr : Nat × Nat) (h : bs.map bval = vs) : Rd (w.alloc (.cells vs.toArray T fr)) (w.alloc (.cells vs.toArray T fr)).heap.size (some ⟨w.heap.size, 0, none⟩) vs.length bs := by
 subst h
 refine ⟨by simp, fun hn => ⟨w.heap.size, 0, rfl, by simp, fun j hj => ?_⟩⟩
 have hl : j < bs.length := by simpa using hj
 rw [World.cell?_alloc_mark, nth_of_lt hl]
 simp [hl, bval]
theorem wCat3 (A A' A'' : Option Addr) (n m l c d e : Nat) (xs ys zs : List UInt8) (w : World) (ha : Rd w w.heap.size A n xs) (hb : Rd w w.heap.size A' m ys) (hc : Rd w w.heap.size A'' l zs) (hn : n + m + l ≤ 140737488355328) :
  Calls Tryd.prog 18 #[.slice (some ⟨w.heap.size, 0, none⟩) 3 3] (w.alloc (.cells #[.slice A n c, .slice A' m d, .slice A'' l e] 22)) fun e w' => RetB 5 w (xs ++ ys ++ zs) e w' := by
 have S := RdS.lit (w := w) [.slice A n c, .slice A' m d, .slice A'' l e] 22 [xs, ys, zs] rfl (fun j hj => by
  rcases j with _ | _ | _ | j
  ·exact ⟨_, _, _, rfl, ha⟩
  ·exact ⟨_, _, _, rfl, hb⟩
  ·exact ⟨_, _, _, rfl, hc⟩
  ·simp at hj; omega)
 have hl := ha.1
 have hl' := hb.1
 have hl2 := hc.1
 exact (wCat _ 3 3 [xs, ys, zs] (w.alloc (.cells #[.slice A n c, .slice A' m d, .slice A'' l e] 22)) (by simpa using S) (by decide) (by simp; omega)).mono fun e w' h => (h.from ((Below.refl _ _).alloc (Nat.le_refl _) _)).is (by simp)
theorem slWriteRef (d : Nat) (D : Nat → Prop) (s : DS) (sl a : Int) (A : Option Addr) (n c : Nat) (w : World) (h : DkAt w d D s) (hl : 0 < s.L.length) (ha : a ≤ 9223372036854775807) (hne : refP sl a (n : Int) s ≠ 0) :
  Calls Tryd.prog 8 #[.pointer (some ⟨d, 0, none⟩), .int .i64 sl, .int .i64 a, .slice A n c] w fun e w' => e = .returned (.int .i64 (refP sl a (n : Int) s)) ∧ Below w.heap.size w w' := by
 obtain ⟨hb0, hsz, k0, k1, k2⟩ := wrW_is w d A n c
 have HB := qH hb0
 have BX : Hid (Boxed (wrW w d A n c) (w.heap.size + 1 + 1) 36 (.int .i64 0)) := k2
 have HREF := qH (slRefusal d D s sl a n _ (h.to HB.out) hl ha)
 have bc := BX.out.cell
 have bf := BX.out.frozen
 clear hb0 hsz k2 h hl
 generalize refP sl a (n : Int) s = ev at *
 go_enter Tryd.func8, Tryd.ntmps8
 go_wp2_with fail
 refine (HREF.out).mono ?_
 rintro e w' ⟨rfl, rfl⟩
 generalize wrW w d A n c = w3 at *
 go_wp2_with fail
 refine bodyPost_ret (res_errnoS rfl _ _ (w.heap.size + 1 + 1) (.int .i64 ev) rfl (World.cell?_setCell_same' _ _ _ (by rw [bc]; rfl))) rfl ?_
 exact ⟨rfl, HB.out.setCell (p := ⟨w.heap.size + 1 + 1, 0, none⟩) (by show w.heap.size ≤ w.heap.size + 1 + 1; omega) _⟩
theorem sAwake (w : World) : Calls Tryd.prog 9 #[] w fun e w' => e = .returned (.bool true) ∧ Below w.heap.size w w' := by
 have kc := fun (w : World) (C : Array Value) (n c : Nat) => Lib.run_convert_bytes_const (P := Tryd.prog) w 22 5 C n c Tryd.underlying22 Tryd.underlying5
 go_enter Tryd.func9, Tryd.ntmps9
 go_wp2_with fail
 refine (sEmpty w).mono ?_
 rintro e w1 ⟨d, rfl, F, hd, hf, hb⟩
 have HD := qH hd
 have HF := qH hf
 have B1 := qH hb
 clear hd hf hb
 have b2 : Below w1.heap.size w1 (w1.alloc (.cells #[.int .u8 97, .int .u8 98, .int .u8 99] 5 (3, 4))) := (Below.refl _ _).alloc (Nat.le_refl _) _
 have RT : Hid (Rd (w1.alloc (.cells #[.int .u8 97, .int .u8 98, .int .u8 99] 5 (3, 4))) (w1.alloc (.cells #[.int .u8 97, .int .u8 98, .int .u8 99] 5 (3, 4))).heap.size (some ⟨w1.heap.size, 0, none⟩) 3 abcB) :=
  rd_topS abcB [.int .u8 97, .int .u8 98, .int .u8 99] 5 (3, 4) rfl
 have HLN : Hid (0 < (DS.new 323).L.length) := by show _ < _; simp [DS.new]
 have HLT := qH HD.out.lt
 have HWR := qH (slWrite d F (DS.new 323) 0 62 (some ⟨w1.heap.size, 0, none⟩) 3 3 abcB _ (HD.out.to b2) HLN.out (by decide) RT.out (fun _ bb o e hf => by cases e; have := HLT.out _ hf; omega) (by decide) (by decide))
 rw [aw_w] at HWR
 have B2 := qH (B1.out.trans (b2.mono B1.out.size))
 have HFW : Hid (∀ k, F k → w.heap.size ≤ k) := HF.out
 clear b2 RT
 go_wp2_with fail
 refine (HWR.out).mono ?_
 rintro e w3 ⟨rfl, hd, hk⟩
 have D3 := qH hd
 have B3 := qH (Keep.below B2.out hk B2.out.size HFW.out)
 clear hd hk HWR HD B1 B2
 go_wp2_with fail
 refine (dDirty d F s1D w3 D3.out).mono ?_
 rw [aw_d]
 rintro e w4 ⟨A4, c4, rfl, hown, hb⟩
 have RK := qH (RdK.of_own hown)
 have D4 := qH (D3.out.to hb)
 have B4 := qH (B3.out.trans (hb.mono B3.out.size))
 clear hown hb D3 B3
 have HL1 : Hid (0 < s1D.L.length) := by show _ < _; rw [aw_l]; decide
 go_wp2_with fail
 refine (slRead d F s1D 0 66 w4 D4.out HL1.out).mono ?_
 rw [aw_r]
 rintro e w5 ⟨A5, m5, c5, rfl, hrd, hmc, hc, hb⟩
 have R5 := qH hrd
 have RK5 := qH (RK.out.to hb)
 have D5 := qH (D4.out.to hb)
 have B5 := qH (B4.out.trans (hb.mono B4.out.size))
 clear hrd hmc hc hb D4 B4 RK
 obtain ⟨b6, o6, rfl, _, hc6⟩ := RK5.out.2 (by decide)
 have y0 : w5.cell? ⟨b6, o6, none⟩ = some (.int .i64 3) := hc6 0 (by decide)
 have y1 : w5.cell? ⟨b6, o6 + 1, none⟩ = some (.int .i64 4) := hc6 1 (by decide)
 clear hc6
 obtain ⟨w6, hmk, hm6, hb6⟩ := run_makeS isU8 w5 62 (by decide)
 have hmk' : (Instr.makeSlice 22 (.int .i64 62) (.int .i64 62)).run Tryd.prog w5 = .ok (.slice (some ⟨w5.heap.size, 0, none⟩) 62 62) w6 := hmk
 have HM6 := qH hm6
 have HB6 := qH hb6
 have hmk2 := hmk'
 clear hmk hm6 hb6 hmk2
 have B6 := qH (B5.out.trans (HB6.out.mono B5.out.size))
 have D6 := qH (D5.out.to HB6.out)
 have R6 := qH (R5.out.to HB6.out)
 have RZ : Hid (Rd w6 w6.heap.size (some ⟨w5.heap.size, 0, none⟩) 62 (List.replicate 62 0)) := rd_cur HM6.out (List.take_of_length_le (by simp)) (by simp)
 go_wp2_with fail
 clear hmk' y0 y1 D5 B5 R5 HM6 HB6
 generalize w5.heap.size = g5 at *
 obtain ⟨W7, hW7⟩ : ∃ X, w6.alloc (.cells #[.int .u8 97, .int .u8 98, .int .u8 99] 5 (3, 4)) = X := ⟨_, rfl⟩
 have b7 : Below w6.heap.size w6 W7 := by rw [← hW7]; exact (Below.refl _ _).alloc (Nat.le_refl _) _
 have z7 : W7.heap.size = w6.heap.size + 1 := by rw [← hW7]; simp
 have ra : Rd W7 W7.heap.size (some ⟨w6.heap.size, 0, none⟩) 3 abcB := by
  rw [← hW7]
  exact rd_topS abcB [.int .u8 97, .int .u8 98, .int .u8 99] 5 (3, 4) rfl
 rw [hW7]
 obtain ⟨W8, hW8⟩ : ∃ X, W7.alloc (.cells #[.int .u8 0] 5) = X := ⟨_, rfl⟩
 have b8 : Below W7.heap.size W7 W8 := by rw [← hW8]; exact (Below.refl _ _).alloc (Nat.le_refl _) _
 have z8 : W8.heap.size = w6.heap.size + 1 + 1 := by rw [← hW8]; simp [z7]
 have r0 : Rd W8 W8.heap.size (some ⟨W7.heap.size, 0, none⟩) 1 [0] := by
  rw [← hW8]
  exact rd_topS [0] [.int .u8 0] 5 (0, 0) rfl
 rw [hW8]
 rw [z7] at r0
 have b68 : Below w6.heap.size w6 W8 := b7.trans (b8.mono b7.size)
 have HCT := wCat3 (some ⟨g5, 0, none⟩) (some ⟨w6.heap.size, 0, none⟩) (some ⟨w6.heap.size + 1, 0, none⟩) 62 3 1 62 3 1 (List.replicate 62 0) abcB [0] W8 (RZ.out.to b68) (ra.to b8) r0 (by decide)
 have B8 := qH (B6.out.trans (b68.mono B6.out.size))
 have D8 := qH (D6.out.to b68)
 have R8 := qH (R6.out.to b68)
 rw [z8] at HCT
 clear b7 b8 b68 z7 z8 ra r0 hW7 hW8 RZ B6 D6 R6
 refine HCT.mono ?_
 clear HCT
 rintro e w9 ⟨A9, n9, c9, rfl, hown, hb⟩
 have R9 := qH (Rd.of_own hown)
 replace R8 := qH (R8.out.to hb)
 have B9 := qH (B8.out.trans (hb.mono B8.out.size))
 have D9 := qH (D8.out.to hb)
 clear hown hb B8 D8
 go_wp2_with fail
 refine (wSame A5 A9 m5 n9 c5 c9 w9.heap.size row66 _ w9 R8.out R9.out).mono ?_
 rintro e w' ⟨rfl, rfl⟩
 rw [decide_eq_true (show row66 = List.replicate 62 0 ++ abcB ++ [0] from rfl)]
 clear R8 R9
 have hr1 : refP 1 4095 ((2 : Nat) : Int) s1D = 4 := refP_full s1D (by omega) (by omega)
 have hr2 : refP 2 0 ((1 : Nat) : Int) s1D = 2 := refP_arg s1D (by omega)
 have hr3 : refP 0 (-1) ((1 : Nat) : Int) s1D = 2 := refP_arg s1D (by omega)
 have HR1 := qH hr1
 have HR2 := qH hr2
 have HR3 := qH hr3
 clear hr1 hr2 hr3
 have b10 : Below w9.heap.size w9 (w9.alloc (.cells #[.int .u8 97, .int .u8 98] 5 (2, 3))) := (Below.refl _ _).alloc (Nat.le_refl _) _
 have H10 := qH (slWriteRef d F s1D 1 4095 (some ⟨w9.heap.size, 0, none⟩) 2 2 _ (D9.out.to b10) HL1.out (by decide) (by rw [HR1.out]; decide))
 rw [HR1.out] at H10
 have B10 := qH (B9.out.trans (b10.mono B9.out.size))
 have D10 := qH (D9.out.to b10)
 clear b10
 go_wp2_with fail
 refine H10.out.mono ?_
 rintro e w11 ⟨rfl, hb⟩
 have B11 := qH (B10.out.trans (hb.mono B10.out.size))
 have D11 := qH (D10.out.to hb)
 clear hb H10 B10 D10 B9 D9
 have b12 : Below w11.heap.size w11 (w11.alloc (.cells #[.int .u8 97] 5 (1, 2))) := (Below.refl _ _).alloc (Nat.le_refl _) _
 have H12 := qH (slWriteRef d F s1D 2 0 (some ⟨w11.heap.size, 0, none⟩) 1 1 _ (D11.out.to b12) HL1.out (by decide) (by rw [HR2.out]; decide))
 rw [HR2.out] at H12
 have B12 := qH (B11.out.trans (b12.mono B11.out.size))
 have D12 := qH (D11.out.to b12)
 clear b12
 go_wp2_with fail
 refine H12.out.mono ?_
 rintro e w13 ⟨rfl, hb⟩
 have B13 := qH (B12.out.trans (hb.mono B12.out.size))
 have D13 := qH (D12.out.to hb)
 clear hb H12 B12 D12 B11 D11
 have b14 : Below w13.heap.size w13 (w13.alloc (.cells #[.int .u8 97] 5 (1, 2))) := (Below.refl _ _).alloc (Nat.le_refl _) _
 have H14 := qH (slWriteRef d F s1D 0 (-1) (some ⟨w13.heap.size, 0, none⟩) 1 1 _ (D13.out.to b14) HL1.out (by decide) (by rw [HR3.out]; decide))
 rw [HR3.out] at H14
 have B14 := qH (B13.out.trans (b14.mono B13.out.size))
 clear b14
 go_wp2_with fail
 refine H14.out.mono ?_
 rintro e w15 ⟨rfl, hb⟩
 have B15 := qH (B14.out.trans (hb.mono B14.out.size))
 clear hb H14 B14 D13 B13
 go_wp2_with fail
 go_ret
 exact ⟨rfl, B15.out⟩
end
end Go.Proofs.YtopilgedcnbdaaaDoor