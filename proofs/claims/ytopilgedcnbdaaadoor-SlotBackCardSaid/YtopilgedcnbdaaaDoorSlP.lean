/- Slots in plain words, behind SlM: a write, a read as a list of sectors that get a byte; what a copy into a row comes to. No program is named here. -/
import Derived.Test.YtopilgedcnbdaaaDoorTz
import Derived.Test.YtopilgedcnbdaaaDoorSlM
namespace Go.Proofs.YtopilgedcnbdaaaDoor
set_option maxRecDepth 1000000
set_option maxHeartbeats 8000000
open Go.RowKit
set_option linter.unusedVariables false
set_option linter.unusedSimpArgs false
def goL (sl p : Nat) (b : List UInt8) : List Nat → DS → Int × DS
 | [], s => (0, s)
 | j :: r, s => if (stepW sl p b j s).1 ≠ 0 then stepW sl p b j s else goL sl p b r (stepW sl p b j s).2
theorem goW_list (sl p : Nat) (b : List UInt8) : ∀ (n i : Nat) (s : DS), goW sl p b n i s = goL sl p b (List.range' i n) s
 | 0, _, _ => rfl
 | n + 1, i, s => by
  unfold goW
  rw [List.range'_succ]
  unfold goL
  rw [goW_list sl p b n (i + 1)]
theorem goL_filter (sl p : Nat) (b : List UInt8) : ∀ (l : List Nat) (s : DS), goL sl p b (l.filter fun j => hitS j p b.length) s = goL sl p b l s
 | [], _ => rfl
 | j :: r, s => by
  cases h : hitS j p b.length with
  | true =>
   rw [List.filter_cons_of_pos (by simpa using h)]
   unfold goL
   rw [goL_filter sl p b r]
  | false =>
   rw [List.filter_cons_of_neg (by simpa using h)]
   conv => rhs; unfold goL
   rw [stepW_skip h, if_neg (by simp)]
   exact goL_filter sl p b r s
theorem goL_snoc (sl p : Nat) (b : List UInt8) (j : Nat) : ∀ (l : List Nat) (s : DS), goL sl p b (l ++ [j]) s = if (goL sl p b l s).1 ≠ 0 then goL sl p b l s else stepW sl p b j (goL sl p b l s).2
 | [], s => by
  show (if (stepW sl p b j s).1 ≠ 0 then stepW sl p b j s else (0, (stepW sl p b j s).2)) = _
  have e : goL sl p b [] s = (0, s) := rfl
  rw [e, if_neg (c := ((0 : Int), s).1 ≠ 0) (by simp)]
  split
  ·rfl
  ·rename_i h
   have h' : (stepW sl p b j s).1 = 0 := Classical.not_not.1 h
   rw [← h']
 | i :: r, s => by
  rw [List.cons_append]
  unfold goL
  by_cases h : (stepW sl p b i s).1 ≠ 0
  ·rw [if_pos h, if_pos h, if_pos h]
  ·rw [if_neg h, if_neg h]
   exact goL_snoc sl p b j r _
theorem goL_part (sl p : Nat) (b : List UInt8) (r : List Nat) : ∀ (l : List Nat) (s : DS), (goL sl p b l s).1 ≠ 0 → goL sl p b (l ++ r) s = goL sl p b l s
 | [], s, h => absurd rfl h
 | i :: l, s, h => by
  rw [List.cons_append]
  unfold goL at h ⊢
  by_cases g : (stepW sl p b i s).1 ≠ 0
  ·rw [if_pos g, if_pos g]
  ·rw [if_neg g] at h ⊢
   rw [if_neg g]
   exact goL_part sl p b r l _ h
def hits (p n m : Nat) : List Nat := (List.range m).filter fun j => hitS j p n
theorem hitS_iff {i p n : Nat} : hitS i p n = true ↔ 0 < n ∧ p < 64 * i + 64 ∧ 64 * i < p + n := by unfold hitS; simp
theorem hits_zero (p n : Nat) : hits p n 0 = [] := rfl
theorem hits_hit {p n m : Nat} (h : hitS m p n = true) : hits p n (m + 1) = hits p n m ++ [m] := by unfold hits; rw [List.range_succ, List.filter_append]; simp [h]
theorem hits_miss {p n m : Nat} (h : hitS m p n = false) : hits p n (m + 1) = hits p n m := by unfold hits; rw [List.range_succ, List.filter_append]; simp [h]
theorem hits_first {p n : Nat} : ∀ m, 64 * m ≤ p → hits p n m = []
 | 0, _ => rfl
 | m + 1, h => by
  rw [hits_miss, hits_first m (by omega)]
  cases e : hitS m p n with
  | false => rfl
  | true => have := hitS_iff.1 e; omega
theorem hits_rest {p n j : Nat} (h : n = 0 ∨ p + n ≤ 64 * j) : ∀ k, hits p n (j + k) = hits p n j
 | 0 => rfl
 | k + 1 => by
  rw [← Nat.add_assoc, hits_miss, hits_rest h k]
  cases e : hitS (j + k) p n with
  | false => rfl
  | true => have := hitS_iff.1 e; omega
theorem hits_part (p n m : Nat) : ∀ k, ∃ r, hits p n (m + k) = hits p n m ++ r
 | 0 => ⟨[], by simp⟩
 | k + 1 => by
  obtain ⟨r, hr⟩ := hits_part p n m k
  rw [← Nat.add_assoc]
  cases e : hitS (m + k) p n with
  | true => exact ⟨r ++ [m + k], by rw [hits_hit e, hr, List.append_assoc]⟩
  | false => exact ⟨r, by rw [hits_miss e, hr]⟩
theorem hits_mem {p n m j : Nat} : j ∈ hits p n m ↔ j < m ∧ hitS j p n = true := by unfold hits; simp
theorem writeS_hits {sl at_ : Int} {b : List UInt8} {s : DS} (h0 : refS sl at_ b.length = 0) (hu : s.up = true) : writeS sl at_ b s = goL sl.toNat at_.toNat b (hits at_.toNat b.length 64) s := by
 unfold writeS hits
 rw [if_neg (by rw [h0]; simp), if_neg (by rw [hu]; decide), goL_filter, goW_list, List.range_eq_range']
theorem overS_get {s b : List UInt8} {j p k : Nat} (hk : k < s.length) : (overS s j p b)[k]? = some (if p ≤ 64 * j + k ∧ 64 * j + k < p + b.length then b.getD (64 * j + k - p) 0 else s.getD k 0) := by unfold overS; simp [hk]
theorem overS_cut {s b : List UInt8} {j p f x : Nat} (hs : s.length = 64) (hh : hitS j p b.length = true) (hf : 64 * j + f = p + x) (h0 : f = 0 ∨ x = 0) :
  overS s j p b = s.take f ++ (b.drop x).take (64 - f) ++ s.drop (f + min (64 - f) (b.length - x)) := by
 obtain ⟨h1, h2, h3⟩ := hitS_iff.1 hh
 have hf64 : f < 64 := by omega
 have e4 : (s.take f).length = f := by simp; omega
 have e5 : ((b.drop x).take (64 - f)).length = min (64 - f) (b.length - x) := by simp
 refine List.ext_getElem? fun k => ?_
 by_cases g1 : k < 64
 ·rw [overS_get (by omega)]
  by_cases c1 : k < f
  ·rw [if_neg (by omega), List.append_assoc, List.getElem?_append_left (by omega), List.getElem?_take, if_pos c1, List.getElem?_eq_getElem (by omega)]
   simp [List.getD, hs, g1]
  ·by_cases c2 : k < f + min (64 - f) (b.length - x)
   ·have e3 : x + (k - f) < b.length := by omega
    rw [if_pos (by omega), List.getElem?_append_left (by rw [List.length_append, e4, e5]; exact c2), List.getElem?_append_right (by omega), e4, List.getElem?_take, if_pos (by omega), List.getElem?_drop, show 64 * j + k - p = x + (k - f) from by omega, List.getElem?_eq_getElem e3]
    simp [List.getD, e3]
   ·rw [if_neg (by omega), List.getElem?_append_right (by rw [List.length_append, e4, e5]; omega), List.length_append, e4, e5, List.getElem?_drop, show f + min (64 - f) (b.length - x) + (k - (f + min (64 - f) (b.length - x))) = k from by omega, List.getElem?_eq_getElem (by omega)]
    simp [List.getD, hs, g1]
 ·rw [List.getElem?_eq_none (by rw [overS_len]; omega), List.getElem?_eq_none]
  rw [List.length_append, List.length_append, e4, e5, List.length_drop]
  omega
def putB (bs : List UInt8) (j : Nat) (c : List UInt8) : List UInt8 := bs.take (64 * j) ++ c.take (bs.length - 64 * j) ++ bs.drop (64 * j + min 64 (bs.length - 64 * j))
theorem putB_len {bs c : List UInt8} {j : Nat} (hc : c.length = 64) (hj : 64 * j ≤ bs.length) : (putB bs j c).length = bs.length := by
 unfold putB
 simp [hc]
 omega
def rdL (sl : Nat) (s : DS) : List Nat → List UInt8 → List UInt8
 | [], bs => bs
 | j :: r, bs => rdL sl s r (putB bs j (Sec.now (secAt s.L (3 + 64 * sl + j))))
theorem rdL_snoc (sl : Nat) (s : DS) (j : Nat) : ∀ (l : List Nat) (bs : List UInt8), rdL sl s (l ++ [j]) bs = putB (rdL sl s l bs) j (Sec.now (secAt s.L (3 + 64 * sl + j)))
 | [], _ => rfl
 | i :: r, bs => rdL_snoc sl s j r _
theorem now_len {s : DS} (h : s.ok) {i : Nat} (hi : i < s.L.length) : (Sec.now (secAt s.L i)).length = 64 := by
 unfold Sec.now
 cases hc : (secAt s.L i).2 with
 | none => simp only [Option.getD_none]; exact h.secF hi
 | some c => simp only [Option.getD_some]; exact h.secC hi hc
theorem allS_len {s : DS} (h : s.ok) (sl : Nat) : ∀ k, 3 + 64 * sl + k ≤ s.L.length → (allS sl s k).length = 64 * k
 | 0, _ => rfl
 | k + 1, hk => by
  unfold allS
  rw [List.length_append, allS_len h sl k (by omega), now_len h (by omega)]
  omega
theorem rdL_len {s : DS} (h : s.ok) (sl n : Nat) : ∀ (l : List Nat) (bs : List UInt8), bs.length = n → (∀ j ∈ l, 64 * j ≤ n ∧ 3 + 64 * sl + j < s.L.length) → (rdL sl s l bs).length = n
 | [], bs, hb, _ => hb
 | j :: r, bs, hb, hl => by
  have hj := hl j (by simp)
  refine rdL_len h sl n r _ ?_ fun i hi => hl i (by simp [hi])
  rw [putB_len (now_len h hj.2) (by omega), hb]
theorem rdL_range {s : DS} (h : s.ok) (sl n : Nat) : ∀ m, (m = 0 ∨ 64 * (m - 1) < n) → 3 + 64 * sl + m ≤ s.L.length → rdL sl s (List.range m) (List.replicate n 0) = (allS sl s m ++ List.replicate n 0).take n
 | 0, _, _ => by simp [rdL, allS]
 | m + 1, hm, hl => by
  rw [List.range_succ, rdL_snoc, rdL_range h sl n m (by omega) (by omega)]
  have hA := allS_len h sl m (by omega)
  have hN := now_len h (i := 3 + 64 * sl + m) (by omega)
  have hS : allS sl s (m + 1) = allS sl s m ++ Sec.now (secAt s.L (3 + 64 * sl + m)) := rfl
  rw [hS]
  generalize Sec.now (secAt s.L (3 + 64 * sl + m)) = c at *
  generalize allS sl s m = a at *
  have hm2 : 64 * m < n := by omega
  unfold putB
  have e0 : ((a ++ List.replicate n 0).take n).length = n := by simp
  rw [e0]
  have e1 : (((a ++ List.replicate n 0).take n).take (64 * m)).length = 64 * m := by rw [List.length_take, e0]; omega
  have e2 : (c.take (n - 64 * m)).length = min (n - 64 * m) 64 := by rw [List.length_take, hN]
  refine List.ext_getElem? fun k => ?_
  by_cases hk : k < n
  ·rw [List.getElem?_take (l := a ++ c ++ List.replicate n 0), if_pos hk]
   by_cases c1 : k < 64 * m
   ·rw [List.append_assoc, List.getElem?_append_left (by omega), List.getElem?_take, if_pos c1, List.getElem?_take, if_pos hk, List.getElem?_append_left (by omega), List.append_assoc, List.getElem?_append_left (by omega)]
   ·by_cases c2 : k < 64 * m + 64
    ·rw [List.getElem?_append_left (by rw [List.length_append, e1, e2]; omega), List.getElem?_append_right (by omega), e1, List.getElem?_take, if_pos (by omega), List.getElem?_append_left (by rw [List.length_append]; omega), List.getElem?_append_right (by omega), hA]
    ·rw [List.getElem?_append_right (by rw [List.length_append, e1, e2]; omega), List.length_append, e1, e2, List.getElem?_drop, List.getElem?_take, if_pos (by omega), List.getElem?_append_right (by omega), List.getElem?_append_right (by rw [List.length_append]; omega), List.getElem?_replicate, List.getElem?_replicate, if_pos (by omega), if_pos (by omega)]
  ·rw [List.getElem?_eq_none (by rw [List.length_append, List.length_append, e1, e2, List.length_drop, e0]; omega), List.getElem?_eq_none (by rw [List.length_take]; omega)]
theorem hits_range {n : Nat} : ∀ m, (m = 0 ∨ 64 * (m - 1) < n) → hits 0 n m = List.range m
 | 0, _ => rfl
 | m + 1, h => by
  rw [hits_hit (hitS_iff.2 ⟨by omega, by omega, by omega⟩), hits_range m (by omega), List.range_succ]
theorem hits_all {n m : Nat} (h1 : m = 0 ∨ 64 * (m - 1) < n) (h2 : n ≤ 64 * m) {k : Nat} (hk : m ≤ k) : hits 0 n k = List.range m := by
 obtain ⟨d, rfl⟩ : ∃ d, k = m + d := ⟨k - m, by omega⟩
 rw [hits_rest (.inr (by omega)), hits_range m h1]
theorem allS_part (sl : Nat) (s : DS) (m : Nat) : ∀ d, ∃ r, allS sl s (m + d) = allS sl s m ++ r
 | 0 => ⟨[], by simp⟩
 | d + 1 => by
  obtain ⟨r, hr⟩ := allS_part sl s m d
  exact ⟨r ++ Sec.now (secAt s.L (3 + 64 * sl + (m + d))), by rw [← Nat.add_assoc, allS, hr, List.append_assoc]⟩
theorem readS_hits {sl n : Int} {s : DS} (hok : s.ok) (h0 : refS sl 0 n = 0) (hu : s.up = true) (hl : ∀ j ∈ hits 0 n.toNat 64, 3 + 64 * sl.toNat + j < s.L.length) :
  readS sl n s = (rdL sl.toNat s (hits 0 n.toNat 64) (List.replicate n.toNat 0), 0) := by
 obtain ⟨g1, -, g2, g3, -⟩ := refS_ok h0
 obtain ⟨k, rfl⟩ : ∃ k : Nat, n = (k : Int) := ⟨n.toNat, by omega⟩
 rw [Int.toNat_natCast] at hl ⊢
 obtain ⟨m, hm1, hm2⟩ : ∃ m : Nat, (m = 0 ∨ 64 * (m - 1) < k) ∧ k ≤ 64 * m := ⟨(k + 63) / 64, by omega, by omega⟩
 have hm : m ≤ 64 := by omega
 rw [hits_all hm1 hm2 hm] at hl ⊢
 have hb : m = 0 ∨ 3 + 64 * sl.toNat + m ≤ s.L.length := by
  rcases Nat.eq_zero_or_pos m with h | h
  ·exact .inl h
  ·have := hl (m - 1) (by simp; omega)
   exact .inr (by omega)
 have hs : m ≤ slotN sl.toNat s := by unfold slotN; omega
 unfold readS
 rw [if_neg (by rw [h0]; simp), if_neg (by rw [hu]; decide), Int.toNat_natCast, if_neg (by omega)]
 obtain ⟨d, hd⟩ : ∃ d, slotN sl.toNat s = m + d := ⟨slotN sl.toNat s - m, by omega⟩
 obtain ⟨r, hr⟩ := allS_part sl.toNat s m d
 rw [hd, hr]
 rcases hb with rfl | hb
 ·obtain rfl : k = 0 := by omega
  rfl
 ·have hA := allS_len hok sl.toNat m hb
  rw [rdL_range hok sl.toNat k m hm1 hb, List.take_append_of_le_length (by omega), List.take_append_of_le_length (by omega)]
theorem readS_short {sl n : Int} {s : DS} (h0 : refS sl 0 n = 0) (hu : s.up = true) {j : Nat} (hj : j ∈ hits 0 n.toNat 64) (hl : s.L.length ≤ 3 + 64 * sl.toNat + j) : readS sl n s = ([], 61) := by
 obtain ⟨h1, h2⟩ := hits_mem.1 hj
 have h3 := hitS_iff.1 h2
 unfold readS
 rw [if_neg (by rw [h0]; simp), if_neg (by rw [hu]; decide), if_pos (by unfold slotN; omega)]
theorem read_at {s : DS} (hu : s.up = true) (i : Nat) : s.read (i : Int) = if i < s.L.length then (Sec.now (secAt s.L i), 0) else ([], 61) := by
 unfold DS.read
 rw [if_neg (by rw [hu]; decide)]
 by_cases h : i < s.L.length
 ·rw [if_neg (by simp [DS.has, h]), if_pos h, Int.toNat_natCast]
 ·rw [if_pos (by simp [DS.has, h]), if_neg h]
end Go.Proofs.YtopilgedcnbdaaaDoor