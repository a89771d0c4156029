/- Schedules in plain words: which windows may be, how many ticks they have together, whose each tick is, in which window a tick stands. No program is named here. -/
import Derived.Test.YtecedmjhhaabgaaRegM
namespace Go.Proofs.Ytecedmjhhaabgaa
set_option linter.unusedVariables false

/-- A window is a pair of numbers: its Len, its Part. -/
def okW (x : Reg) : Bool := decide (1 ≤ x.1 ∧ x.1 ≤ 64 ∧ 0 ≤ x.2 ∧ x.2 ≤ 6)
def sumW (l : List Reg) : Int := (l.map (·.1)).sum
def mayW (l : List Reg) : Bool := decide (l.length ≠ 0 ∧ l.length ≤ 12) && (l.all okW && decide (sumW l ≤ 64))
/-- Whose each tick is. -/
def partsW (l : List Reg) : List Int := l.flatMap fun x => List.replicate x.1.toNat x.2
def wholeW (l : List Reg) : List Int := if mayW l = true then partsW l else []
def frameW (l : List Reg) : Int := if mayW l = true then sumW l else 0
/-- Tick t stands in window i. -/
def Stands (l : List Reg) (t : Int) (i : Nat) : Prop := i < l.length ∧ sumW (l.take i) ≤ t ∧ t < sumW (l.take (i + 1))

theorem okW_iff {x : Reg} : okW x = true ↔ 1 ≤ x.1 ∧ x.1 ≤ 64 ∧ 0 ≤ x.2 ∧ x.2 ≤ 6 := decide_eq_true_iff
theorem mayW_iff {l : List Reg} : mayW l = true ↔ l.length ≠ 0 ∧ l.length ≤ 12 ∧ (∀ x ∈ l, okW x = true) ∧ sumW l ≤ 64 := by
  simp only [mayW, Bool.and_eq_true, decide_eq_true_eq, List.all_eq_true]
  constructor
  · rintro ⟨⟨h1, h2⟩, h3, h4⟩; exact ⟨h1, h2, h3, h4⟩
  · rintro ⟨h1, h2, h3, h4⟩; exact ⟨⟨h1, h2⟩, h3, h4⟩
theorem wholeW_may {l : List Reg} (h : mayW l = true) : wholeW l = partsW l := if_pos h
theorem wholeW_not {l : List Reg} (h : mayW l = false) : wholeW l = [] := if_neg (by rw [h]; decide)
theorem frameW_may {l : List Reg} (h : mayW l = true) : frameW l = sumW l := if_pos h
theorem frameW_not {l : List Reg} (h : mayW l = false) : frameW l = 0 := if_neg (by rw [h]; decide)
theorem okW_at {l : List Reg} (h : ∀ x ∈ l, okW x = true) {k : Nat} (hk : k < l.length) : 1 ≤ (rat l k).1 ∧ (rat l k).1 ≤ 64 ∧ 0 ≤ (rat l k).2 ∧ (rat l k).2 ≤ 6 := okW_iff.1 (h _ (rat_mem hk))

theorem sumW_nil : sumW [] = 0 := rfl
theorem sumW_cons (x : Reg) (l : List Reg) : sumW (x :: l) = x.1 + sumW l := by simp [sumW]
theorem sumW_append (l m : List Reg) : sumW (l ++ m) = sumW l + sumW m := by simp [sumW]
theorem take_rat {l : List Reg} {k : Nat} (h : k < l.length) : l.take (k + 1) = l.take k ++ [rat l k] := by
  rw [List.take_succ_eq_append_getElem h, rat_lt h]
theorem sumW_succ {l : List Reg} {k : Nat} (h : k < l.length) : sumW (l.take (k + 1)) = sumW (l.take k) + (rat l k).1 := by
  rw [take_rat h, sumW_append, sumW_cons, sumW_nil]; omega
theorem sumW_ge {l : List Reg} (h : ∀ x ∈ l, okW x = true) : (l.length : Int) ≤ sumW l ∧ sumW l ≤ 64 * (l.length : Int) := by
  induction l with
  | nil => simp [sumW_nil]
  | cons x l ih =>
    have h1 := ih fun y hy => h y (List.mem_cons_of_mem _ hy)
    have h2 := okW_iff.1 (h x (List.mem_cons_self ..))
    rw [sumW_cons, List.length_cons]
    push_cast
    omega
theorem sumW_take {l : List Reg} (h : ∀ x ∈ l, okW x = true) {k m : Nat} (hk : k ≤ m) : sumW (l.take k) ≤ sumW (l.take m) := by
  have e : l.take m = l.take k ++ (l.take m).drop k := by
    have := (List.take_append_drop k (l.take m)).symm
    rwa [List.take_take, Nat.min_eq_left hk] at this
  have := (sumW_ge (l := (l.take m).drop k) fun x hx => h x (List.mem_of_mem_take (List.mem_of_mem_drop hx))).1
  rw [e, sumW_append]
  omega
theorem sumW_take_le {l : List Reg} (h : ∀ x ∈ l, okW x = true) (k : Nat) : 0 ≤ sumW (l.take k) ∧ sumW (l.take k) ≤ sumW l := by
  constructor
  · have := sumW_take h (Nat.zero_le k); simpa [sumW_nil] using this
  · rcases Nat.le_total k l.length with g | g
    · have := sumW_take h g; rwa [List.take_length] at this
    · rw [List.take_of_length_le g]; exact Int.le_refl _
theorem may_ok {l : List Reg} (h : mayW l = true) : ∀ x ∈ l, okW x = true := (mayW_iff.1 h).2.2.1
theorem may_pos {l : List Reg} (h : mayW l = true) : 1 ≤ sumW l ∧ sumW l ≤ 64 ∧ 0 < l.length ∧ l.length ≤ 12 := by
  obtain ⟨h1, h2, h3, h4⟩ := mayW_iff.1 h
  have := (sumW_ge h3).1
  omega
theorem frameW_range (l : List Reg) : 0 ≤ frameW l ∧ frameW l ≤ 64 := by
  cases h : mayW l
  · rw [frameW_not h]; omega
  · rw [frameW_may h]; have := may_pos h; omega
theorem frameW_pos {l : List Reg} : 0 < frameW l ↔ mayW l = true := by
  cases h : mayW l
  · rw [frameW_not h]; simp
  · rw [frameW_may h]; have := may_pos h; simp; omega

theorem partsW_nil : partsW [] = [] := rfl
theorem partsW_append (l m : List Reg) : partsW (l ++ m) = partsW l ++ partsW m := by simp [partsW]
theorem partsW_one (x : Reg) : partsW [x] = List.replicate x.1.toNat x.2 := by simp [partsW]
theorem partsW_succ {l : List Reg} {k : Nat} (h : k < l.length) : partsW (l.take (k + 1)) = partsW (l.take k) ++ List.replicate (rat l k).1.toNat (rat l k).2 := by
  rw [take_rat h, partsW_append, partsW_one]
theorem partsW_len {l : List Reg} (h : ∀ x ∈ l, okW x = true) : ((partsW l).length : Int) = sumW l := by
  induction l with
  | nil => rfl
  | cons x l ih =>
    have h1 := ih fun y hy => h y (List.mem_cons_of_mem _ hy)
    have h2 := okW_iff.1 (h x (List.mem_cons_self ..))
    rw [sumW_cons, show x :: l = [x] ++ l from rfl, partsW_append, partsW_one, List.length_append, List.length_replicate]
    push_cast
    omega
theorem wholeW_len (l : List Reg) : ((wholeW l).length : Int) = frameW l := by
  cases h : mayW l
  · rw [frameW_not h, wholeW_not h]; rfl
  · rw [frameW_may h, wholeW_may h, partsW_len (may_ok h)]
theorem wholeW_small (l : List Reg) : (wholeW l).length ≤ 64 := by
  have := wholeW_len l; have := frameW_range l; omega

theorem stands_unique {l : List Reg} (h : ∀ x ∈ l, okW x = true) {t : Int} {i j : Nat} (hi : Stands l t i) (hj : Stands l t j) : i = j := by
  obtain ⟨_, i1, i2⟩ := hi
  obtain ⟨_, j1, j2⟩ := hj
  rcases Nat.lt_trichotomy i j with g | g | g
  · have := sumW_take h (show i + 1 ≤ j from g); omega
  · exact g
  · have := sumW_take h (show j + 1 ≤ i from g); omega
theorem stands_below {l : List Reg} {t : Int} (h0 : 0 ≤ t) : ∀ n, n ≤ l.length → t < sumW (l.take n) → ∃ i, i < n ∧ Stands l t i
  | 0, _, h => by simp [sumW_nil] at h; omega
  | n + 1, hn, h => by
    by_cases hc : t < sumW (l.take n)
    · obtain ⟨i, h1, h2⟩ := stands_below h0 n (by omega) hc
      exact ⟨i, by omega, h2⟩
    · exact ⟨n, by omega, by omega, by omega, h⟩
theorem stands_exists {l : List Reg} {t : Int} (h0 : 0 ≤ t) (h : t < sumW l) : ∃ i, Stands l t i := by
  obtain ⟨i, _, hi⟩ := stands_below h0 l.length (Nat.le_refl _) (by rwa [List.take_length])
  exact ⟨i, hi⟩
/-- What At tells of window i at tick t. -/
def slotW (l : List Reg) (t : Int) (i : Nat) : Int × Int × Int × Int := ((i : Int), (rat l i).2, sumW (l.take i), sumW (l.take (i + 1)) - t)
open Classical in
/-- What At tells: the slot, the error. -/
noncomputable def atW (l : List Reg) (t : Int) : (Int × Int × Int × Int) × Int :=
  if h : mayW l = true ∧ ∃ i, 0 ≤ t ∧ Stands l t i then (slotW l t (Classical.choose h.2), 0) else ((0, 0, 0, 0), 90)
theorem atW_of {l : List Reg} {t : Int} {i : Nat} (hm : mayW l = true) (h0 : 0 ≤ t) (h : Stands l t i) : atW l t = (slotW l t i, 0) := by
  have hx : mayW l = true ∧ ∃ i, 0 ≤ t ∧ Stands l t i := ⟨hm, i, h0, h⟩
  unfold atW
  rw [dif_pos hx, stands_unique (may_ok hm) (Classical.choose_spec hx.2).2 h]
theorem atW_out {l : List Reg} {t : Int} (h : t < 0 ∨ frameW l ≤ t) : atW l t = ((0, 0, 0, 0), 90) := by
  unfold atW
  refine dif_neg ?_
  rintro ⟨hm, i, h0, h1, h2, h3⟩
  rw [frameW_may hm] at h
  have := (sumW_take_le (may_ok hm) (i + 1)).2
  omega
theorem at_cases (l : List Reg) (t : Int) : (t < 0 ∨ frameW l ≤ t) ∨ (0 ≤ t ∧ t < frameW l ∧ mayW l = true ∧ ∃ i, Stands l t i ∧ atW l t = (slotW l t i, 0)) := by
  by_cases h : t < 0 ∨ frameW l ≤ t
  · exact .inl h
  · have hm : mayW l = true := frameW_pos.1 (by omega)
    obtain ⟨i, hi⟩ := stands_exists (l := l) (t := t) (by omega) (by rw [frameW_may hm] at h; omega)
    exact .inr ⟨by omega, by omega, hm, i, hi, atW_of hm (by omega) hi⟩

/-- Whose tick t is: the window's part. -/
theorem parts_at {l : List Reg} (h : ∀ x ∈ l, okW x = true) {t i : Nat} (hs : Stands l (t : Int) i) : (partsW l)[t]? = some (rat l i).2 := by
  obtain ⟨hi, h1, h2⟩ := hs
  have e : partsW l = partsW (l.take (i + 1)) ++ partsW (l.drop (i + 1)) := by rw [← partsW_append, List.take_append_drop]
  have ok : ∀ k, ∀ x ∈ l.take k, okW x = true := fun k x hx => h x (List.mem_of_mem_take hx)
  have l1 := partsW_len (ok i)
  have l2 := partsW_len (ok (i + 1))
  rw [e, List.getElem?_append_left (by omega), partsW_succ hi, List.getElem?_append_right (by omega)]
  have := okW_at h hi
  have := sumW_succ hi
  rw [List.getElem?_replicate]
  rw [if_pos (by omega)]
theorem whole_at {l : List Reg} (hm : mayW l = true) {t i : Nat} (hs : Stands l (t : Int) i) : (wholeW l).getD t 0 = (rat l i).2 := by
  rw [wholeW_may hm, List.getD, parts_at (may_ok hm) hs]; rfl

/-- One tick on: the same window, or the next one at its first tick. -/
theorem stands_next {l : List Reg} (h : ∀ x ∈ l, okW x = true) {t : Int} {i : Nat} (hs : Stands l t i) (ht : t + 1 < sumW l) :
    (t + 1 < sumW (l.take (i + 1)) ∧ Stands l (t + 1) i) ∨ (t + 1 = sumW (l.take (i + 1)) ∧ Stands l (t + 1) (i + 1)) := by
  obtain ⟨hi, h1, h2⟩ := hs
  by_cases hc : t + 1 < sumW (l.take (i + 1))
  · exact .inl ⟨hc, hi, by omega, hc⟩
  · have e : t + 1 = sumW (l.take (i + 1)) := by omega
    refine .inr ⟨e, ?_⟩
    have hlt : i + 1 < l.length := by
      rcases Nat.lt_or_ge (i + 1) l.length with g | g
      · exact g
      · rw [List.take_of_length_le g] at e; omega
    have := okW_at h hlt
    have := sumW_succ hlt
    exact ⟨hlt, by omega, by omega⟩
theorem stands_zero {l : List Reg} (hm : mayW l = true) : Stands l 0 0 := by
  have h := may_pos hm
  have h0 : 0 < l.length := by omega
  have := okW_at (may_ok hm) h0
  have := sumW_succ h0
  simp only [List.take_zero, sumW_nil] at this
  exact ⟨h0, by simp [sumW_nil], by omega⟩
theorem stands_last {l : List Reg} (hm : mayW l = true) {i : Nat} (hs : Stands l (sumW l - 1) i) : i + 1 = l.length := by
  obtain ⟨hi, h1, h2⟩ := hs
  rcases Nat.lt_or_ge (i + 1) l.length with g | g
  · have := okW_at (may_ok hm) g
    have := sumW_succ g
    have := (sumW_take_le (may_ok hm) (i + 1 + 1)).2
    omega
  · omega

/-- Ticks of a partition. -/
def ticksW (l : List Reg) (p : Int) : Nat := (wholeW l).count p
def sumTo (l : List Reg) : Nat → Int
  | 0 => 0
  | p + 1 => sumTo l p + (ticksW l (p : Int) : Int)
theorem count_le {xs : List Int} (p : Int) : xs.count p ≤ xs.length := List.count_le_length
theorem ticksW_small (l : List Reg) (p : Int) : ticksW l p ≤ 64 := Nat.le_trans List.count_le_length (wholeW_small l)
theorem sumTo_range (l : List Reg) : ∀ n, 0 ≤ sumTo l n ∧ sumTo l n ≤ 64 * (n : Int)
  | 0 => by simp [sumTo]
  | n + 1 => by
    have := sumTo_range l n
    have := ticksW_small l (n : Int)
    simp only [sumTo]
    push_cast
    omega
/-- Of a list whose numbers are from 0 to n - 1: how often each occurs, together, is the length. -/
theorem count_all : ∀ (xs : List Int) (n : Nat), (∀ x ∈ xs, 0 ≤ x ∧ x < (n : Int)) → ((List.range n).map fun (p : Nat) => xs.count (p : Int)).sum = xs.length
  | [], n, _ => by induction n with
    | zero => rfl
    | succ n ih => rw [List.range_succ, List.map_append, List.sum_append, ih (by simp)]; simp
  | x :: xs, n, h => by
    have ih := count_all xs n fun y hy => h y (List.mem_cons_of_mem _ hy)
    obtain ⟨h1, h2⟩ := h x (List.mem_cons_self ..)
    have key : ∀ m : Nat, ((List.range m).map fun (p : Nat) => (x :: xs).count (p : Int)).sum = ((List.range m).map fun (p : Nat) => xs.count (p : Int)).sum + if x < (m : Int) then 1 else 0 := by
      intro m
      induction m with
      | zero => rw [if_neg (by simpa using h1)]; rfl
      | succ m im =>
        rw [List.range_succ, List.map_append, List.sum_append, im, List.map_append, List.sum_append, List.map_singleton, List.map_singleton, List.sum_singleton, List.sum_singleton, List.count_cons]
        by_cases e : x = (m : Int)
        · rw [if_neg (by omega), if_pos (by simpa using e), if_pos (by push_cast; omega)]; omega
        · rw [if_neg (c := (x == (m : Int)) = true) (by simpa using e)]
          by_cases e2 : x < (m : Int)
          · rw [if_pos e2, if_pos (by push_cast; omega)]; omega
          · rw [if_neg e2, if_neg (by push_cast; omega)]; omega
    rw [key, if_pos h2, ih, List.length_cons]
theorem whole_parts (l : List Reg) : ∀ x ∈ wholeW l, 0 ≤ x ∧ x < ((7 : Nat) : Int) := by
  intro x hx
  cases h : mayW l
  · rw [wholeW_not h] at hx; cases hx
  · rw [wholeW_may h] at hx
    obtain ⟨y, hy, hr⟩ := List.mem_flatMap.1 hx
    obtain ⟨_, rfl⟩ := List.mem_replicate.1 hr
    have := okW_iff.1 (may_ok h y hy)
    omega
theorem sumTo_eq (l : List Reg) : ∀ n, sumTo l n = (((List.range n).map fun (p : Nat) => (wholeW l).count (p : Int)).sum : Nat)
  | 0 => rfl
  | n + 1 => by
    rw [List.range_succ, List.map_append, List.sum_append]
    simp only [sumTo, sumTo_eq l n, ticksW, List.map_cons, List.map_nil, List.sum_singleton]
    push_cast
    rfl
/-- All partitions' ticks, and nobody's, are the frame. -/
theorem sumTo_frame (l : List Reg) : sumTo l 7 = frameW l := by
  rw [sumTo_eq, count_all _ _ (whole_parts l), wholeW_len]
theorem ticks_none {l : List Reg} {p : Int} (h : p < 0 ∨ 6 < p) : ticksW l p = 0 := by
  unfold ticksW
  rw [List.count_eq_zero]
  intro hp
  have := whole_parts l p hp
  omega
/-- Those of the first k ticks that are p's. -/
theorem count_succ {xs : List Int} {k : Nat} (h : k < xs.length) (p : Int) : (xs.take (k + 1)).count p = (xs.take k).count p + if xs.getD k 0 = p then 1 else 0 := by
  rw [List.take_succ_eq_append_getElem h, List.count_append, List.count_singleton, List.getD, List.getElem?_eq_getElem h]
  simp only [Option.getD_some, beq_iff_eq]

/-- A window cut in two. -/
def cutW (l : List Reg) (k : Nat) (n : Int) : List Reg := l.take k ++ [(n, (rat l k).2), ((rat l k).1 - n, (rat l k).2)] ++ l.drop (k + 1)
theorem split_rat {l : List Reg} {k : Nat} (h : k < l.length) : l = l.take k ++ [rat l k] ++ l.drop (k + 1) := by
  rw [← take_rat h, List.take_append_drop]
theorem cut_parts {l : List Reg} {k : Nat} {n : Int} (hk : k < l.length) (h0 : 0 ≤ n) (h1 : n ≤ (rat l k).1) : partsW (cutW l k n) = partsW l := by
  have e : partsW l = partsW (l.take k) ++ partsW [rat l k] ++ partsW (l.drop (k + 1)) := by rw [← partsW_append, ← partsW_append, ← split_rat hk]
  rw [e, cutW, partsW_append, partsW_append]
  congr 2
  rw [show [(n, (rat l k).2), ((rat l k).1 - n, (rat l k).2)] = [((n, (rat l k).2) : Reg)] ++ [((rat l k).1 - n, (rat l k).2)] from rfl, partsW_append, partsW_one, partsW_one, partsW_one, List.replicate_append_replicate]
  congr 1
  dsimp only
  omega
theorem cut_may {l : List Reg} {k : Nat} {n : Int} (hm : mayW l = true) (hl : l.length < 12) (hk : k < l.length) (h0 : 1 ≤ n) (h1 : n < (rat l k).1) : mayW (cutW l k n) = true := by
  obtain ⟨a1, a2, a3, a4⟩ := mayW_iff.1 hm
  have hr := okW_at a3 hk
  refine mayW_iff.2 ⟨?_, ?_, ?_, ?_⟩
  · simp [cutW]
  · simp only [cutW, List.length_append, List.length_take, List.length_cons, List.length_nil, List.length_drop]; omega
  · intro x hx
    simp only [cutW, List.mem_append, List.mem_cons, List.not_mem_nil, or_false] at hx
    rcases hx with (hx | rfl | rfl) | hx
    · exact a3 x (List.mem_of_mem_take hx)
    · exact okW_iff.2 ⟨by (try dsimp only); omega, by (try dsimp only); omega, by (try dsimp only); omega, by (try dsimp only); omega⟩
    · exact okW_iff.2 ⟨by (try dsimp only); omega, by (try dsimp only); omega, by (try dsimp only); omega, by (try dsimp only); omega⟩
    · exact a3 x (List.mem_of_mem_drop hx)
  · have e : sumW l = sumW (l.take k) + sumW [rat l k] + sumW (l.drop (k + 1)) := by rw [← sumW_append, ← sumW_append, ← split_rat hk]
    rw [cutW, sumW_append, sumW_append]
    rw [sumW_cons, sumW_nil] at e
    simp only [sumW_cons, sumW_nil]
    omega
theorem cut_whole {l : List Reg} {k : Nat} {n : Int} (hm : mayW l = true) (hl : l.length < 12) (hk : k < l.length) (h0 : 1 ≤ n) (h1 : n < (rat l k).1) : wholeW (cutW l k n) = wholeW l := by
  rw [wholeW_may hm, wholeW_may (cut_may hm hl hk h0 h1), cut_parts hk (by omega) (by omega)]
end Go.Proofs.Ytecedmjhhaabgaa
