/- Of regions that are apart each byte is in one at most; as many bytes are in some as their sizes say; a list with two of its regions changed about; a list with one region more. -/
import Derived.Test.YtggnpnicmjjfbaaRegM
namespace Go.Proofs.Ytggnpnicmjjfbaa
set_option linter.unusedVariables false
set_option linter.unusedSimpArgs false

def sumR (l : List Reg) : Int := (l.map (·.2)).sum
theorem sumR_succ {l : List Reg} {k : Nat} (h : k < l.length) : sumR (l.take (k + 1)) = sumR (l.take k) + (rat l k).2 := by
  unfold sumR
  rw [List.take_succ_eq_append_getElem h, rat_lt h, List.map_append, List.sum_append]
  simp
theorem sumR_bound : ∀ {l : List Reg}, (∀ r ∈ l, mayR r = true) → 0 ≤ sumR l ∧ sumR l ≤ 512 * (l.length : Int)
  | [], _ => by simp [sumR]
  | r :: l, h => by
    have h1 := sumR_bound (l := l) (fun x hx => h x (List.mem_cons_of_mem _ hx))
    have h2 := mayR_iff.1 (h r (List.mem_cons_self ..))
    simp only [sumR, List.map_cons, List.sum_cons, List.length_cons] at h1 ⊢
    push_cast
    omega
/-- How many bytes below k are in some region. -/
def cntR (l : List Reg) (k : Nat) : Nat := (List.range k).countP fun t : Nat => l.any fun r => hasR r (t : Int)
theorem cntR_zero (l : List Reg) : cntR l 0 = 0 := rfl
theorem cntR_hit {l : List Reg} {k : Nat} (h : (l.any fun r => hasR r (k : Int)) = true) : cntR l (k + 1) = cntR l k + 1 := by
  simp [cntR, List.range_succ, List.countP_append, h]
theorem cntR_miss {l : List Reg} {k : Nat} (h : (l.any fun r => hasR r (k : Int)) = false) : cntR l (k + 1) = cntR l k := by
  simp [cntR, List.range_succ, List.countP_append, h]
theorem cntR_le (l : List Reg) (k : Nat) : cntR l k ≤ k := by
  have := List.countP_le_length (p := fun t : Nat => l.any fun r => hasR r (t : Int)) (l := List.range k)
  simpa [cntR] using this
theorem countP_or {p q : Nat → Bool} : ∀ (l : List Nat), (∀ t ∈ l, ¬ (p t = true ∧ q t = true)) → l.countP (fun t => p t || q t) = l.countP p + l.countP q
  | [], _ => rfl
  | t :: l, h => by
    have ih := countP_or l (fun x hx => h x (List.mem_cons_of_mem _ hx))
    have ht := h t (List.mem_cons_self ..)
    simp only [List.countP_cons, ih]
    cases hp : p t <;> cases hq : q t <;> simp_all <;> omega
theorem count_span (b s : Nat) : ∀ n, (List.range n).countP (fun t => decide (b ≤ t) && decide (t < b + s)) = min n (b + s) - min n b
  | 0 => by simp
  | n + 1 => by
    rw [List.range_succ, List.countP_append, count_span b s n]
    simp only [List.countP_cons, List.countP_nil]
    by_cases h1 : b ≤ n <;> by_cases h2 : n < b + s <;> simp [h1, h2] <;> omega
theorem count_one {r : Reg} (h : mayR r = true) : ((List.range 4096).countP (fun t : Nat => hasR r (t : Int)) : Int) = r.2 := by
  have hm := mayR_iff.1 h
  obtain ⟨b, hb⟩ := Int.eq_ofNat_of_zero_le (show 0 ≤ r.1 by omega)
  obtain ⟨s, hs⟩ := Int.eq_ofNat_of_zero_le (show 0 ≤ r.2 by omega)
  have e : (fun t : Nat => hasR r (t : Int)) = fun t => decide (b ≤ t) && decide (t < b + s) := by
    funext t
    simp only [hasR, h, Bool.true_and, hb, hs]
    rw [Bool.eq_iff_iff]
    simp only [Bool.and_eq_true, decide_eq_true_eq]
    omega
  rw [e, count_span, hs]
  omega
/-- No byte is in two that are apart. -/
theorem apart_has {a b : Reg} {t : Int} (h : apartR a b = true) : ¬ (hasR a t = true ∧ hasR b t = true) := by
  rintro ⟨h1, h2⟩
  obtain ⟨_, _, h3⟩ := apartR_iff.1 h
  obtain ⟨_, h4⟩ := hasR_iff.1 h1
  obtain ⟨_, h5⟩ := hasR_iff.1 h2
  omega
theorem sum_count : ∀ {l : List Reg}, (∀ r ∈ l, mayR r = true) → l.Pairwise (fun a b => apartR a b = true) → (cntR l 4096 : Int) = sumR l
  | [], _, _ => by simp [cntR, sumR]
  | r :: l, hm, hp => by
    obtain ⟨h1, h2⟩ := List.pairwise_cons.1 hp
    have ih := sum_count (l := l) (fun x hx => hm x (List.mem_cons_of_mem _ hx)) h2
    have e : cntR (r :: l) 4096 = (List.range 4096).countP (fun t : Nat => hasR r (t : Int)) + cntR l 4096 := by
      unfold cntR
      rw [← countP_or]
      · rfl
      · rintro t _ ⟨h3, h4⟩
        obtain ⟨x, hx, h5⟩ := List.any_eq_true.1 h4
        exact apart_has (h1 x hx) ⟨h3, h5⟩
    rw [e]
    push_cast
    rw [ih, count_one (hm r (List.mem_cons_self ..))]
    simp [sumR]
theorem has_unique {l : List Reg} (h : allR l = 0) {i k : Nat} {t : Int} (hi : i < l.length) (hk : k < l.length) (h1 : hasR (rat l i) t = true) (h2 : hasR (rat l k) t = true) : i = k := by
  have hp := pair_iff.1 (allR_zero.1 h).2
  rcases Nat.lt_trichotomy i k with g | g | g
  · exact absurd ⟨h1, h2⟩ (apart_has (hp k hk i g))
  · exact g
  · exact absurd ⟨h2, h1⟩ (apart_has (hp i hi k g))
theorem any_rat {l : List Reg} {p : Reg → Bool} : l.any p = true ↔ ∃ k, k < l.length ∧ p (rat l k) = true := by
  rw [List.any_eq_true]
  constructor
  · rintro ⟨x, hx, hp⟩
    obtain ⟨k, hk, rfl⟩ := List.getElem_of_mem hx
    exact ⟨k, hk, by rw [rat_lt hk]; exact hp⟩
  · rintro ⟨k, hk, hp⟩
    exact ⟨_, rat_mem hk, hp⟩

theorem allR_perm {l m : List Reg} (h : l.Perm m) : allR l = allR m := by
  have hp : l.Pairwise (fun a b => apartR a b = true) ↔ m.Pairwise (fun a b => apartR a b = true) := h.pairwise_iff (fun {x y} h => by rw [apartR_symm]; exact h)
  unfold allR
  rw [h.any_eq]
  by_cases hq : m.Pairwise (fun a b => apartR a b = true)
  · rw [if_pos hq, if_pos (hp.2 hq)]
  · rw [if_neg hq, if_neg (fun h' => hq (hp.1 h'))]
theorem allR_swap {l : List Reg} {a b : Nat} (ha : a < l.length) (hb : b < l.length) : allR ((l.set a (rat l b)).set b (rat l a)) = allR l := by
  rw [rat_lt ha, rat_lt hb]
  exact allR_perm (List.set_set_perm ha hb)
/-- One more may be put behind others that are right just if it fits. -/
theorem allR_snoc {l : List Reg} (h : allR l = 0) (r : Reg) : allR (l ++ [r]) = 0 ↔ fitR l r = true := by
  obtain ⟨h1, h2⟩ := allR_zero.1 h
  rw [allR_zero]
  simp only [List.mem_append, List.mem_singleton, List.pairwise_append, fitR, Bool.and_eq_true, List.all_eq_true]
  constructor
  · rintro ⟨h3, _, _, h4⟩
    exact ⟨h3 r (.inr rfl), fun x hx => h4 x hx r rfl⟩
  · rintro ⟨h3, h4⟩
    refine ⟨fun x hx => ?_, h2, List.pairwise_singleton _ _, fun x hx y hy => by rw [hy]; exact h4 x hx⟩
    rcases hx with hx | rfl
    · exact h1 x hx
    · exact h3
end Go.Proofs.Ytggnpnicmjjfbaa
