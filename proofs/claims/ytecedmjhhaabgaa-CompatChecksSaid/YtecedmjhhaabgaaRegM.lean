/- Regions of memory in plain words: which may be, where one ends, which bytes are in one, which two are apart, what is wrong with a list of them, the lowest place for one more, who has a byte. No program is named here. -/
import Derived.Lib.SlBy
namespace Go.Proofs.Ytecedmjhhaabgaa
set_option linter.unusedVariables false

/-- A region: its Base, its Size. -/
abbrev Reg := Int × Int
def mayR (r : Reg) : Bool := decide (16 ≤ r.2 ∧ r.2 ≤ 512 ∧ r.2 % 4 = 0 ∧ 0 ≤ r.1 ∧ r.1 % 4 = 0 ∧ r.1 ≤ 4096 - r.2)
def endR (r : Reg) : Int := if mayR r = true then r.1 + r.2 else 0
def hasR (r : Reg) (t : Int) : Bool := mayR r && (decide (r.1 ≤ t) && decide (t < r.1 + r.2))
def apartR (a b : Reg) : Bool := mayR a && (mayR b && (decide (a.1 + a.2 ≤ b.1) || decide (b.1 + b.2 ≤ a.1)))
/-- What is wrong with several regions. -/
def allR (l : List Reg) : Int := if (l.any fun r => !mayR r) = true then 2 else if l.Pairwise (fun a b => apartR a b = true) then 0 else 121

theorem mayR_iff {r : Reg} : mayR r = true ↔ 16 ≤ r.2 ∧ r.2 ≤ 512 ∧ r.2 % 4 = 0 ∧ 0 ≤ r.1 ∧ r.1 % 4 = 0 ∧ r.1 ≤ 4096 - r.2 := decide_eq_true_iff
theorem endR_may {r : Reg} (h : mayR r = true) : endR r = r.1 + r.2 := if_pos h
theorem apartR_iff {a b : Reg} : apartR a b = true ↔ mayR a = true ∧ mayR b = true ∧ (a.1 + a.2 ≤ b.1 ∨ b.1 + b.2 ≤ a.1) := by
  simp [apartR]
theorem hasR_iff {r : Reg} {t : Int} : hasR r t = true ↔ mayR r = true ∧ r.1 ≤ t ∧ t < r.1 + r.2 := by simp [hasR]
theorem apartR_symm (a b : Reg) : apartR a b = apartR b a := by
  rw [Bool.eq_iff_iff, apartR_iff, apartR_iff]
  constructor <;> (rintro ⟨h1, h2, h3⟩; exact ⟨h2, h1, h3.symm⟩)
theorem apartR_self (a : Reg) : apartR a a = false := by
  rw [Bool.eq_false_iff]
  intro h
  obtain ⟨h1, _, h3⟩ := apartR_iff.1 h
  have := mayR_iff.1 h1
  omega

theorem allR_2 {l : List Reg} (h : (l.any fun r => !mayR r) = true) : allR l = 2 := if_pos h
theorem allR_of {l : List Reg} (h : (l.any fun r => !mayR r) = false) : allR l = if l.Pairwise (fun a b => apartR a b = true) then 0 else 121 := by
  unfold allR; rw [if_neg (by rw [h]; decide)]
theorem allR_zero {l : List Reg} : allR l = 0 ↔ (∀ r ∈ l, mayR r = true) ∧ l.Pairwise (fun a b => apartR a b = true) := by
  unfold allR
  by_cases h : (l.any fun r => !mayR r) = true
  · rw [if_pos h]
    obtain ⟨r, hr, hn⟩ := List.any_eq_true.1 h
    constructor
    · intro h; cases h
    · rintro ⟨h1, _⟩
      rw [h1 r hr] at hn; cases hn
  · rw [if_neg h]
    have hm : ∀ r ∈ l, mayR r = true := by
      intro r hr
      cases hq : mayR r
      · exact absurd (List.any_eq_true.2 ⟨r, hr, by rw [hq]; rfl⟩) h
      · rfl
    by_cases hp : l.Pairwise (fun a b => apartR a b = true)
    · rw [if_pos hp]; exact ⟨fun _ => ⟨hm, hp⟩, fun _ => rfl⟩
    · rw [if_neg hp]
      constructor
      · intro h; cases h
      · rintro ⟨_, h2⟩; exact absurd h2 hp
theorem allR_range (l : List Reg) : allR l = 0 ∨ allR l = 2 ∨ allR l = 121 := by
  unfold allR
  split
  · exact .inr (.inl rfl)
  · split
    · exact .inl rfl
    · exact .inr (.inr rfl)

def reg0 : Reg := (0, 0)
/-- The k-th region. -/
def rat (l : List Reg) (k : Nat) : Reg := l.getD k reg0
theorem rat_lt {l : List Reg} {k : Nat} (h : k < l.length) : rat l k = l[k] := by simp [rat, List.getD, List.getElem?_eq_getElem h]
theorem rat_mem {l : List Reg} {k : Nat} (h : k < l.length) : rat l k ∈ l := by rw [rat_lt h]; exact List.getElem_mem h

theorem any_false_iff {l : List Reg} : (l.any fun r => !mayR r) = false ↔ ∀ k, k < l.length → mayR (rat l k) = true := by
  rw [List.any_eq_false]
  constructor
  · intro h k hk
    have := h _ (rat_mem hk)
    simpa using this
  · intro h r hr
    obtain ⟨k, hk, rfl⟩ := List.getElem_of_mem hr
    have := h k hk
    rw [rat_lt hk] at this
    simp [this]
theorem pair_iff {l : List Reg} : l.Pairwise (fun a b => apartR a b = true) ↔ ∀ i, i < l.length → ∀ k, k < i → apartR (rat l k) (rat l i) = true := by
  rw [List.pairwise_iff_getElem]
  constructor
  · intro h i hi k hk
    rw [rat_lt hi, rat_lt (by omega)]
    exact h k i (by omega) hi hk
  · intro h k i hk hi hki
    have := h i hi k hki
    rwa [rat_lt hi, rat_lt hk] at this
theorem allR_two {l : List Reg} {k : Nat} (hk : k < l.length) (h : mayR (rat l k) = false) : allR l = 2 :=
  allR_2 (List.any_eq_true.2 ⟨_, rat_mem hk, by rw [h]; rfl⟩)
theorem allR_121 {l : List Reg} (h : (l.any fun r => !mayR r) = false) {i k : Nat} (hi : i < l.length) (hk : k < i) (hn : apartR (rat l k) (rat l i) = false) : allR l = 121 := by
  rw [allR_of h, if_neg]
  intro hp
  rw [pair_iff.1 hp i hi k hk] at hn
  cases hn

/-- A place for one more: one may lie there, apart from all. -/
def fitR (l : List Reg) (r : Reg) : Bool := mayR r && l.all fun x => apartR x r
/-- The lowest place from 4·k on, n places being looked at. -/
def lowR (l : List Reg) (s : Int) : Nat → Nat → Option Int
  | 0, _ => none
  | n + 1, k => if fitR l (4 * (k : Int), s) = true then some (4 * (k : Int)) else lowR l s n (k + 1)
/-- Place's answer. -/
def placeR (l : List Reg) (s : Int) : Reg × Int :=
  if 64 < l.length then (reg0, 2) else if allR l ≠ 0 then (reg0, allR l) else if mayR (0, s) = false then (reg0, 2) else
    match lowR l s 1024 0 with
    | some b => ((b, s), 0)
    | none => (reg0, 4)
theorem lowR_none {l : List Reg} {s : Int} : ∀ {n k : Nat}, lowR l s n k = none ↔ ∀ j, k ≤ j → j < k + n → fitR l (4 * (j : Int), s) = false
  | 0, k => by simp [lowR]; intro j h1 h2; omega
  | n + 1, k => by
    unfold lowR
    by_cases h : fitR l (4 * (k : Int), s) = true
    · rw [if_pos h]
      constructor
      · intro h; cases h
      · intro h'; rw [h' k (Nat.le_refl _) (by omega)] at h; cases h
    · rw [if_neg h, lowR_none]
      constructor
      · intro h' j h1 h2
        rcases Nat.lt_or_ge k j with g | g
        · exact h' j g (by omega)
        · obtain rfl : j = k := by omega
          simpa using h
      · intro h' j h1 h2; exact h' j (by omega) (by omega)
theorem lowR_some {l : List Reg} {s b : Int} : ∀ {n k : Nat}, lowR l s n k = some b ↔ ∃ j, k ≤ j ∧ j < k + n ∧ b = 4 * (j : Int) ∧ fitR l (4 * (j : Int), s) = true ∧ ∀ i, k ≤ i → i < j → fitR l (4 * (i : Int), s) = false
  | 0, k => by simp [lowR]; intro j h1 h2; omega
  | n + 1, k => by
    unfold lowR
    by_cases h : fitR l (4 * (k : Int), s) = true
    · rw [if_pos h]
      constructor
      · intro h'
        injection h' with h'
        exact ⟨k, Nat.le_refl _, by omega, h'.symm, h, fun i h1 h2 => by omega⟩
      · rintro ⟨j, h1, h2, rfl, h3, h4⟩
        rcases Nat.lt_or_ge k j with g | g
        · rw [h4 k (Nat.le_refl _) g] at h; cases h
        · obtain rfl : j = k := by omega
          rfl
    · rw [if_neg h, lowR_some]
      constructor
      · rintro ⟨j, h1, h2, h3, h4, h5⟩
        refine ⟨j, by omega, by omega, h3, h4, fun i h6 h7 => ?_⟩
        rcases Nat.lt_or_ge k i with g | g
        · exact h5 i g h7
        · obtain rfl : i = k := by omega
          simpa using h
      · rintro ⟨j, h1, h2, h3, h4, h5⟩
        rcases Nat.lt_or_ge k j with g | g
        · exact ⟨j, by omega, by omega, h3, h4, fun i h6 h7 => h5 i (by omega) h7⟩
        · obtain rfl : j = k := by omega
          exact absurd h4 h
theorem fitR_iff {l : List Reg} {r : Reg} : fitR l r = true ↔ mayR r = true ∧ ∀ k, k < l.length → apartR (rat l k) r = true := by
  simp only [fitR, Bool.and_eq_true, List.all_eq_true]
  constructor
  · rintro ⟨h1, h2⟩
    exact ⟨h1, fun k hk => h2 _ (rat_mem hk)⟩
  · rintro ⟨h1, h2⟩
    refine ⟨h1, fun x hx => ?_⟩
    obtain ⟨k, hk, rfl⟩ := List.getElem_of_mem hx
    have := h2 k hk
    rwa [rat_lt hk] at this
theorem placeR_long {l : List Reg} {s : Int} (h : 64 < l.length) : placeR l s = (reg0, 2) := if_pos h
theorem placeR_bad {l : List Reg} {s : Int} (h : l.length ≤ 64) (h2 : allR l ≠ 0) : placeR l s = (reg0, allR l) := by
  unfold placeR; rw [if_neg (by omega), if_pos h2]
theorem placeR_size {l : List Reg} {s : Int} (h : l.length ≤ 64) (h2 : allR l = 0) (h3 : mayR (0, s) = false) : placeR l s = (reg0, 2) := by
  unfold placeR; rw [if_neg (by omega), if_neg (by omega), if_pos h3]
theorem placeR_at {l : List Reg} {s : Int} (h : l.length ≤ 64) (h2 : allR l = 0) (h3 : mayR (0, s) = true) {j : Nat} (hj : j < 1024) (hf : fitR l (4 * (j : Int), s) = true) (hlow : ∀ i, i < j → fitR l (4 * (i : Int), s) = false) :
    placeR l s = ((4 * (j : Int), s), 0) := by
  unfold placeR
  rw [if_neg (by omega), if_neg (by omega), if_neg (by rw [h3]; decide), lowR_some.2 ⟨j, Nat.zero_le _, by omega, rfl, hf, fun i _ hi => hlow i hi⟩]
theorem placeR_full {l : List Reg} {s : Int} (h : l.length ≤ 64) (h2 : allR l = 0) (h3 : mayR (0, s) = true) (hlow : ∀ i : Nat, i < 1024 → fitR l (4 * (i : Int), s) = false) : placeR l s = (reg0, 4) := by
  unfold placeR
  rw [if_neg (by omega), if_neg (by omega), if_neg (by rw [h3]; decide), lowR_none.2 (fun j _ hj => hlow j (by omega))]
/-- Whoever may not lie at 0 may lie nowhere. -/
theorem may_zero {b s : Int} (h : mayR (b, s) = true) : mayR (0, s) = true := by
  have := mayR_iff.1 h
  exact mayR_iff.2 (by dsimp only at this ⊢; omega)
/-- Where one that may is hindered, none is apart from the same up to its end. -/
theorem hinder {x : Reg} {b c s : Int} (hx : mayR x = true) (hr : mayR (b, s) = true) (hn : apartR x (b, s) = false) (h1 : b ≤ c) (h2 : c < endR x) : apartR x (c, s) = false := by
  rw [Bool.eq_false_iff]
  intro h
  obtain ⟨_, h4, h5⟩ := apartR_iff.1 h
  rw [endR_may hx] at h2
  have h6 : ¬ (x.1 + x.2 ≤ b ∨ b + s ≤ x.1) := fun h7 => by
    rw [apartR_iff.2 ⟨hx, hr, h7⟩] at hn; cases hn
  dsimp only at h5
  omega
theorem hinder_far {x : Reg} {b s : Int} (hx : mayR x = true) (hr : mayR (b, s) = true) (hn : apartR x (b, s) = false) : b < endR x ∧ endR x ≤ 4096 ∧ endR x % 4 = 0 := by
  rw [endR_may hx]
  have h6 : ¬ (x.1 + x.2 ≤ b ∨ b + s ≤ x.1) := fun h7 => by
    rw [apartR_iff.2 ⟨hx, hr, h7⟩] at hn; cases hn
  have := mayR_iff.1 hx
  omega

/-- The place of the first region of which p holds; -1 where there is none. -/
def idxR (p : Reg → Bool) (l : List Reg) : Int := Lib.idxBy (fun _ y => p y) l default
theorem rat_bang {l : List Reg} {k : Nat} (h : k < l.length) : l[k]! = rat l k := by rw [rat_lt h]; simp [h]
theorem idxR_hit {p : Reg → Bool} {l : List Reg} {k : Nat} (hk : k < l.length) (h : p (rat l k) = true) (hne : ∀ j, j < k → p (rat l j) = false) : idxR p l = (k : Int) := by
  have := Lib.idxBy_hit (fun _ y => p y) l l.length k default hk (Nat.le_refl _) (by show p l[k]! = true; rw [rat_bang hk]; exact h) (fun j hj => by show p l[j]! = false; rw [rat_bang (by omega)]; exact hne j hj)
  rwa [List.take_length] at this
theorem idxR_miss {p : Reg → Bool} {l : List Reg} (hne : ∀ j, j < l.length → p (rat l j) = false) : idxR p l = -1 := by
  have := Lib.idxBy_miss (fun _ y => p y) l l.length default (fun j hj => by show p l[j]! = false; rw [rat_bang hj]; exact hne j hj)
  rwa [List.take_length] at this
theorem idxR_cases (p : Reg → Bool) (l : List Reg) : (∃ k, k < l.length ∧ p (rat l k) = true ∧ (∀ j, j < k → p (rat l j) = false) ∧ idxR p l = (k : Int)) ∨ ((∀ j, j < l.length → p (rat l j) = false) ∧ idxR p l = -1) := by
  by_cases h : ∃ k, k < l.length ∧ p (rat l k) = true
  · have hex : ∃ k, (k < l.length ∧ p (rat l k) = true) ∧ ∀ j, j < k → ¬ (j < l.length ∧ p (rat l j) = true) := by
      obtain ⟨k, hk⟩ := h
      induction k using Nat.strongRecOn with
      | ind k ih =>
        by_cases h2 : ∃ j, j < k ∧ (j < l.length ∧ p (rat l j) = true)
        · obtain ⟨j, h3, h4⟩ := h2; exact ih j h3 h4
        · exact ⟨k, hk, fun j hj hh => h2 ⟨j, hj, hh⟩⟩
    obtain ⟨k, ⟨h1, h2⟩, h3⟩ := hex
    have h4 : ∀ j, j < k → p (rat l j) = false := fun j hj => by
      cases hq : p (rat l j)
      · rfl
      · exact absurd ⟨by omega, hq⟩ (h3 j hj)
    exact .inl ⟨k, h1, h2, h4, idxR_hit h1 h2 h4⟩
  · have h4 : ∀ j, j < l.length → p (rat l j) = false := fun j hj => by
      cases hq : p (rat l j)
      · rfl
      · exact absurd ⟨j, hj, hq⟩ h
    exact .inr ⟨h4, idxR_miss h4⟩
/-- The place of the first region that has the byte. -/
def holdR (l : List Reg) (t : Int) : Int := idxR (fun r => hasR r t) l
end Go.Proofs.Ytecedmjhhaabgaa
