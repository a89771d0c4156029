/- Several texts in one (a claim has 60 files at most): VaN, VaO, VaQ. -/
import Derived.Test.YtecedmjhhaabgaaVaM
namespace Go.Proofs.Ytecedmjhhaabgaa

/- A valid configuration in plain words: each of its parts is right. No program is named here. -/
section
open Go.RowKit
set_option linter.unusedVariables false

structure Val (c : Cf) : Prop where
  mayw : mayW c.ws = true
  win : ∀ i, i < c.ws.length → (rat c.ws i).2 ≠ 0 → hasP c (rat c.ws i).2 = true
  pos : 0 < c.ps.length
  six : c.ps.length ≤ 6
  ids : ∀ i, i < c.ps.length → 1 ≤ (ptAt c.ps i).id ∧ (ptAt c.ps i).id ≤ 6
  asc : ∀ i, 0 < i → i < c.ps.length → (ptAt c.ps (i - 1)).id < (ptAt c.ps i).id
  mayr : ∀ i, i < c.ps.length → mayR (regP (ptAt c.ps i)) = true
  img : ∀ i, i < c.ps.length → ((ptAt c.ps i).img.length : Int) ≤ (ptAt c.ps i).size
  apart : ∀ i, i < c.ps.length → ∀ k, k < i → apartR (regP (ptAt c.ps i)) (regP (ptAt c.ps k)) = true
  eight : c.cs.length ≤ 8
  ce : allE c.cs = 0
  chs : ∀ i, i < c.cs.length → hasP c (chAt c.cs i).fr = true ∧ hasP c (chAt c.cs i).dst = true
theorem val_of {c : Cf} (h : fitsV c = true) : Val c := by
  obtain ⟨h1, h2, h3, h4, h5⟩ := fitsV_iff.1 h
  unfold fltW at h1
  unfold fltP at h2
  unfold fltR at h3
  unfold fltO at h4
  unfold fltC at h5
  rw [Bool.or_eq_false_iff, anyN_no] at h1 h2 h5
  rw [anyN_no] at h3 h4
  rw [Bool.or_eq_false_iff, decide_eq_false_iff_not, decide_eq_false_iff_not] at h2 h5
  have hr : ∀ i, i < c.ps.length → mayR (regP (ptAt c.ps i)) = true ∧ ((ptAt c.ps i).img.length : Int) ≤ (ptAt c.ps i).size := fun i hi => by
    have := h3 i hi
    unfold wrR at this
    rw [Bool.or_eq_false_iff, decide_eq_false_iff_not] at this
    exact ⟨by simpa using this.1, by omega⟩
  have hp : ∀ i, i < c.ps.length → 1 ≤ (ptAt c.ps i).id ∧ (ptAt c.ps i).id ≤ 6 ∧ (0 < i → (ptAt c.ps (i - 1)).id < (ptAt c.ps i).id) := fun i hi => by
    have := h2.2 i hi
    unfold wrP at this
    rw [Bool.or_eq_false_iff, Bool.or_eq_false_iff, decide_eq_false_iff_not, decide_eq_false_iff_not, Bool.and_eq_false_iff, decide_eq_false_iff_not, decide_eq_false_iff_not] at this
    refine ⟨by omega, by omega, fun h0 => ?_⟩
    rcases this.2.2 with g | g <;> omega
  refine ⟨by simpa using h1.1, fun i hi hn => ?_, by omega, by omega, fun i hi => ⟨(hp i hi).1, (hp i hi).2.1⟩, fun i h0 hi => (hp i hi).2.2 h0, fun i hi => (hr i hi).1, fun i hi => (hr i hi).2, fun i hi k hk => ?_, by omega, ?_, fun i hi => ?_⟩
  · have := h1.2 i hi
    unfold wrW at this
    rw [decide_eq_true hn, Bool.true_and] at this
    simpa using this
  · have := anyN_no.1 (h4 i hi) k hk
    unfold wrO at this
    rw [(hr i hi).1, (hr k (by omega)).1, Bool.true_and, Bool.true_and] at this
    simpa using this
  · have := h5.1.2
    simpa using this
  · have := h5.2 i hi
    unfold wrC at this
    rw [Bool.or_eq_false_iff] at this
    exact ⟨by simpa using this.1, by simpa using this.2⟩
theorem Val.lt {c : Cf} (h : Val c) : ∀ {i j : Nat}, i < j → j < c.ps.length → (ptAt c.ps i).id < (ptAt c.ps j).id := by
  intro i j hij hj
  induction j with
  | zero => omega
  | succ j ih =>
    have h1 := h.asc (j + 1) (by omega) hj
    rw [Nat.add_sub_cancel] at h1
    rcases Nat.lt_or_ge i j with g | g
    · have := ih g (by omega); omega
    · obtain rfl : i = j := by omega
      exact h1
/-- Each partition is found by its ID. -/
theorem Val.find {c : Cf} (h : Val c) {i : Nat} (hi : i < c.ps.length) : findP c.ps (ptAt c.ps i).id = (i : Int) :=
  findP_at hi (fun j hj e => by have := h.lt hj hi; omega) rfl
theorem Val.none {c : Cf} (h : Val c) {id : Int} (hid : id < 1) : hasP c id = false := by
  unfold hasP
  rw [findP_none (fun j hj e => by have := (h.ids j hj).1; omega)]
  rfl
theorem Val.sizes {c : Cf} (h : Val c) {i : Nat} (hi : i < c.ps.length) : 16 ≤ (ptAt c.ps i).size ∧ (ptAt c.ps i).size ≤ 512 := by
  have := mayR_iff.1 (h.mayr i hi)
  exact ⟨this.1, this.2.1⟩
theorem Val.can {c : Cf} (h : Val c) : canC c = true := by
  have hw := (mayW_iff.1 h.mayw).2.1
  refine canC_iff.2 ⟨fun p hp => ?_, hw, h.six, h.eight⟩
  obtain ⟨i, hi, rfl⟩ := List.mem_iff_getElem.1 hp
  have h1 := h.img i hi
  have h2 := (h.sizes hi).2
  rw [ptAt_lt hi] at h1 h2
  omega
/-- The regions of the partitions. -/
def regsP (c : Cf) : List Reg := c.ps.map regP
theorem Val.regs {c : Cf} (h : Val c) : allR (regsP c) = 0 := by
  have hat : ∀ k, k < c.ps.length → rat (regsP c) k = regP (ptAt c.ps k) := fun k hk => by
    rw [rat_lt (by simpa [regsP] using hk), ptAt_lt hk]
    simp [regsP]
  have hl : (regsP c).length = c.ps.length := by simp [regsP]
  refine allR_zero.2 ⟨fun r hr => ?_, ?_⟩
  · obtain ⟨p, hp, rfl⟩ := List.mem_map.1 hr
    obtain ⟨i, hi, rfl⟩ := List.mem_iff_getElem.1 hp
    have := h.mayr i hi
    rwa [ptAt_lt hi] at this
  · refine pair_iff.2 fun i hi k hk => ?_
    rw [hl] at hi
    rw [hat i hi, hat k (by omega), apartR_symm]
    exact h.apart i hi k hk
theorem fits_of {c : Cf} (h : Val c) : fitsV c = true := by
  refine fitsV_iff.2 ⟨?_, ?_, ?_, ?_, ?_⟩
  · unfold fltW
    rw [h.mayw, Bool.not_true, Bool.false_or, anyN_no]
    intro i hi
    unfold wrW
    by_cases h0 : (rat c.ws i).2 = 0
    · simp [h0]
    · rw [h.win i hi h0]; simp
  · unfold fltP
    have h1 := h.pos
    have h2 := h.six
    rw [Bool.or_eq_false_iff, Bool.or_eq_false_iff, decide_eq_false_iff_not, decide_eq_false_iff_not, anyN_no]
    refine ⟨⟨by omega, by omega⟩, fun i hi => ?_⟩
    have h3 := h.ids i hi
    unfold wrP
    rw [Bool.or_eq_false_iff, Bool.or_eq_false_iff, decide_eq_false_iff_not, decide_eq_false_iff_not, Bool.and_eq_false_iff, decide_eq_false_iff_not, decide_eq_false_iff_not]
    refine ⟨by omega, by omega, ?_⟩
    rcases Nat.eq_zero_or_pos i with g | g
    · exact .inl (by omega)
    · exact .inr (by have := h.asc i g hi; omega)
  · unfold fltR
    rw [anyN_no]
    intro i hi
    unfold wrR
    rw [h.mayr i hi, Bool.or_eq_false_iff, decide_eq_false_iff_not]
    exact ⟨rfl, by have := h.img i hi; omega⟩
  · unfold fltO
    rw [anyN_no]
    intro i hi
    rw [anyN_no]
    intro k hk
    unfold wrO
    rw [h.apart i hi k hk]
    simp
  · unfold fltC
    rw [Bool.or_eq_false_iff, Bool.or_eq_false_iff, decide_eq_false_iff_not, decide_eq_false_iff_not, anyN_no]
    refine ⟨⟨by have := h.eight; omega, fun hn => hn h.ce⟩, fun i hi => ?_⟩
    unfold wrC
    rw [(h.chs i hi).1, (h.chs i hi).2]
    rfl
end

/- What stays valid in plain words: other Keeps, other images; no program is named here. -/
section
open Go.RowKit
set_option linter.unusedVariables false

theorem hasP_iff {c : Cf} {id : Int} : hasP c id = true ↔ ∃ i, i < c.ps.length ∧ (ptAt c.ps i).id = id := by
  constructor
  · intro h
    by_cases hn : ∀ j, j < c.ps.length → (ptAt c.ps j).id ≠ id
    · unfold hasP at h
      rw [findP_none hn] at h
      cases h
    · refine Classical.byContradiction fun hx => hn fun j hj e => hx ⟨j, hj, e⟩
  · rintro ⟨i, hi, rfl⟩
    refine Classical.byContradiction fun hx => ?_
    -- the first of that ID is found
    have key : ∀ n, ∀ i, i < n → i < c.ps.length → (∀ j, j < i → (ptAt c.ps j).id ≠ (ptAt c.ps i).id) → hasP c (ptAt c.ps i).id = true := fun n i _ hi hb => by
      unfold hasP
      rw [findP_at hi hb rfl]
      exact decide_eq_true (by omega)
    have first : ∀ n i, i < n → i < c.ps.length → ∃ k, k ≤ i ∧ (ptAt c.ps k).id = (ptAt c.ps i).id ∧ ∀ j, j < k → (ptAt c.ps j).id ≠ (ptAt c.ps i).id := by
      intro n
      induction n with
      | zero => intro i h; omega
      | succ n ih =>
        intro i hin hi
        by_cases hb : ∀ j, j < i → (ptAt c.ps j).id ≠ (ptAt c.ps i).id
        · exact ⟨i, Nat.le_refl _, rfl, hb⟩
        · obtain ⟨j, hj, e⟩ : ∃ j, j < i ∧ (ptAt c.ps j).id = (ptAt c.ps i).id := Classical.byContradiction fun hx => hb fun j hj e => hx ⟨j, hj, e⟩
          obtain ⟨k, hk, e2, hb2⟩ := ih j (by omega) (by omega)
          exact ⟨k, by omega, e2.trans e, fun q hq e3 => hb2 q hq (e3.trans e.symm)⟩
    obtain ⟨k, hk, e, hb⟩ := first (i + 1) i (by omega) hi
    have := key (k + 1) k (by omega) (by omega) (fun j hj => by rw [e]; exact hb j hj)
    rw [e] at this
    exact hx this
/-- Partitions alike but for Keep and images. -/
structure AlikeP (ps qs : List Pt) : Prop where
  len : qs.length = ps.length
  id : ∀ i, i < ps.length → (ptAt qs i).id = (ptAt ps i).id
  reg : ∀ i, i < ps.length → regP (ptAt qs i) = regP (ptAt ps i)
theorem AlikeP.has {c : Cf} {qs : List Pt} (h : AlikeP c.ps qs) {cs : List Ch} {id : Int} (hp : hasP c id = true) : hasP ⟨c.ws, qs, cs⟩ id = true := by
  obtain ⟨i, hi, e⟩ := hasP_iff.1 hp
  exact hasP_iff.2 ⟨i, by rw [h.len]; exact hi, by rw [← e]; exact h.id i hi⟩
theorem Val.alike {c : Cf} (v : Val c) {qs : List Pt} (h : AlikeP c.ps qs) (hi : ∀ i, i < qs.length → ((ptAt qs i).img.length : Int) ≤ (ptAt qs i).size) : Val ⟨c.ws, qs, c.cs⟩ := by
  have hl := h.len
  refine ⟨v.mayw, fun i hi hn => h.has (v.win i hi hn), by (show 0 < qs.length); have := v.pos; omega, by (show qs.length ≤ 6); have := v.six; omega, fun i hq => ?_, fun i h0 hq => ?_, fun i hq => ?_, hi, fun i hq k hk => ?_, v.eight, v.ce, fun i hq => ⟨h.has (v.chs i hq).1, h.has (v.chs i hq).2⟩⟩
  · have hq' : i < c.ps.length := by rw [← hl]; exact hq
    (show 1 ≤ (ptAt qs i).id ∧ (ptAt qs i).id ≤ 6)
    rw [h.id i hq']
    exact v.ids i hq'
  · have hq' : i < c.ps.length := by rw [← hl]; exact hq
    (show (ptAt qs (i - 1)).id < (ptAt qs i).id)
    rw [h.id i hq', h.id (i - 1) (by omega)]
    exact v.asc i h0 hq'
  · have hq' : i < c.ps.length := by rw [← hl]; exact hq
    (show mayR (regP (ptAt qs i)) = true)
    rw [h.reg i hq']
    exact v.mayr i hq'
  · have hq' : i < c.ps.length := by rw [← hl]; exact hq
    (show apartR (regP (ptAt qs i)) (regP (ptAt qs k)) = true)
    rw [h.reg i hq', h.reg k (by omega)]
    exact v.apart i hq' k hk
theorem allE_iff {l : List Ch} : allE l = 0 ↔ (∀ c ∈ l, mayC c = true) ∧ ascC l := by
  unfold allE
  by_cases h : (l.any fun c => !mayC c) = true
  · rw [if_pos h]
    obtain ⟨c, hc, hm⟩ := List.any_eq_true.1 h
    constructor
    · intro h2; cases h2
    · intro h2; rw [h2.1 c hc] at hm; cases hm
  · rw [if_neg h]
    have hall : ∀ c ∈ l, mayC c = true := fun c hc => by
      cases e : mayC c
      · exact absurd (List.any_eq_true.2 ⟨c, hc, by rw [e]; rfl⟩) h
      · rfl
    by_cases ha : ascC l
    · rw [if_pos ha]; exact ⟨fun _ => ⟨hall, ha⟩, fun _ => rfl⟩
    · rw [if_neg ha]; exact ⟨fun h2 => (by cases h2), fun h2 => absurd h2.2 ha⟩
theorem asc_lt {l : List Ch} (h : ascC l) : ∀ {i j : Nat}, i < j → j < l.length → (chAt l i).id < (chAt l j).id := by
  intro i j hij hj
  induction j with
  | zero => omega
  | succ j ih =>
    have h1 := h j hj
    rcases Nat.lt_or_ge i j with g | g
    · have := ih g (by omega); omega
    · obtain rfl : i = j := by omega
      exact h1
theorem chAt_erase (l : List Ch) (k i : Nat) : chAt (l.eraseIdx k) i = if i < k then chAt l i else chAt l (i + 1) := by
  simp only [chAt, List.getD, List.getElem?_eraseIdx]
  split <;> rfl
theorem allE_erase {l : List Ch} (h : allE l = 0) {k : Nat} (hk : k < l.length) : allE (l.eraseIdx k) = 0 := by
  obtain ⟨h1, h2⟩ := allE_iff.1 h
  refine allE_iff.2 ⟨fun c hc => h1 c (List.mem_of_mem_eraseIdx hc), fun j hj => ?_⟩
  rw [List.length_eraseIdx_of_lt hk] at hj
  rw [chAt_erase, chAt_erase]
  split <;> split
  · exact h2 j (by omega)
  · exact asc_lt h2 (by omega) (by omega)
  · omega
  · exact h2 (j + 1) (by omega)
/-- Without one of its channels it stays valid. -/
theorem Val.less {c : Cf} (v : Val c) {k : Nat} (hk : k < c.cs.length) : Val ⟨c.ws, c.ps, c.cs.eraseIdx k⟩ := by
  refine ⟨v.mayw, v.win, v.pos, v.six, v.ids, v.asc, v.mayr, v.img, v.apart, ?_, allE_erase v.ce hk, fun i hi => ?_⟩
  · (show (c.cs.eraseIdx k).length ≤ 8)
    rw [List.length_eraseIdx_of_lt hk]
    have := v.eight
    omega
  · have hi' : i < (c.cs.eraseIdx k).length := hi
    rw [List.length_eraseIdx_of_lt hk] at hi'
    (show hasP c (chAt (c.cs.eraseIdx k) i).fr = true ∧ hasP c (chAt (c.cs.eraseIdx k) i).dst = true)
    rw [chAt_erase]
    split
    · exact v.chs i (by omega)
    · exact v.chs (i + 1) (by omega)
end

/- What changes of a valid configuration come to, in plain words: an image that is too long; a partition that is taken away. No program is named here. -/
section
open Go.RowKit
set_option linter.unusedVariables false

theorem hasP_alike {ws : List Reg} {ps qs : List Pt} {cs : List Ch} (h : AlikeP ps qs) (id : Int) : hasP ⟨ws, qs, cs⟩ id = hasP ⟨ws, ps, cs⟩ id := by
  rw [Bool.eq_iff_iff, hasP_iff, hasP_iff]
  constructor
  · rintro ⟨i, hi, e⟩
    have hi' : i < ps.length := by rw [← h.len]; exact hi
    exact ⟨i, hi', by rw [← e]; exact (h.id i hi').symm⟩
  · rintro ⟨i, hi, e⟩
    exact ⟨i, by (show i < qs.length); rw [h.len]; exact hi, by rw [← e]; exact h.id i hi⟩
/-- An image that is longer than its region is all that is wrong then. -/
theorem Val.long {c : Cf} (v : Val c) {qs : List Pt} (h : AlikeP c.ps qs) {k : Nat} (hk : k < c.ps.length) (hl : (ptAt qs k).size < ((ptAt qs k).img.length : Int)) : allV ⟨c.ws, qs, c.cs⟩ = [80] := by
  have h0 := fits_of v
  obtain ⟨h1, h2, h3, h4, h5⟩ := fitsV_iff.1 h0
  have e1 : fltW ⟨c.ws, qs, c.cs⟩ = false := by
    rw [← h1]
    unfold fltW
    congr 1
    refine anyN_congr fun i hi => ?_
    unfold wrW
    rw [hasP_alike h]
  have e2 : fltP ⟨c.ws, qs, c.cs⟩ = false := by
    rw [← h2]
    unfold fltP
    rw [show (⟨c.ws, qs, c.cs⟩ : Cf).ps.length = c.ps.length from h.len]
    congr 1
    refine anyN_congr fun i hi => ?_
    unfold wrP
    rw [show (ptAt (⟨c.ws, qs, c.cs⟩ : Cf).ps i).id = (ptAt c.ps i).id from h.id i hi]
    rcases Nat.eq_zero_or_pos i with rfl | g
    · simp
    · rw [show (ptAt (⟨c.ws, qs, c.cs⟩ : Cf).ps (i - 1)).id = (ptAt c.ps (i - 1)).id from h.id (i - 1) (by omega)]
  have e3 : fltR ⟨c.ws, qs, c.cs⟩ = true := by
    unfold fltR
    refine anyN_iff.2 ⟨k, by (show k < qs.length); rw [h.len]; exact hk, ?_⟩
    unfold wrR
    rw [show decide ((ptAt (⟨c.ws, qs, c.cs⟩ : Cf).ps k).size < ((ptAt (⟨c.ws, qs, c.cs⟩ : Cf).ps k).img.length : Int)) = true from decide_eq_true hl, Bool.or_true]
  have e4 : fltO ⟨c.ws, qs, c.cs⟩ = false := by
    rw [← h4]
    unfold fltO
    rw [show (⟨c.ws, qs, c.cs⟩ : Cf).ps.length = c.ps.length from h.len]
    refine anyN_congr fun i hi => anyN_congr fun j hj => ?_
    unfold wrO
    rw [show regP (ptAt (⟨c.ws, qs, c.cs⟩ : Cf).ps i) = regP (ptAt c.ps i) from h.reg i hi, show regP (ptAt (⟨c.ws, qs, c.cs⟩ : Cf).ps j) = regP (ptAt c.ps j) from h.reg j (by omega)]
  have e5 : fltC ⟨c.ws, qs, c.cs⟩ = false := by
    rw [← h5]
    unfold fltC
    congr 1
    refine anyN_congr fun i hi => ?_
    unfold wrC
    rw [hasP_alike h, hasP_alike h]
  unfold allV
  rw [e1, e2, e3, e4, e5]
  rfl
/-- One partition with another Keep, another image. -/
theorem ptAt_set {l : List Pt} {k : Nat} {p : Pt} (i : Nat) (hk : k < l.length) : ptAt (l.set k p) i = if i = k then p else ptAt l i := by
  simp only [ptAt, List.getD, List.getElem?_set]
  by_cases h : k = i
  · subst h; simp [hk]
  · rw [if_neg h, if_neg (fun e => h e.symm)]
theorem AlikeP.set {l : List Pt} {k : Nat} (hk : k < l.length) (b : Bool) (im : List UInt8) : AlikeP l (l.set k ⟨(ptAt l k).id, (ptAt l k).base, (ptAt l k).size, b, im⟩) := by
  refine ⟨by simp, fun i hi => ?_, fun i hi => ?_⟩
  · rw [ptAt_set i hk]; split
    · rename_i e; rw [e]
    · rfl
  · rw [ptAt_set i hk]; split
    · rename_i e; rw [e]; rfl
    · rfl
theorem Val.setP {c : Cf} (v : Val c) {k : Nat} (hk : k < c.ps.length) (b : Bool) {im : List UInt8} (hi : (im.length : Int) ≤ (ptAt c.ps k).size) : fitsV ⟨c.ws, c.ps.set k ⟨(ptAt c.ps k).id, (ptAt c.ps k).base, (ptAt c.ps k).size, b, im⟩, c.cs⟩ = true := by
  refine fits_of (v.alike (AlikeP.set hk b im) fun i h => ?_)
  rw [ptAt_set i hk]
  split
  · exact hi
  · exact v.img i (by simpa using h)
theorem Val.setL {c : Cf} (v : Val c) {k : Nat} (hk : k < c.ps.length) (b : Bool) {im : List UInt8} (hi : (ptAt c.ps k).size < (im.length : Int)) : allV ⟨c.ws, c.ps.set k ⟨(ptAt c.ps k).id, (ptAt c.ps k).base, (ptAt c.ps k).size, b, im⟩, c.cs⟩ = [80] := by
  refine v.long (AlikeP.set hk b im) hk ?_
  rw [ptAt_set k hk, if_pos rfl]
  exact hi
/-- One partition with another Keep and another image. -/
def PX (c : Cf) (k : Nat) (b : Bool) (im : List UInt8) : Cf := ⟨c.ws, c.ps.set k ⟨(ptAt c.ps k).id, (ptAt c.ps k).base, (ptAt c.ps k).size, b, im⟩, c.cs⟩
theorem PX_at {c : Cf} {k : Nat} (hk : k < c.ps.length) (b : Bool) (im : List UInt8) : ptAt (PX c k b im).ps k = ⟨(ptAt c.ps k).id, (ptAt c.ps k).base, (ptAt c.ps k).size, b, im⟩ := by
  unfold PX; rw [ptAt_set k hk, if_pos rfl]
theorem PX_PX {c : Cf} {k : Nat} (hk : k < c.ps.length) (b : Bool) (im im' : List UInt8) : PX (PX c k b im) k (ptAt (PX c k b im).ps k).keep im' = PX c k b im' := by
  rw [PX_at hk]
  show (⟨(PX c k b im).ws, (PX c k b im).ps.set k ⟨(ptAt (PX c k b im).ps k).id, (ptAt (PX c k b im).ps k).base, (ptAt (PX c k b im).ps k).size, b, im'⟩, (PX c k b im).cs⟩ : Cf) = _
  rw [PX_at hk]
  unfold PX
  rw [List.set_set]
theorem Val.lessF {c : Cf} (v : Val c) {k : Nat} (hk : k < c.cs.length) : fitsV ⟨c.ws, c.ps, c.cs.eraseIdx k⟩ = true := fits_of (v.less hk)

theorem ptAt_erase (l : List Pt) (k i : Nat) : ptAt (l.eraseIdx k) i = if i < k then ptAt l i else ptAt l (i + 1) := by
  simp only [ptAt, List.getD, List.getElem?_eraseIdx]
  split <;> rfl
/-- Where the i-th stands once the k-th is gone. -/
def shiftI (k i : Nat) : Nat := if i < k then i else i + 1
theorem ptAt_shift (l : List Pt) (k i : Nat) : ptAt (l.eraseIdx k) i = ptAt l (shiftI k i) := by
  rw [ptAt_erase]; unfold shiftI; split <;> rfl
theorem shift_lt {k i n : Nat} (hk : k < n) (hi : i < n - 1) : shiftI k i < n := by unfold shiftI; split <;> omega
theorem shift_ne (k i : Nat) : shiftI k i ≠ k := by unfold shiftI; split <;> omega
theorem shift_mono {k i j : Nat} (h : i < j) : shiftI k i < shiftI k j := by unfold shiftI; split <;> split <;> omega
theorem shift_of {k i n : Nat} (hi : i < n) (h : i ≠ k) (hk : k < n) : ∃ j, j < n - 1 ∧ shiftI k j = i := by
  rcases Nat.lt_or_ge i k with g | g
  · exact ⟨i, by omega, if_pos g⟩
  · exact ⟨i - 1, by omega, by unfold shiftI; rw [if_neg (by omega)]; omega⟩
theorem Val.hasGone {c : Cf} (v : Val c) {k : Nat} (hk : k < c.ps.length) (id : Int) : hasP ⟨c.ws, c.ps.eraseIdx k, c.cs⟩ id = (hasP c id && decide (id ≠ (ptAt c.ps k).id)) := by
  have hl : (c.ps.eraseIdx k).length = c.ps.length - 1 := List.length_eraseIdx_of_lt hk
  rw [Bool.eq_iff_iff, Bool.and_eq_true, decide_eq_true_eq, hasP_iff, hasP_iff]
  constructor
  · rintro ⟨i, hi, e⟩
    have hi' : i < c.ps.length - 1 := by rw [← hl]; exact hi
    have e' : (ptAt c.ps (shiftI k i)).id = id := by rw [← ptAt_shift]; exact e
    refine ⟨⟨shiftI k i, shift_lt hk hi', e'⟩, fun e2 => ?_⟩
    have hs := shift_lt hk hi'
    rcases Nat.lt_or_gt_of_ne (shift_ne k i) with g | g
    · have := v.lt g hk; omega
    · have := v.lt g hs; omega
  · rintro ⟨⟨i, hi, e⟩, hne⟩
    have hik : i ≠ k := fun h => hne (by rw [← e, h])
    obtain ⟨j, hj, ej⟩ := shift_of hi hik hk
    exact ⟨j, by (show j < (c.ps.eraseIdx k).length); rw [hl]; exact hj, by (show (ptAt (c.ps.eraseIdx k) j).id = id); rw [ptAt_shift, ej]; exact e⟩
theorem ticks_pos {l : List Reg} (h : mayW l = true) {id : Int} : 0 < ticksW l id ↔ ∃ i, i < l.length ∧ (rat l i).2 = id := by
  unfold ticksW wholeW
  rw [if_pos h, List.count_pos_iff]
  have hm : id ∈ partsW l ↔ ∃ x ∈ l, 0 < x.1.toNat ∧ x.2 = id := by
    unfold partsW
    rw [List.mem_flatMap]
    constructor
    · rintro ⟨x, hx, hi⟩
      obtain ⟨h1, h2⟩ := List.mem_replicate.1 hi
      exact ⟨x, hx, by omega, h2.symm⟩
    · rintro ⟨x, hx, h1, h2⟩
      exact ⟨x, hx, List.mem_replicate.2 ⟨by omega, h2.symm⟩⟩
  rw [hm]
  constructor
  · rintro ⟨x, hx, _, h2⟩
    obtain ⟨i, hi, rfl⟩ := List.getElem_of_mem hx
    exact ⟨i, hi, by rw [rat_lt hi]; exact h2⟩
  · rintro ⟨i, hi, e⟩
    have := okW_at (may_ok h) hi
    rw [rat_lt hi] at this e
    exact ⟨l[i], List.getElem_mem hi, by omega, e⟩
/-- Does a channel name it? -/
def namesC (cs : List Ch) (id : Int) (n : Nat) : Bool := anyN (fun i => (chAt cs i).fr == id || (chAt cs i).dst == id) n
/-- A partition that is taken away: what is wrong then. -/
theorem Val.gone {c : Cf} (v : Val c) {k : Nat} (hk : k < c.ps.length) (h2 : 2 ≤ c.ps.length) : allV ⟨c.ws, c.ps.eraseIdx k, c.cs⟩ = more (decide (0 < ticksW c.ws (ptAt c.ps k).id)) 90 ++ more (namesC c.cs (ptAt c.ps k).id c.cs.length) 100 := by
  have hl : (c.ps.eraseIdx k).length = c.ps.length - 1 := List.length_eraseIdx_of_lt hk
  have hid := v.ids k hk
  have e1 : fltW ⟨c.ws, c.ps.eraseIdx k, c.cs⟩ = decide (0 < ticksW c.ws (ptAt c.ps k).id) := by
    unfold fltW
    rw [show mayW (⟨c.ws, c.ps.eraseIdx k, c.cs⟩ : Cf).ws = true from v.mayw, Bool.not_true, Bool.false_or, Bool.eq_iff_iff, anyN_iff, decide_eq_true_eq, ticks_pos v.mayw]
    constructor
    · rintro ⟨i, hi, hw⟩
      unfold wrW at hw
      rw [Bool.and_eq_true, decide_eq_true_eq, v.hasGone hk] at hw
      obtain ⟨h0, hn⟩ := hw
      refine ⟨i, hi, ?_⟩
      have hn' : (!(hasP c (rat c.ws i).2 && decide ((rat c.ws i).2 ≠ (ptAt c.ps k).id))) = true := hn
      rw [v.win i hi h0, Bool.true_and] at hn'
      simpa using hn'
    · rintro ⟨i, hi, e⟩
      refine ⟨i, hi, ?_⟩
      unfold wrW
      rw [Bool.and_eq_true, decide_eq_true_eq, v.hasGone hk]
      refine ⟨by (show (rat c.ws i).2 ≠ 0); omega, ?_⟩
      show (!(hasP c (rat c.ws i).2 && decide ((rat c.ws i).2 ≠ (ptAt c.ps k).id))) = true
      rw [e]; simp
  have e2 : fltP ⟨c.ws, c.ps.eraseIdx k, c.cs⟩ = false := by
    unfold fltP
    have h6 := v.six
    rw [show (⟨c.ws, c.ps.eraseIdx k, c.cs⟩ : Cf).ps.length = c.ps.length - 1 from hl, Bool.or_eq_false_iff, Bool.or_eq_false_iff, decide_eq_false_iff_not, decide_eq_false_iff_not, anyN_no]
    refine ⟨⟨by omega, by omega⟩, fun i hi => ?_⟩
    unfold wrP
    rw [show ptAt (⟨c.ws, c.ps.eraseIdx k, c.cs⟩ : Cf).ps i = ptAt c.ps (shiftI k i) from ptAt_shift _ _ _, show ptAt (⟨c.ws, c.ps.eraseIdx k, c.cs⟩ : Cf).ps (i - 1) = ptAt c.ps (shiftI k (i - 1)) from ptAt_shift _ _ _]
    have h3 := v.ids (shiftI k i) (shift_lt hk hi)
    rw [Bool.or_eq_false_iff, Bool.or_eq_false_iff, decide_eq_false_iff_not, decide_eq_false_iff_not, Bool.and_eq_false_iff, decide_eq_false_iff_not, decide_eq_false_iff_not]
    refine ⟨by omega, by omega, ?_⟩
    rcases Nat.eq_zero_or_pos i with g | g
    · exact .inl (by omega)
    · right
      have := v.lt (shift_mono (k := k) (show i - 1 < i by omega)) (shift_lt hk hi)
      omega
  have e3 : fltR ⟨c.ws, c.ps.eraseIdx k, c.cs⟩ = false := by
    unfold fltR
    rw [show (⟨c.ws, c.ps.eraseIdx k, c.cs⟩ : Cf).ps.length = c.ps.length - 1 from hl, anyN_no]
    intro i hi
    unfold wrR
    rw [show ptAt (⟨c.ws, c.ps.eraseIdx k, c.cs⟩ : Cf).ps i = ptAt c.ps (shiftI k i) from ptAt_shift _ _ _]
    have hs := shift_lt hk hi
    rw [v.mayr _ hs, Bool.or_eq_false_iff, decide_eq_false_iff_not]
    exact ⟨rfl, by have := v.img _ hs; omega⟩
  have e4 : fltO ⟨c.ws, c.ps.eraseIdx k, c.cs⟩ = false := by
    unfold fltO
    rw [show (⟨c.ws, c.ps.eraseIdx k, c.cs⟩ : Cf).ps.length = c.ps.length - 1 from hl, anyN_no]
    intro i hi
    rw [anyN_no]
    intro j hj
    unfold wrO
    rw [show ptAt (⟨c.ws, c.ps.eraseIdx k, c.cs⟩ : Cf).ps i = ptAt c.ps (shiftI k i) from ptAt_shift _ _ _, show ptAt (⟨c.ws, c.ps.eraseIdx k, c.cs⟩ : Cf).ps j = ptAt c.ps (shiftI k j) from ptAt_shift _ _ _]
    rw [v.apart _ (shift_lt hk hi) _ (shift_mono hj)]
    simp
  have e5 : fltC ⟨c.ws, c.ps.eraseIdx k, c.cs⟩ = namesC c.cs (ptAt c.ps k).id c.cs.length := by
    unfold fltC namesC
    have h8 := v.eight
    rw [show decide (8 < (⟨c.ws, c.ps.eraseIdx k, c.cs⟩ : Cf).cs.length) = false from decide_eq_false (by (show ¬ 8 < c.cs.length); omega), show decide (allE (⟨c.ws, c.ps.eraseIdx k, c.cs⟩ : Cf).cs ≠ 0) = false from decide_eq_false (not_not_intro v.ce), Bool.or_self, Bool.false_or]
    refine anyN_congr fun i hi => ?_
    unfold wrC
    rw [v.hasGone hk, v.hasGone hk, Bool.not_and, Bool.not_and]
    show ((!hasP c (chAt c.cs i).fr) || !decide ((chAt c.cs i).fr ≠ (ptAt c.ps k).id) || ((!hasP c (chAt c.cs i).dst) || !decide ((chAt c.cs i).dst ≠ (ptAt c.ps k).id))) = _
    rw [(v.chs i hi).1, (v.chs i hi).2]
    by_cases g1 : (chAt c.cs i).fr = (ptAt c.ps k).id <;> by_cases g2 : (chAt c.cs i).dst = (ptAt c.ps k).id <;> simp [g1, g2]
  unfold allV
  rw [e1, e2, e3, e4, e5]
  simp [more]
end
end Go.Proofs.Ytecedmjhhaabgaa
