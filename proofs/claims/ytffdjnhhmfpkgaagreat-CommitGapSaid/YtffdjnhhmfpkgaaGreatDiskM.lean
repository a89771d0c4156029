/- Plain words for layer 6 (disk): sectors with what the cache has for them; what each act makes of them, what a crash leaves. No program is named. -/
import Derived.Test.YtffdjnhhmfpkgaaGreatTz
import Derived.Test.YtffdjnhhmfpkgaaGreatBase
namespace Go.Proofs.YtffdjnhhmfpkgaaGreat
set_option maxRecDepth 1000000
set_option maxHeartbeats 8000000
set_option linter.unusedVariables false
abbrev Sec := List UInt8 × Option (List UInt8)
structure DS where
 L : List Sec
 up : Bool
 left : Nat
 stay : List UInt8
def sec0 : List UInt8 := List.replicate 64 0
def selB (stay : List UInt8) (n : Nat) : Bool := decide (nth stay (n / 8) / 2 ^ (n % 8) % 2 = 1)
def secAt (L : List Sec) (i : Nat) : Sec := L.getD i ([], none)
def left1 (sel : Nat → Bool) (r : Nat) (s : Sec) : List UInt8 := match s.2 with | none => s.1 | some c => if sel r then c else s.1
def fallL (sel : Nat → Bool) : Nat → List Sec → List Sec
 | _, [] => []
 | n, s :: r => (left1 sel n s, none) :: fallL sel (if s.2.isSome then n + 1 else n) r
def dirtyFrom : Nat → List Sec → List Nat
 | _, [] => []
 | b, s :: r => if s.2.isSome then b :: dirtyFrom (b + 1) r else dirtyFrom (b + 1) r
def dirtyL (L : List Sec) : List Nat := dirtyFrom 0 L
def rank (L : List Sec) (i : Nat) : Nat := (dirtyL (L.take i)).length
theorem secAt_lt {L : List Sec} {i : Nat} (h : i < L.length) : secAt L i = L[i] := by simp [secAt, List.getD, List.getElem?_eq_getElem h]
theorem secAt_cons (s : Sec) (r : List Sec) (i : Nat) : secAt (s :: r) (i + 1) = secAt r i := by simp [secAt, List.getD]
theorem fallL_length (sel : Nat → Bool) : ∀ (n : Nat) (L : List Sec), (fallL sel n L).length = L.length
 | _, [] => rfl
 | n, s :: r => by simp [fallL, fallL_length sel _ r]
theorem dirtyFrom_length (a b : Nat) : ∀ L : List Sec, (dirtyFrom a L).length = (dirtyFrom b L).length
 | [] => rfl
 | s :: r => by
  unfold dirtyFrom
  split <;> simp [dirtyFrom_length (a + 1) (b + 1) r]
theorem dirtyFrom_le (b : Nat) : ∀ L : List Sec, (dirtyFrom b L).length ≤ L.length
 | [] => Nat.le_refl _
 | s :: r => by
  have := dirtyFrom_le (b + 1) r
  unfold dirtyFrom
  split <;> simp <;> omega
theorem dirtyFrom_ge : ∀ (b : Nat) (L : List Sec), ∀ i ∈ dirtyFrom b L, b ≤ i ∧ i < b + L.length
 | _, [], i, h => by simp [dirtyFrom] at h
 | b, s :: r, i, h => by
  unfold dirtyFrom at h
  split at h
  ·rcases List.mem_cons.1 h with rfl | h
   ·simp
   ·have := dirtyFrom_ge (b + 1) r i h; simp; omega
  ·have := dirtyFrom_ge (b + 1) r i h; simp; omega
theorem dirtyFrom_sorted : ∀ (b : Nat) (L : List Sec), (dirtyFrom b L).Pairwise (· < ·)
 | _, [] => List.Pairwise.nil
 | b, s :: r => by
  unfold dirtyFrom
  split
  ·refine List.pairwise_cons.2 ⟨fun i hi => ?_, dirtyFrom_sorted (b + 1) r⟩
   have := (dirtyFrom_ge (b + 1) r i hi).1
   omega
  ·exact dirtyFrom_sorted (b + 1) r
theorem dirtyFrom_mem : ∀ (b : Nat) (L : List Sec) (i : Nat), i ∈ dirtyFrom b L ↔ b ≤ i ∧ i < b + L.length ∧ (secAt L (i - b)).2.isSome = true
 | b, [], i => by simp [dirtyFrom]; omega
 | b, s :: r, i => by
  have ih := dirtyFrom_mem (b + 1) r i
  have hs : b < i → secAt (s :: r) (i - b) = secAt r (i - (b + 1)) := fun h => by
   rw [show i - b = (i - (b + 1)) + 1 from by omega, secAt_cons]
  have h0 : secAt (s :: r) 0 = s := rfl
  unfold dirtyFrom
  split
  ·rename_i hc
   rw [List.mem_cons, ih]
   rcases Nat.lt_trichotomy i b with h | h | h
   ·constructor
    ·rintro (h' | h') <;> omega
    ·omega
   ·subst h
    simp [h0, hc]
   ·rw [hs h]
    simp only [List.length_cons]
    constructor
    ·rintro (h' | ⟨h1, h2, h3⟩)
     ·omega
     ·exact ⟨by omega, by omega, h3⟩
    ·rintro ⟨h1, h2, h3⟩
     exact .inr ⟨by omega, by omega, h3⟩
  ·rename_i hc
   rw [ih]
   rcases Nat.lt_trichotomy i b with h | h | h
   ·omega
   ·subst h
    constructor
    ·omega
    ·rintro ⟨_, _, h3⟩
     rw [Nat.sub_self, h0] at h3
     exact absurd h3 hc
   ·rw [hs h]
    simp only [List.length_cons]
    constructor <;> rintro ⟨h1, h2, h3⟩ <;> exact ⟨by omega, by omega, h3⟩
theorem dirtyL_mem (L : List Sec) (i : Nat) : i ∈ dirtyL L ↔ i < L.length ∧ (secAt L i).2.isSome = true := by
 unfold dirtyL
 rw [dirtyFrom_mem]
 simp
theorem dirtyFrom_append : ∀ (b : Nat) (L M : List Sec), dirtyFrom b (L ++ M) = dirtyFrom b L ++ dirtyFrom (b + L.length) M
 | b, [], M => by simp [dirtyFrom]
 | b, s :: r, M => by
  have ih := dirtyFrom_append (b + 1) r M
  rw [show b + 1 + r.length = b + (s :: r).length from by simp; omega] at ih
  simp only [List.cons_append, dirtyFrom]
  split <;> simp [ih]
theorem take_snoc_sec {L : List Sec} {i : Nat} (h : i < L.length) : L.take (i + 1) = L.take i ++ [secAt L i] := by
 rw [List.take_succ_eq_append_getElem h, secAt_lt h]
theorem dirtyL_snoc {L : List Sec} {i : Nat} (h : i < L.length) : dirtyL (L.take (i + 1)) = dirtyL (L.take i) ++ (if (secAt L i).2.isSome then [i] else []) := by
 unfold dirtyL
 rw [take_snoc_sec h, dirtyFrom_append, List.length_take, Nat.min_eq_left (by omega)]
 simp only [dirtyFrom, Nat.zero_add]
theorem rank_succ {L : List Sec} {i : Nat} (h : i < L.length) : rank L (i + 1) = rank L i + (if (secAt L i).2.isSome then 1 else 0) := by
 unfold rank
 rw [dirtyL_snoc h, List.length_append]
 split <;> simp
theorem rank_le (L : List Sec) (i : Nat) : rank L i ≤ L.length := by
 have := dirtyFrom_le 0 (L.take i)
 unfold rank dirtyL
 simp at this
 omega
theorem rank_lt {L : List Sec} {i : Nat} (h : i < L.length) : rank L i < L.length := by
 have := dirtyFrom_le 0 (L.take i)
 unfold rank dirtyL
 simp at this
 omega
theorem dirtyL_get {L : List Sec} {k i : Nat} (h : (dirtyL L)[k]? = some i) : i < L.length ∧ (secAt L i).2.isSome = true ∧ rank L i = k := by
 have hm : i ∈ dirtyL L := List.mem_of_getElem? h
 obtain ⟨h1, h2⟩ := (dirtyL_mem L i).1 hm
 refine ⟨h1, h2, ?_⟩
 have hsplit : dirtyL L = dirtyL (L.take i) ++ dirtyFrom i (L.drop i) := by
  unfold dirtyL
  have h := dirtyFrom_append 0 (L.take i) (L.drop i)
  rw [List.take_append_drop, List.length_take, Nat.min_eq_left (by omega), Nat.zero_add] at h
  exact h
 have hdrop : L.drop i = secAt L i :: L.drop (i + 1) := by rw [secAt_lt h1]; exact List.drop_eq_getElem_cons h1
 have hat : (dirtyL L)[rank L i]? = some i := by
  rw [hsplit, List.getElem?_append_right (show (dirtyL (L.take i)).length ≤ rank L i from Nat.le_refl _), show rank L i - (dirtyL (L.take i)).length = 0 from Nat.sub_self _, hdrop]
  simp [dirtyFrom, h2]
 have hs := dirtyFrom_sorted 0 L
 change (dirtyL L).Pairwise (· < ·) at hs
 have hl1 : k < (dirtyL L).length := by
  rcases Nat.lt_or_ge k (dirtyL L).length with g | g
  ·exact g
  ·rw [List.getElem?_eq_none g] at h; cases h
 have hl2 : rank L i < (dirtyL L).length := by
  rcases Nat.lt_or_ge (rank L i) (dirtyL L).length with g | g
  ·exact g
  ·rw [List.getElem?_eq_none g] at hat; cases hat
 rw [List.getElem?_eq_getElem hl1] at h
 rw [List.getElem?_eq_getElem hl2] at hat
 injection h with h
 injection hat with hat
 rcases Nat.lt_trichotomy (rank L i) k with g | g | g
 ·have := List.pairwise_iff_getElem.1 hs _ _ hl2 hl1 g; omega
 ·exact g
 ·have := List.pairwise_iff_getElem.1 hs _ _ hl1 hl2 g; omega
theorem fallL_append (sel : Nat → Bool) : ∀ (n : Nat) (L M : List Sec), fallL sel n (L ++ M) = fallL sel n L ++ fallL sel (n + (dirtyL L).length) M
 | n, [], M => by simp [fallL, dirtyL, dirtyFrom]
 | n, s :: r, M => by
  have e : (dirtyL (s :: r)).length = (if s.2.isSome then 1 else 0) + (dirtyL r).length := by
   unfold dirtyL
   rw [dirtyFrom]
   split <;> simp [dirtyFrom_length 1 0 r] <;> omega
  rw [List.cons_append, fallL, fallL, fallL_append sel _ r M, e]
  split <;> simp [Nat.add_assoc]
theorem fallL_at (sel : Nat → Bool) {L : List Sec} {i : Nat} (h : i < L.length) : secAt (fallL sel 0 L) i = (left1 sel (rank L i) (secAt L i), none) := by
 have e : L = L.take i ++ (secAt L i :: L.drop (i + 1)) := by
  rw [secAt_lt h, ← List.drop_eq_getElem_cons h, List.take_append_drop]
 have hf : fallL sel 0 L = fallL sel 0 (L.take i) ++ ((left1 sel (rank L i) (secAt L i), none) :: fallL sel (if (secAt L i).2.isSome then rank L i + 1 else rank L i) (L.drop (i + 1))) := by
  conv => lhs; rw [e]
  rw [fallL_append, Nat.zero_add, fallL]
  rfl
 have hl : (fallL sel 0 (L.take i)).length = i := by rw [fallL_length, List.length_take, Nat.min_eq_left (by omega)]
 unfold secAt
 rw [List.getD, hf, List.getElem?_append_right (by omega), hl, Nat.sub_self]
 rfl
def fallTo (sel : Nat → Bool) (L : List Sec) (i : Nat) : List Sec := fallL sel 0 (L.take i) ++ L.drop i
theorem fallTo_zero (sel : Nat → Bool) (L : List Sec) : fallTo sel L 0 = L := by simp [fallTo, fallL]
theorem fallTo_all (sel : Nat → Bool) (L : List Sec) : fallTo sel L L.length = fallL sel 0 L := by simp [fallTo]
theorem fallTo_length (sel : Nat → Bool) (L : List Sec) (i : Nat) : (fallTo sel L i).length = L.length := by
 simp [fallTo, fallL_length]; omega
theorem fallTo_at (sel : Nat → Bool) {L : List Sec} {i : Nat} (h : i < L.length) : secAt (fallTo sel L i) i = secAt L i := by
 unfold secAt fallTo
 rw [List.getD, List.getElem?_append_right (by rw [fallL_length, List.length_take]; omega), fallL_length, List.length_take, Nat.min_eq_left (by omega), Nat.sub_self, List.getElem?_drop]
 rfl
theorem fallTo_succ (sel : Nat → Bool) {L : List Sec} {i : Nat} (h : i < L.length) : fallTo sel L (i + 1) = (fallTo sel L i).set i (left1 sel (rank L i) (secAt L i), none) := by
 unfold fallTo
 have hl : (fallL sel 0 (L.take i)).length = i := by rw [fallL_length, List.length_take, Nat.min_eq_left (by omega)]
 rw [take_snoc_sec h, fallL_append, Nat.zero_add, List.set_append_right _ _ (by omega), hl, Nat.sub_self, List.drop_eq_getElem_cons h]
 simp only [List.set_cons_zero, fallL, List.append_assoc, List.singleton_append]
 rfl
def partAt (sel : Nat → Bool) (L : List Sec) (k i : Nat) : List UInt8 := if decide (rank L i < k) then left1 sel (rank L i) (secAt L i) else (secAt L i).1
def partF (sel : Nat → Bool) (L : List Sec) (k : Nat) : List (List UInt8) := (List.range L.length).map (partAt sel L k)
theorem partF_length (sel : Nat → Bool) (L : List Sec) (k : Nat) : (partF sel L k).length = L.length := by simp [partF]
theorem partF_zero (sel : Nat → Bool) (L : List Sec) : partF sel L 0 = L.map (·.1) := by
 refine List.ext_getElem (by simp [partF]) fun i h1 h2 => ?_
 have hi : i < L.length := by simpa using h2
 simp [partF, partAt, secAt_lt hi]
theorem isSome_none {s : Sec} (h : ¬ s.2.isSome = true) (sel : Nat → Bool) (r : Nat) : left1 sel r s = s.1 := by
 unfold left1
 cases hs : s.2 with
 | none => rfl
 | some c => simp [hs] at h
theorem partF_succ (sel : Nat → Bool) {L : List Sec} {k i : Nat} (h : (dirtyL L)[k]? = some i) : partF sel L (k + 1) = (partF sel L k).set i (left1 sel k (secAt L i)) := by
 obtain ⟨h1, h2, h3⟩ := dirtyL_get h
 refine List.ext_getElem (by simp [partF]) fun j g1 g2 => ?_
 have hj : j < L.length := by simpa [partF] using g1
 rw [List.getElem_set]
 split
 ·rename_i e
  subst e
  simp [partF, partAt, h3]
 ·rename_i e
  simp only [partF, List.getElem_map, List.getElem_range, partAt]
  by_cases hs : (secAt L j).2.isSome = true
  ·have hne : rank L j ≠ k := fun hr => by
    have hmem := (dirtyL_mem L j).2 ⟨hj, hs⟩
    obtain ⟨m, hm⟩ := List.getElem?_of_mem hmem
    have := (dirtyL_get hm).2.2
    rw [hr] at this
    subst this
    rw [h] at hm
    injection hm with hm
    exact e hm
   have : decide (rank L j < k + 1) = decide (rank L j < k) := by
    by_cases hlt : rank L j < k
    ·simp [hlt]; omega
    ·simp [hlt]; omega
   rw [this]
  ·rw [isSome_none hs]
   simp
theorem partF_skip (sel : Nat → Bool) {L : List Sec} {k i : Nat} (h : (dirtyL L)[k]? = some i) (hs : sel k = false) : partF sel L (k + 1) = partF sel L k := by
 obtain ⟨h1, h2, h3⟩ := dirtyL_get h
 rw [partF_succ sel h]
 refine List.ext_getElem (by simp [partF]) fun j g1 g2 => ?_
 rw [List.getElem_set]
 split
 ·rename_i e
  subst e
  have : left1 sel k (secAt L i) = (secAt L i).1 := by
   unfold left1
   cases (secAt L i).2 with
   | none => rfl
   | some c => simp [hs]
  simp [partF, partAt, h3, this]
 ·rfl
theorem partF_all (sel : Nat → Bool) (L : List Sec) : partF sel L (dirtyL L).length = (fallL sel 0 L).map (·.1) := by
 refine List.ext_getElem (by simp [partF, fallL_length]) fun j g1 g2 => ?_
 have hj : j < L.length := by simpa [partF] using g1
 have hf := fallL_at sel hj
 rw [secAt_lt (by rw [fallL_length]; exact hj)] at hf
 simp only [partF, List.getElem_map, List.getElem_range, partAt, hf]
 by_cases hs : (secAt L j).2.isSome = true
 ·have hmem := (dirtyL_mem L j).2 ⟨hj, hs⟩
  obtain ⟨m, hm⟩ := List.getElem?_of_mem hmem
  have hr := (dirtyL_get hm).2.2
  have hlt : m < (dirtyL L).length := by
   rcases Nat.lt_or_ge m (dirtyL L).length with g | g
   ·exact g
   ·rw [List.getElem?_eq_none g] at hm; cases hm
  simp [hr, hlt]
 ·rw [isSome_none hs]
  simp
def DS.has (s : DS) (i : Int) : Bool := decide (0 ≤ i ∧ i < s.L.length)
def DS.fall (s : DS) (sel : Nat → Bool) : DS := ⟨fallL sel 0 s.L, false, 0, []⟩
def DS.put (s : DS) (i : Nat) (b : List UInt8) : DS := ⟨s.L.set i ((secAt s.L i).1, some b), s.up, s.left - 1, s.stay⟩
def DS.settled (s : DS) : DS := ⟨fallL (fun _ => true) 0 s.L, s.up, s.left - 1, s.stay⟩
def DS.write (s : DS) (i : Int) (b : List UInt8) : Int × DS :=
 if s.up = false then (60, s) else if s.has i = false then (61, s) else if b.length ≠ 64 then (2, s) else if s.left = 1 then (60, s.fall (selB s.stay)) else (0, s.put i.toNat b)
def DS.flush (s : DS) : Int × DS := if s.up = false then (60, s) else if s.left = 1 then (60, s.fall (selB s.stay)) else (0, s.settled)
def DS.crash (s : DS) (stay : List UInt8) : Int × DS := if s.up = false then (60, s) else (0, s.fall (selB stay))
def DS.arm (s : DS) (n : Int) (stay : List UInt8) : Int × DS := if s.up = false then (60, s) else if n < 1 then (2, s) else (0, ⟨s.L, s.up, n.toNat, stay⟩)
def DS.start (s : DS) : Int × DS := if s.up = true then (2, s) else (0, ⟨s.L, true, s.left, s.stay⟩)
def Sec.now (s : Sec) : List UInt8 := s.2.getD s.1
def DS.read (s : DS) (i : Int) : List UInt8 × Int := if s.up = false then ([], 60) else if s.has i = false then ([], 61) else (Sec.now (secAt s.L i.toNat), 0)
def DS.flushed (s : DS) (i : Int) : List UInt8 := if s.has i = false then [] else (secAt s.L i.toNat).1
def DS.new (n : Nat) : DS := ⟨List.replicate n (sec0, none), true, 0, []⟩
structure DS.ok (s : DS) : Prop where
 len : s.L.length ≤ 1024
 fl : ∀ x ∈ s.L, x.1.length = 64
 ca : ∀ x ∈ s.L, ∀ c, x.2 = some c → c.length = 64
 lt : s.left ≤ 9223372036854775807
theorem left1_len {s : Sec} (h1 : s.1.length = 64) (h2 : ∀ c, s.2 = some c → c.length = 64) (sel : Nat → Bool) (r : Nat) : (left1 sel r s).length = 64 := by
 unfold left1
 split
 ·exact h1
 ·rename_i c hc
  split
  ·exact h2 c hc
  ·exact h1
theorem fallL_mem {sel : Nat → Bool} : ∀ {n : Nat} {L : List Sec} {x : Sec}, x ∈ fallL sel n L → ∃ s ∈ L, ∃ r, x = (left1 sel r s, none)
 | _, [], x, h => by simp [fallL] at h
 | n, s :: t, x, h => by
  rw [fallL] at h
  rcases List.mem_cons.1 h with h | h
  ·exact ⟨s, by simp, n, h⟩
  ·obtain ⟨s', h1, r, h2⟩ := fallL_mem h
   exact ⟨s', by simp [h1], r, h2⟩
theorem secAt_mem {L : List Sec} {i : Nat} (h : i < L.length) : secAt L i ∈ L := by rw [secAt_lt h]; exact List.getElem_mem h
theorem DS.ok.fallen {s : DS} (h : s.ok) (sel : Nat → Bool) {up : Bool} {left : Nat} (hl : left ≤ 9223372036854775807) (stay : List UInt8) : DS.ok ⟨fallL sel 0 s.L, up, left, stay⟩ :=
 ⟨by simp only [fallL_length]; exact h.len, fun x hx => by obtain ⟨y, hy, r, rfl⟩ := fallL_mem hx; exact left1_len (h.fl y hy) (h.ca y hy) sel r,
  fun x hx c hc => (by obtain ⟨y, hy, r, rfl⟩ := fallL_mem hx; cases hc), hl⟩
theorem DS.ok.fall {s : DS} (h : s.ok) (sel : Nat → Bool) : (s.fall sel).ok := h.fallen sel (Nat.zero_le _) _
theorem DS.ok.settled {s : DS} (h : s.ok) : s.settled.ok := h.fallen _ (by have := h.lt; omega) _
theorem DS.ok.put {s : DS} (h : s.ok) {i : Nat} (hi : i < s.L.length) {b : List UInt8} (hb : b.length = 64) : (s.put i b).ok := by
 have hm := secAt_mem hi
 refine ⟨by simp only [DS.put, List.length_set]; exact h.len, fun x hx => ?_, fun x hx c hc => ?_, by have := h.lt; show s.left - 1 ≤ _; omega⟩
 ·rcases List.mem_or_eq_of_mem_set hx with hx | rfl
  ·exact h.fl x hx
  ·exact h.fl (secAt s.L i) hm
 ·rcases List.mem_or_eq_of_mem_set hx with hx | rfl
  ·exact h.ca x hx c hc
  ·injection hc with hc; rw [← hc]; exact hb
theorem DS.ok.new {n : Nat} (h : n ≤ 1024) : (DS.new n).ok :=
 ⟨by simpa [DS.new] using h, fun x hx => by obtain ⟨_, rfl⟩ := List.mem_replicate.1 hx; rfl, fun x hx c hc => (by obtain ⟨_, rfl⟩ := List.mem_replicate.1 hx; cases hc), Nat.zero_le _⟩
theorem DS.ok.secF {s : DS} (h : s.ok) {i : Nat} (hi : i < s.L.length) : (secAt s.L i).1.length = 64 := h.fl _ (secAt_mem hi)
theorem DS.ok.secC {s : DS} (h : s.ok) {i : Nat} (hi : i < s.L.length) {c : List UInt8} (hc : (secAt s.L i).2 = some c) : c.length = 64 := h.ca _ (secAt_mem hi) c hc
end Go.Proofs.YtffdjnhhmfpkgaaGreat