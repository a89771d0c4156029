/- Contracts of the program's channel package, part one: within, May, the library's IndexFunc and ContainsFunc at rows and at channels, MayQueue, New, from. -/
import Derived.Test.YtnaegbnijbdgbaaChS
import Derived.Test.YtnaegbnijbdgbaaChO
import Derived.Deep.RegionHeld
namespace Go.Proofs.Ytnaegbnijbdgbaa
open Go.RowKit
set_option linter.unusedVariables false
set_option linter.unusedSimpArgs false

def inR (n m : Int) : Bool := decide (1 ≤ n) && decide (n ≤ m)
theorem inR_iff {n m : Int} : inR n m = true ↔ 1 ≤ n ∧ n ≤ m := by simp [inR]
set_option maxRecDepth 1000000 in
set_option maxHeartbeats 1000000 in
theorem wWithin (n m : Int) (w : World) : Calls Try.prog 58 #[.int .i64 n, .int .i64 m] w fun e w' => e = .returned (.bool (inR n m)) ∧ w = w' := by
  go_enter Try.func58, Try.ntmps58
  go_wp2
  all_goals (go_ret; refine ⟨ret_bool ?_, rfl⟩; rw [Bool.eq_iff_iff, inR_iff]; simp only [decide_eq_true_eq, Bool.false_eq_true, false_iff] at *; omega)

/-- A channel in a box of its own. -/
structure Cx (w : World) (g : Nat) (c : Ch) : Prop where
  c0 : w.cell? ⟨g, 0, none⟩ = some (.int .i64 c.id)
  c1 : w.cell? ⟨g, 1, none⟩ = some (.int .i64 c.fr)
  c2 : w.cell? ⟨g, 2, none⟩ = some (.int .i64 c.dst)
  c3 : w.cell? ⟨g, 3, none⟩ = some (.int .i64 c.cap)
  c4 : w.cell? ⟨g, 4, none⟩ = some (.int .i64 c.size)
  lt : g < w.heap.size
theorem Cx.to {w w' : World} {g : Nat} {c : Ch} (h : Cx w g c) (hb : Below w.heap.size w w') : Cx w' g c :=
  ⟨(hb.cell h.lt).trans h.c0, (hb.cell h.lt).trans h.c1, (hb.cell h.lt).trans h.c2, (hb.cell h.lt).trans h.c3, (hb.cell h.lt).trans h.c4, Nat.lt_of_lt_of_le h.lt hb.size⟩
theorem Cx.new (w : World) (a b d e s : Int) (T : TypeId) : Cx (w.alloc (.cells #[.int .i64 a, .int .i64 b, .int .i64 d, .int .i64 e, .int .i64 s] T)) w.heap.size ⟨a, b, d, e, s⟩ := ⟨by simp, by simp, by simp, by simp, by simp, by simp⟩
/-- A queue in a box of its own. -/
structure Qx (w : World) (g : Nat) (c : Ch) (v : Value) : Prop where
  c0 : w.cell? ⟨g, 0, none⟩ = some (.int .i64 c.id)
  c1 : w.cell? ⟨g, 1, none⟩ = some (.int .i64 c.fr)
  c2 : w.cell? ⟨g, 2, none⟩ = some (.int .i64 c.dst)
  c3 : w.cell? ⟨g, 3, none⟩ = some (.int .i64 c.cap)
  c4 : w.cell? ⟨g, 4, none⟩ = some (.int .i64 c.size)
  c5 : w.cell? ⟨g, 5, none⟩ = some v
  lt : g < w.heap.size
theorem Qx.kept {R : Nat → Prop} {w w' : World} {g : Nat} {c : Ch} {v : Value} (h : Qx w g c v) (hk : Keep R w w') (hn : ¬ R g) : Qx w' g c v :=
  ⟨(hk.cell h.lt hn).trans h.c0, (hk.cell h.lt hn).trans h.c1, (hk.cell h.lt hn).trans h.c2, (hk.cell h.lt hn).trans h.c3, (hk.cell h.lt hn).trans h.c4, (hk.cell h.lt hn).trans h.c5, Nat.lt_of_lt_of_le h.lt hk.size⟩
theorem Qx.to {w w' : World} {g : Nat} {c : Ch} {v : Value} (h : Qx w g c v) (hb : Below w.heap.size w w') : Qx w' g c v := h.kept (R := fun _ => False) (Keep.of_below hb) (fun h => h)
theorem Qx.below {B : Nat} {w w' : World} {g : Nat} {c : Ch} {v : Value} (h : Qx w g c v) (hg : g < B) (hb : Below B w w') : Qx w' g c v :=
  ⟨(hb.cell hg).trans h.c0, (hb.cell hg).trans h.c1, (hb.cell hg).trans h.c2, (hb.cell hg).trans h.c3, (hb.cell hg).trans h.c4, (hb.cell hg).trans h.c5, Nat.lt_of_lt_of_le h.lt hb.size⟩
theorem Qx.new (w : World) (a b d e s : Int) (v : Value) (T : TypeId) : Qx (w.alloc (.cells #[.int .i64 a, .int .i64 b, .int .i64 d, .int .i64 e, .int .i64 s, v] T)) w.heap.size ⟨a, b, d, e, s⟩ v := ⟨by simp, by simp, by simp, by simp, by simp, by simp, by simp⟩

set_option maxRecDepth 1000000 in
set_option maxHeartbeats 1000000 in
theorem wMay (a b d e s : Int) (w : World) :
    Calls Try.prog 36 #[.agg #[.int .i64 a, .int .i64 b, .int .i64 d, .int .i64 e, .int .i64 s]] w fun x w' => x = .returned (.bool (mayC ⟨a, b, d, e, s⟩)) ∧ Below w.heap.size w w' := by
  have BB := Lib.hid ((Below.refl w.heap.size w).alloc (Nat.le_refl _) (.cells #[.int .i64 a, .int .i64 b, .int .i64 d, .int .i64 e, .int .i64 s] 51))
  go_enter Try.func36, Try.ntmps36
  go_wp2_with fail
  refine (wWithin _ _ _).mono ?_
  rintro e w1 ⟨rfl, rfl⟩
  cases h1 : inR a 8
  · have HF : Hid (false = mayC ⟨a, b, d, e, s⟩) := by
      show _ = _
      rw [eq_comm, ← Bool.not_eq_true, mayC_iff]
      rw [← Bool.not_eq_true, inR_iff] at h1
      simp only; omega
    clear h1
    go_wp2_with fail
    go_ret
    refine ⟨ret_bool ?_, BB.out⟩
    exact HF.out
  have H1 := Lib.hid (inR_iff.1 h1)
  clear h1
  go_wp2_with fail
  refine (wWithin _ _ _).mono ?_
  rintro e w1 ⟨rfl, rfl⟩
  cases h1 : inR e 4
  · have HF : Hid (false = mayC ⟨a, b, d, e, s⟩) := by
      show _ = _
      rw [eq_comm, ← Bool.not_eq_true, mayC_iff]
      rw [← Bool.not_eq_true, inR_iff] at h1
      simp only; omega
    clear h1
    go_wp2_with fail
    go_ret
    refine ⟨ret_bool ?_, BB.out⟩
    exact HF.out
  have H2 := Lib.hid (inR_iff.1 h1)
  clear h1
  go_wp2_with fail
  refine (wWithin _ _ _).mono ?_
  rintro e w1 ⟨rfl, rfl⟩
  cases h1 : inR s 16
  · have HF : Hid (false = mayC ⟨a, b, d, e, s⟩) := by
      show _ = _
      rw [eq_comm, ← Bool.not_eq_true, mayC_iff]
      rw [← Bool.not_eq_true, inR_iff] at h1
      simp only; omega
    clear h1
    go_wp2_with fail
    go_ret
    refine ⟨ret_bool ?_, BB.out⟩
    exact HF.out
  have H3 := Lib.hid (inR_iff.1 h1)
  clear h1
  go_wp2_with fail
  refine (wWithin _ _ _).mono ?_
  rintro e w1 ⟨rfl, rfl⟩
  cases h1 : inR b 6
  · have HF : Hid (false = mayC ⟨a, b, d, e, s⟩) := by
      show _ = _
      rw [eq_comm, ← Bool.not_eq_true, mayC_iff]
      rw [← Bool.not_eq_true, inR_iff] at h1
      simp only; omega
    clear h1
    go_wp2_with fail
    go_ret
    refine ⟨ret_bool ?_, BB.out⟩
    exact HF.out
  have H4 := Lib.hid (inR_iff.1 h1)
  clear h1
  go_wp2_with fail
  refine (wWithin _ _ _).mono ?_
  rintro e w1 ⟨rfl, rfl⟩
  cases h1 : inR d 6
  · have HF : Hid (false = mayC ⟨a, b, d, e, s⟩) := by
      show _ = _
      rw [eq_comm, ← Bool.not_eq_true, mayC_iff]
      rw [← Bool.not_eq_true, inR_iff] at h1
      simp only; omega
    clear h1
    go_wp2_with fail
    go_ret
    refine ⟨ret_bool ?_, BB.out⟩
    exact HF.out
  have H5 := Lib.hid (inR_iff.1 h1)
  clear h1
  have HF : Hid ((b != d) = mayC ⟨a, b, d, e, s⟩) := by
    show _ = _
    have := H1.out; have := H2.out; have := H3.out; have := H4.out; have := H5.out
    rw [Bool.eq_iff_iff, mayC_iff]
    simp only [bne_iff_ne, ne_eq]
    omega
  go_wp2_with fail
  all_goals (go_ret; refine ⟨ret_bool ?_, BB.out⟩; rw [← HF.out]; try simp_all)

/-- Where the first row stands that is too long; -1. -/
def firstLong (c : Ch) (l : List (List UInt8)) : Int := match l.findIdx? (longM c) with | some i => (i : Int) | none => -1
theorem firstLong_at {c : Ch} {l : List (List UInt8)} {i : Nat} (h : i < l.length) (hb : ∀ j, j < i → longM c (l.getD j []) = false) (hi : longM c (l.getD i []) = true) : firstLong c l = (i : Int) ∧ l.any (longM c) = true := by
  have e : l.findIdx? (longM c) = some i := by
    rw [List.findIdx?_eq_some_iff_getElem]
    refine ⟨h, ?_, fun j hj => ?_⟩
    · simpa [List.getD, List.getElem?_eq_getElem h] using hi
    · have := hb j hj
      simpa [List.getD, List.getElem?_eq_getElem (Nat.lt_trans hj h)] using this
  refine ⟨by simp [firstLong, e], ?_⟩
  rw [List.any_eq_true]
  exact ⟨l[i], List.getElem_mem h, by simpa [List.getD, List.getElem?_eq_getElem h] using hi⟩
theorem firstLong_none {c : Ch} {l : List (List UInt8)} (hb : ∀ j, j < l.length → longM c (l.getD j []) = false) : firstLong c l = -1 ∧ l.any (longM c) = false := by
  have e : l.any (longM c) = false := by
    rw [List.any_eq_false]
    intro x hx
    obtain ⟨i, hi, rfl⟩ := List.getElem_of_mem hx
    have := hb i hi
    simpa [List.getD, List.getElem?_eq_getElem hi] using this
  refine ⟨?_, e⟩
  have : l.findIdx? (longM c) = none := by
    rw [List.findIdx?_eq_none_iff]
    intro x hx
    rw [List.any_eq_false] at e
    simpa using e x hx
  simp [firstLong, this]

theorem firstLong_any (c : Ch) (l : List (List UInt8)) : decide (firstLong c l ≥ 0) = l.any (longM c) := by
  unfold firstLong
  cases h : l.findIdx? (longM c) with
  | none =>
    rw [List.findIdx?_eq_none_iff] at h
    have : l.any (longM c) = false := by rw [List.any_eq_false]; intro x hx; simpa using h x hx
    rw [this]; rfl
  | some i =>
    rw [List.findIdx?_eq_some_iff_getElem] at h
    obtain ⟨hi, h1, _⟩ := h
    have : l.any (longM c) = true := by rw [List.any_eq_true]; exact ⟨_, List.getElem_mem hi, h1⟩
    rw [this]; simp
end Go.Proofs.Ytnaegbnijbdgbaa
