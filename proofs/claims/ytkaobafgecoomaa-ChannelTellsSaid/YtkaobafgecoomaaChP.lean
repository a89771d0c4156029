/- Contracts of the program's channel package, part one: within, May, the library's IndexFunc and ContainsFunc at rows and at channels, MayQueue, New, from. -/
import Derived.Test.YtkaobafgecoomaaChS
import Derived.Test.YtkaobafgecoomaaChO
import Derived.Deep.RegionHeld
namespace Go.Proofs.Ytkaobafgecoomaa
open Go.RowKit
set_option linter.unusedVariables false
set_option linter.unusedSimpArgs false

def inR (n m : Int) : Bool := decide (1 ≤ n) && decide (n ≤ m)
theorem inR_iff {n m : Int} : inR n m = true ↔ 1 ≤ n ∧ n ≤ m := by simp [inR]
set_option maxRecDepth 1000000 in
set_option maxHeartbeats 1000000 in
theorem wWithin (n m : Int) (w : World) : Calls Try.prog 32 #[.int .i64 n, .int .i64 m] w fun e w' => e = .returned (.bool (inR n m)) ∧ w = w' := by
  go_enter Try.func32, Try.ntmps32
  go_wp2
  all_goals (go_ret; refine ⟨ret_bool ?_, rfl⟩; rw [Bool.eq_iff_iff, inR_iff]; simp only [decide_eq_true_eq, Bool.false_eq_true, false_iff] at *; omega)

/-- A channel in a box of its own. -/
structure Cx (w : World) (g : Nat) (c : Ch) : Prop where
  c0 : w.cell? ⟨g, 0, none⟩ = some (.int .i64 c.id)
  c1 : w.cell? ⟨g, 1, none⟩ = some (.int .i64 c.fr)
  c2 : w.cell? ⟨g, 2, none⟩ = some (.int .i64 c.dst)
  c3 : w.cell? ⟨g, 3, none⟩ = some (.int .i64 c.cap)
  c4 : w.cell? ⟨g, 4, none⟩ = some (.int .i64 c.size)
  lt : g < w.heap.size
theorem Cx.to {w w' : World} {g : Nat} {c : Ch} (h : Cx w g c) (hb : Below w.heap.size w w') : Cx w' g c :=
  ⟨(hb.cell h.lt).trans h.c0, (hb.cell h.lt).trans h.c1, (hb.cell h.lt).trans h.c2, (hb.cell h.lt).trans h.c3, (hb.cell h.lt).trans h.c4, Nat.lt_of_lt_of_le h.lt hb.size⟩
theorem Cx.new (w : World) (a b d e s : Int) (T : TypeId) : Cx (w.alloc (.cells #[.int .i64 a, .int .i64 b, .int .i64 d, .int .i64 e, .int .i64 s] T)) w.heap.size ⟨a, b, d, e, s⟩ := ⟨by simp, by simp, by simp, by simp, by simp, by simp⟩
/-- A queue in a box of its own. -/
structure Qx (w : World) (g : Nat) (c : Ch) (v : Value) : Prop where
  c0 : w.cell? ⟨g, 0, none⟩ = some (.int .i64 c.id)
  c1 : w.cell? ⟨g, 1, none⟩ = some (.int .i64 c.fr)
  c2 : w.cell? ⟨g, 2, none⟩ = some (.int .i64 c.dst)
  c3 : w.cell? ⟨g, 3, none⟩ = some (.int .i64 c.cap)
  c4 : w.cell? ⟨g, 4, none⟩ = some (.int .i64 c.size)
  c5 : w.cell? ⟨g, 5, none⟩ = some v
  lt : g < w.heap.size
theorem Qx.kept {R : Nat → Prop} {w w' : World} {g : Nat} {c : Ch} {v : Value} (h : Qx w g c v) (hk : Keep R w w') (hn : ¬ R g) : Qx w' g c v :=
  ⟨(hk.cell h.lt hn).trans h.c0, (hk.cell h.lt hn).trans h.c1, (hk.cell h.lt hn).trans h.c2, (hk.cell h.lt hn).trans h.c3, (hk.cell h.lt hn).trans h.c4, (hk.cell h.lt hn).trans h.c5, Nat.lt_of_lt_of_le h.lt hk.size⟩
theorem Qx.to {w w' : World} {g : Nat} {c : Ch} {v : Value} (h : Qx w g c v) (hb : Below w.heap.size w w') : Qx w' g c v := h.kept (R := fun _ => False) (Keep.of_below hb) (fun h => h)
theorem Qx.below {B : Nat} {w w' : World} {g : Nat} {c : Ch} {v : Value} (h : Qx w g c v) (hg : g < B) (hb : Below B w w') : Qx w' g c v :=
  ⟨(hb.cell hg).trans h.c0, (hb.cell hg).trans h.c1, (hb.cell hg).trans h.c2, (hb.cell hg).trans h.c3, (hb.cell hg).trans h.c4, (hb.cell hg).trans h.c5, Nat.lt_of_lt_of_le h.lt hb.size⟩
theorem Qx.new (w : World) (a b d e s : Int) (v : Value) (T : TypeId) : Qx (w.alloc (.cells #[.int .i64 a, .int .i64 b, .int .i64 d, .int .i64 e, .int .i64 s, v] T)) w.heap.size ⟨a, b, d, e, s⟩ v := ⟨by simp, by simp, by simp, by simp, by simp, by simp, by simp⟩

set_option maxRecDepth 1000000 in
set_option maxHeartbeats 1000000 in
theorem wMay (a b d e s : Int) (w : World) :
    Calls Try.prog 23 #[.agg #[.int .i64 a, .int .i64 b, .int .i64 d, .int .i64 e, .int .i64 s]] w fun x w' => x = .returned (.bool (mayC ⟨a, b, d, e, s⟩)) ∧ Below w.heap.size w w' := by
  have BB := Lib.hid ((Below.refl w.heap.size w).alloc (Nat.le_refl _) (.cells #[.int .i64 a, .int .i64 b, .int .i64 d, .int .i64 e, .int .i64 s] 23))
  go_enter Try.func23, Try.ntmps23
  go_wp2_with fail
  refine (wWithin _ _ _).mono ?_
  rintro e w1 ⟨rfl, rfl⟩
  cases h1 : inR a 8
  · have HF : Hid (false = mayC ⟨a, b, d, e, s⟩) := by
      show _ = _
      rw [eq_comm, ← Bool.not_eq_true, mayC_iff]
      rw [← Bool.not_eq_true, inR_iff] at h1
      simp only; omega
    clear h1
    go_wp2_with fail
    go_ret
    refine ⟨ret_bool ?_, BB.out⟩
    exact HF.out
  have H1 := Lib.hid (inR_iff.1 h1)
  clear h1
  go_wp2_with fail
  refine (wWithin _ _ _).mono ?_
  rintro e w1 ⟨rfl, rfl⟩
  cases h1 : inR e 4
  · have HF : Hid (false = mayC ⟨a, b, d, e, s⟩) := by
      show _ = _
      rw [eq_comm, ← Bool.not_eq_true, mayC_iff]
      rw [← Bool.not_eq_true, inR_iff] at h1
      simp only; omega
    clear h1
    go_wp2_with fail
    go_ret
    refine ⟨ret_bool ?_, BB.out⟩
    exact HF.out
  have H2 := Lib.hid (inR_iff.1 h1)
  clear h1
  go_wp2_with fail
  refine (wWithin _ _ _).mono ?_
  rintro e w1 ⟨rfl, rfl⟩
  cases h1 : inR s 16
  · have HF : Hid (false = mayC ⟨a, b, d, e, s⟩) := by
      show _ = _
      rw [eq_comm, ← Bool.not_eq_true, mayC_iff]
      rw [← Bool.not_eq_true, inR_iff] at h1
      simp only; omega
    clear h1
    go_wp2_with fail
    go_ret
    refine ⟨ret_bool ?_, BB.out⟩
    exact HF.out
  have H3 := Lib.hid (inR_iff.1 h1)
  clear h1
  go_wp2_with fail
  refine (wWithin _ _ _).mono ?_
  rintro e w1 ⟨rfl, rfl⟩
  cases h1 : inR b 6
  · have HF : Hid (false = mayC ⟨a, b, d, e, s⟩) := by
      show _ = _
      rw [eq_comm, ← Bool.not_eq_true, mayC_iff]
      rw [← Bool.not_eq_true, inR_iff] at h1
      simp only; omega
    clear h1
    go_wp2_with fail
    go_ret
    refine ⟨ret_bool ?_, BB.out⟩
    exact HF.out
  have H4 := Lib.hid (inR_iff.1 h1)
  clear h1
  go_wp2_with fail
  refine (wWithin _ _ _).mono ?_
  rintro e w1 ⟨rfl, rfl⟩
  cases h1 : inR d 6
  · have HF : Hid (false = mayC ⟨a, b, d, e, s⟩) := by
      show _ = _
      rw [eq_comm, ← Bool.not_eq_true, mayC_iff]
      rw [← Bool.not_eq_true, inR_iff] at h1
      simp only; omega
    clear h1
    go_wp2_with fail
    go_ret
    refine ⟨ret_bool ?_, BB.out⟩
    exact HF.out
  have H5 := Lib.hid (inR_iff.1 h1)
  clear h1
  have HF : Hid ((b != d) = mayC ⟨a, b, d, e, s⟩) := by
    show _ = _
    have := H1.out; have := H2.out; have := H3.out; have := H4.out; have := H5.out
    rw [Bool.eq_iff_iff, mayC_iff]
    simp only [bne_iff_ne, ne_eq]
    omega
  go_wp2_with fail
  all_goals (go_ret; refine ⟨ret_bool ?_, BB.out⟩; rw [← HF.out]; try simp_all)

set_option maxRecDepth 1000000 in
set_option maxHeartbeats 1000000 in
/-- 'func(m) bool { return len(m) > q.Channel.Size }', q in a box. -/
theorem wLong (A : Option Addr) (n c g : Nat) (ch : Ch) (v : Value) (m : List UInt8) (w : World) (hq : Qx w g ch v) (hm : m.length = n) :
    Calls Try.prog 34 #[.slice A n c, .pointer (some ⟨g, 0, none⟩)] w fun e w' => e = .returned (.bool (longM ch m)) ∧ w = w' := by
  obtain ⟨c0, c1, c2, c3, c4, c5, _⟩ := hq
  have HF : Hid (longM ch m = decide ((n : Int) > ch.size)) := by show _ = _; unfold longM; rw [hm]
  clear hm
  go_enter Try.func34, Try.ntmps34
  go_wp2
  all_goals (go_ret; refine ⟨ret_bool ?_, rfl⟩; rw [HF.out]; try simp_all)

/-- Where the first row stands that is too long; -1. -/
def firstLong (c : Ch) (l : List (List UInt8)) : Int := match l.findIdx? (longM c) with | some i => (i : Int) | none => -1
theorem firstLong_at {c : Ch} {l : List (List UInt8)} {i : Nat} (h : i < l.length) (hb : ∀ j, j < i → longM c (l.getD j []) = false) (hi : longM c (l.getD i []) = true) : firstLong c l = (i : Int) ∧ l.any (longM c) = true := by
  have e : l.findIdx? (longM c) = some i := by
    rw [List.findIdx?_eq_some_iff_getElem]
    refine ⟨h, ?_, fun j hj => ?_⟩
    · simpa [List.getD, List.getElem?_eq_getElem h] using hi
    · have := hb j hj
      simpa [List.getD, List.getElem?_eq_getElem (Nat.lt_trans hj h)] using this
  refine ⟨by simp [firstLong, e], ?_⟩
  rw [List.any_eq_true]
  exact ⟨l[i], List.getElem_mem h, by simpa [List.getD, List.getElem?_eq_getElem h] using hi⟩
theorem firstLong_none {c : Ch} {l : List (List UInt8)} (hb : ∀ j, j < l.length → longM c (l.getD j []) = false) : firstLong c l = -1 ∧ l.any (longM c) = false := by
  have e : l.any (longM c) = false := by
    rw [List.any_eq_false]
    intro x hx
    obtain ⟨i, hi, rfl⟩ := List.getElem_of_mem hx
    have := hb i hi
    simpa [List.getD, List.getElem?_eq_getElem hi] using this
  refine ⟨?_, e⟩
  have : l.findIdx? (longM c) = none := by
    rw [List.findIdx?_eq_none_iff]
    intro x hx
    rw [List.any_eq_false] at e
    simpa using e x hx
  simp [firstLong, this]

set_option maxRecDepth 1000000 in
set_option maxHeartbeats 1000000 in
/-- slices.IndexFunc at the rows, with that closure. -/
theorem wIndexM (A : Option Addr) (n c g : Nat) (ch : Ch) (v : Value) (l : List (List UInt8)) (w : World) (hS : RdS w w.heap.size A n l) (hn : n ≤ 140737488355328) (hq : Qx w g ch v) :
    Calls Try.prog 40 #[.slice A n c, .func (.func 34) #[] #[.pointer (some ⟨g, 0, none⟩)]] w fun e w' => e = .returned (.int .i64 (firstLong ch l)) ∧ w = w' := by
  have S := Lib.hid hS
  have Q := Lib.hid hq
  have HN := Lib.hid hn
  clear hS hq hn
  go_enter Try.func40, Try.ntmps40
  go_wp2
  go_loopw [5, 8] (fun s5 s8 wr => ∃ k : Nat, k ≤ n ∧ s8 = .int .i64 (k : Int) ∧ wr = w ∧ ∀ j, j < k → longM ch (l.getD j []) = false) (fun _ s8 _ => n - (intOf s8).toNat)
  case atStart => exact ⟨0, Nat.zero_le _, rfl, rfl, fun _ h => absurd h (Nat.not_lt_zero _)⟩
  case round =>
    obtain ⟨k, hk, rfl, rfl, hb⟩ := hrel
    have HB := Lib.hid hb
    clear hb
    by_cases hlt : k < n
    · have hltI : (k : Int) < (n : Int) := by omega
      have hkr : k ≤ 140737488355328 := by have := HN.out; omega
      obtain ⟨b, o, A', m, c', rfl, hcell, hrd⟩ := S.out.at_ hlt
      have HML := Lib.hid hrd.1
      clear hrd
      go_wp2_with fail
      refine (wLong A' m c' g ch v (l.getD k []) _ Q.out HML.out).mono ?_
      rintro e w1 ⟨rfl, rfl⟩
      cases hL : longM ch (l.getD k [])
      · have HL := Lib.hid hL
        clear hL
        go_wp2
        go_roundw
        case rel => exact ⟨k + 1, hlt, by go_num, by first | rfl | trivial, fun j hj => by
          rcases Nat.lt_succ_iff_lt_or_eq.1 hj with h | rfl
          · exact HB.out j h
          · exact HL.out⟩
        case measure => simp [intOf]; omega
      · have HF := Lib.hid (firstLong_at (c := ch) (l := l) (i := k) (by rw [S.out.1]; exact hlt) HB.out hL).1
        clear hL
        go_wp2
        go_ret
        exact ⟨by rw [HF.out]; rfl, rfl⟩
    · obtain rfl : k = n := by omega
      have HF := Lib.hid (firstLong_none (c := ch) (l := l) (fun j hj => HB.out j (by rw [S.out.1] at hj; exact hj))).1
      go_wp2
      go_ret
      exact ⟨by rw [HF.out]; rfl, rfl⟩
theorem firstLong_any (c : Ch) (l : List (List UInt8)) : decide (firstLong c l ≥ 0) = l.any (longM c) := by
  unfold firstLong
  cases h : l.findIdx? (longM c) with
  | none =>
    rw [List.findIdx?_eq_none_iff] at h
    have : l.any (longM c) = false := by rw [List.any_eq_false]; intro x hx; simpa using h x hx
    rw [this]; rfl
  | some i =>
    rw [List.findIdx?_eq_some_iff_getElem] at h
    obtain ⟨hi, h1, _⟩ := h
    have : l.any (longM c) = true := by rw [List.any_eq_true]; exact ⟨_, List.getElem_mem hi, h1⟩
    rw [this]; simp
set_option maxRecDepth 1000000 in
set_option maxHeartbeats 1000000 in
theorem wContainsM (A : Option Addr) (n c g : Nat) (ch : Ch) (v : Value) (l : List (List UInt8)) (w : World) (hS : RdS w w.heap.size A n l) (hn : n ≤ 140737488355328) (hq : Qx w g ch v) :
    Calls Try.prog 33 #[.slice A n c, .func (.func 34) #[] #[.pointer (some ⟨g, 0, none⟩)]] w fun e w' => e = .returned (.bool (l.any (longM ch))) ∧ w = w' := by
  have H := Lib.hid (wIndexM A n c g ch v l w hS hn hq)
  have HF := Lib.hid (firstLong_any ch l)
  clear hS hq hn
  go_enter Try.func33, Try.ntmps33
  go_wp2_with fail
  refine H.out.mono ?_
  rintro e w1 ⟨rfl, rfl⟩
  generalize firstLong ch l = f at *
  go_wp2
  all_goals (go_ret; refine ⟨ret_bool ?_, rfl⟩; rw [← HF.out]; try simp_all)
set_option maxRecDepth 1000000 in
set_option maxHeartbeats 1000000 in
theorem wMayQ (a b d e s : Int) (A : Option Addr) (n c : Nat) (l : List (List UInt8)) (w : World) (hS : RdS w w.heap.size A n l) (hn : n ≤ 140737488355328) :
    Calls Try.prog 24 #[.agg #[.int .i64 a, .int .i64 b, .int .i64 d, .int .i64 e, .int .i64 s, .slice A n c]] w fun x w' => x = .returned (.bool (mayQ ⟨a, b, d, e, s⟩ l)) ∧ Below w.heap.size w w' := by
  have B := Lib.hid ((Below.refl w.heap.size w).alloc (Nat.le_refl _) (.cells #[.int .i64 a, .int .i64 b, .int .i64 d, .int .i64 e, .int .i64 s, .slice A n c] 26))
  have Q := Lib.hid (Qx.new w a b d e s (.slice A n c) 26)
  have S := Lib.hid (hS.toX B.out)
  have HN := Lib.hid hn
  have HL := Lib.hid hS.1
  clear hS hn
  go_enter Try.func24, Try.ntmps24
  go_wp2_with fail
  refine (wMay a b d e s _).mono ?_
  rintro x w1 ⟨rfl, hb⟩
  replace Q := Lib.hid (Q.out.to hb)
  replace S := Lib.hid (S.out.toX hb)
  replace B := Lib.hid (B.out.trans (hb.mono B.out.size))
  clear hb
  obtain ⟨c0, c1, c2, c3, c4, c5, _⟩ := Q.out
  cases hm : mayC ⟨a, b, d, e, s⟩
  · have HF : Hid (mayQ ⟨a, b, d, e, s⟩ l = false) := by show _ = _; unfold mayQ; rw [hm]; rfl
    clear hm
    go_wp2_with fail
    go_ret
    exact ⟨by rw [HF.out]; rfl, B.out⟩
  have HM := Lib.hid hm
  clear hm
  by_cases hc : (n : Int) > e
  · have HF : Hid (mayQ ⟨a, b, d, e, s⟩ l = false) := by
      show _ = _
      unfold mayQ
      rw [decide_eq_false (by rw [HL.out]; simp only; omega)]
      simp
    go_wp2_with fail
    go_ret
    exact ⟨by rw [HF.out]; rfl, B.out⟩
  · have HF : Hid (mayQ ⟨a, b, d, e, s⟩ l = !l.any (longM ⟨a, b, d, e, s⟩)) := by
      show _ = _
      unfold mayQ
      rw [HM.out, decide_eq_true (by rw [HL.out]; simp only; omega)]
      simp
    go_wp2_with fail
    refine (wContainsM A n c w.heap.size ⟨a, b, d, e, s⟩ (.slice A n c) l _ S.out HN.out Q.out).mono ?_
    rintro x w2 ⟨rfl, rfl⟩
    generalize l.any (longM ⟨a, b, d, e, s⟩) = y at *
    go_wp2_with fail
    go_ret
    exact ⟨ret_bool (by rw [HF.out]), B.out⟩
end Go.Proofs.Ytkaobafgecoomaa
