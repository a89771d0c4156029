/- Contracts of the statements' own row and same (citadellaw03): a state as a row of numbers; is a state what a row says? -/
import Derived.Test.YtbgcnhhdgnalgaaDoorShaRefE
import Derived.Test.YtbgcnhhdgnalgaaDoorOpen
namespace Go.Proofs.YtbgcnhhdgnalgaaDoor
open Go.RowKit
set_option linter.unusedVariables false

/-- The cells of an array of numbers. -/
def arrN (k : IntKind) (xs : List Nat) : Array Value := (xs.map (kv k)).toArray
theorem arrN_size (k : IntKind) (xs : List Nat) : (arrN k xs).size = xs.length := by simp [arrN]
theorem arrN_at {k : IntKind} {xs : List Nat} {j : Nat} (h : j < xs.length) : (arrN k xs)[j]? = some (.int k (nx xs j : Int)) := by
  simp [arrN, h, nx_of_lt h, kv]
theorem arrN_one (k : IntKind) (xs : List Nat) : (arrN k xs).all (·.oneCell') = true := by
  rw [Array.all_eq_true]
  intro i hi
  simp [arrN, kv]
  rfl

def RowRel3 (w : World) (s : List Nat) (v i : Value) (wr : World) : Prop :=
  ∃ k : Nat, k ≤ 8 ∧ i = .int .i64 (k : Int) ∧ wr.ownsRow (w.heap.size + 1) 22 1 v k ((s.take k).map (kv .u32)) ∧ wr.heap[w.heap.size]? = some (.cells (arrN .u32 s) 24 (0, 0)) ∧ Below (w.heap.size + 1) (w.alloc (.cells (arrN .u32 s) 24)) wr

set_option maxRecDepth 100000 in
set_option maxHeartbeats 1000000 in
theorem lRow (s : List Nat) (w : World) (hs : s.length = 8) :
    Calls Tryd.prog 16 #[.agg (arrN .u32 s)] w fun e w' => RetK .u32 22 w s e w' := by
  have HS := Lib.hid hs
  clear hs
  go_enter Tryd.func16, Tryd.ntmps16
  go_wp2
  go_loopw [3, 4] (fun v i wr => RowRel3 w s v i wr) (fun _ i _ => 8 - (intOf i).toNat)
  case atStart => exact ⟨0, Nat.zero_le _, rfl, by simpa using World.ownsRow_nil _ _ 22 1, heap_alloc_last w _, Below.refl _ _⟩
  case round =>
    obtain ⟨k, hk, rfl, hown, hh, hb⟩ := hrel
    have HO := Lib.hid hown
    have HH := Lib.hid hh
    have HB := Lib.hid hb
    have HK := Lib.hid hk
    have hsz : w.heap.size + 1 ≤ wr.heap.size := by have := hb.size; simpa using this
    clear hown hh hb hk
    by_cases h8 : (k : Int) < 8
    · have hcell : wr.cell? ⟨w.heap.size, k, none⟩ = some (.int .u32 (nx s k : Int)) := by
        rw [cell_of_row _ _ k _ _ (0, 0) HH.out]
        exact arrN_at (by rw [HS.out]; omega)
      have HE : Hid (s.take (k + 1) = s.take k ++ [nx s k]) := by
        show _ = _
        rw [List.take_succ_eq_append_getElem (by rw [HS.out]; omega), nx_of_lt (by rw [HS.out]; omega)]
      generalize nx s k = y at *
      go_wp2_with (at_builtin; refine wpList_pushK isU32 rfl _ _ rfl rfl rfl HO.out HB.out hsz (by have := HK.out; omega) y rfl ?_; intro v1 w1 hown1 hbel1 hsz1)
      go_roundw
      case rel =>
        refine ⟨k + 1, by omega, by go_num, by rw [HE.out]; exact hown1, ?_, hbel1⟩
        rw [hbel1.block _ (Nat.lt_succ_self _)]; exact heap_alloc_last w _
      case measure => simp [intOf]; omega
    · obtain rfl : k = 8 := by have := HK.out; omega
      have e : s.take 8 = s := List.take_of_length_le (by rw [HS.out]; exact Nat.le_refl _)
      have h := HO.out
      rw [e] at h
      have h1 := Lib.hid (own_mono h (Nat.le_succ _))
      have h2 : Hid (Below w.heap.size w wr) := ((Below.refl w.heap.size w).alloc (Nat.le_refl _) _).trans (HB.out.mono (Nat.le_succ _))
      clear h e
      go_wp2
      go_ret
      exact RetK.mk h1.out h2.out

def SameRel (w : World) (s l : List Nat) (i : Value) (wr : World) : Prop :=
  ∃ k : Nat, k ≤ 8 ∧ i = .int .i64 (k : Int) ∧ s.take k = l.take k ∧ ∃ q, wr = (w.alloc (.cells (arrN .u32 s) 24)).drewN q

set_option maxRecDepth 100000 in
set_option maxHeartbeats 1000000 in
theorem lSame (A : Option Addr) (c : Nat) (s l : List Nat) (w : World) (hs : s.length = 8) (hl : RdK .u32 w w.heap.size A 8 l) :
    Calls Tryd.prog 11 #[.agg (arrN .u32 s), .slice A 8 c] w fun e w' => e = .returned (.bool (decide (s = l))) ∧ Below w.heap.size w w' := by
  have HS := Lib.hid hs
  have hb : Below w.heap.size w (w.alloc (.cells (arrN .u32 s) 24)) := (Below.refl _ _).alloc (Nat.le_refl _) _
  have HB := Lib.hid hb
  have HL := Lib.hid (hl.below hb)
  obtain ⟨b, o, rfl, hbo, hcl⟩ := HL.out.2 (by decide)
  have HC := Lib.hid hcl
  have HA : Hid (∀ k, k < 8 → (w.alloc (.cells (arrN .u32 s) 24)).cell? ⟨w.heap.size, k, none⟩ = some (.int .u32 (nx s k : Int))) := fun k hk => by
    rw [cell_of_row _ _ k _ _ (0, 0) (heap_alloc_last w _)]
    exact arrN_at (by rw [hs]; exact hk)
  clear hl hb hcl hs
  go_enter Tryd.func11, Tryd.ntmps11
  go_wp2
  go_loopw [5] (fun i wr => SameRel w s l i wr) (fun i _ => 8 - (intOf i).toNat)
  case atStart => exact ⟨0, Nat.zero_le _, rfl, rfl, 0, rfl⟩
  case round =>
    obtain ⟨k, hk, rfl, ht, q, rfl⟩ := hrel
    have HK := Lib.hid hk
    have HT := Lib.hid ht
    clear hk ht
    generalize hw1 : w.alloc (.cells (arrN .u32 s) 24) = w1 at *
    have HW := Lib.hid hw1
    clear hw1
    by_cases h8 : (k : Int) < 8
    · have f1 := HA.out k (by omega)
      have f2 := HC.out k (by omega)
      have hk1 : k < s.length := by rw [HS.out]; omega
      have hk2 : k < l.length := by rw [HL.out.1]; omega
      have HE : Hid (s.take (k + 1) = s.take k ++ [nx s k] ∧ l.take (k + 1) = l.take k ++ [nx l k]) := by
        constructor
        · rw [List.take_succ_eq_append_getElem hk1, nx_of_lt hk1]
        · rw [List.take_succ_eq_append_getElem hk2, nx_of_lt hk2]
      have HN : nx s k ≠ nx l k → Hid (decide (s = l) = false) := fun h => decide_eq_false fun e => h (by rw [e])
      have hg : ¬ ((8 : Int) ≤ (k : Int)) := by omega
      have hg2 : decide ((8 : Int) ≤ (k : Int)) = false := decide_eq_false hg
      clear hk1 hk2
      generalize nx s k = x at *
      generalize nx l k = y at *
      by_cases hxy : x = y
      · subst hxy
        clear HN
        go_wp2_with fail
        go_quiet (fail)
        go_wp2_with fail
        go_roundw
        case rel => exact ⟨k + 1, by omega, by go_num, by rw [HE.out.1, HE.out.2, HT.out], _, by rw [HW.out]⟩
        case measure => simp [intOf]; omega
      · have HD := HN hxy
        have hne : ((x : Int) == (y : Int)) = false := by simp; omega
        have hne2 : ((x : Int) != (y : Int)) = true := by simp; omega
        clear HN
        go_wp2_with fail
        go_quiet (fail)
        go_wp2_with fail
        go_ret
        rw [HD.out]
        exact ⟨rfl, below_drewN (below_drewN HB.out _) _⟩
    · obtain rfl : k = 8 := by have := HK.out; omega
      have HD : Hid (decide (s = l) = true) := decide_eq_true (by
        have h := HT.out
        rw [List.take_of_length_le (by rw [HS.out]; exact Nat.le_refl _), List.take_of_length_le (by rw [HL.out.1]; exact Nat.le_refl _)] at h
        exact h)
      go_wp2_with fail
      go_ret
      rw [HD.out]
      exact ⟨rfl, below_drewN HB.out _⟩
end Go.Proofs.YtbgcnhhdgnalgaaDoor
