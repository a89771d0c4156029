/- Contracts of the document's own functions of layer 11, part one: Can, Part, Channel, SamePart, Same. -/
import Derived.Test.YtecedmjhhaabgaaCfO
import Derived.Deep.Cut
namespace Go.Proofs.Ytecedmjhhaabgaa
open Go.RowKit
set_option linter.unusedVariables false
set_option linter.unusedSimpArgs false

/-- Does a partition's image have its room? -/
def imgOk (p : Pt) : Bool := decide (p.img.length ≤ 512)
def canC (c : Cf) : Bool := c.ps.all imgOk && decide (c.ws.length ≤ 12) && decide (c.ps.length ≤ 6) && decide (c.cs.length ≤ 8)
theorem all_false_at {l : List Pt} {i : Nat} (h : i < l.length) (hi : imgOk (ptAt l i) = false) : l.all imgOk = false := by
  rw [List.all_eq_false]
  exact ⟨l[i], List.getElem_mem h, by rw [← ptAt_lt h, hi]; simp⟩
theorem all_true_of {l : List Pt} (h : ∀ j, j < l.length → imgOk (ptAt l j) = true) : l.all imgOk = true := by
  rw [List.all_eq_true]
  intro x hx
  obtain ⟨i, hi, rfl⟩ := List.getElem_of_mem hx
  rw [← ptAt_lt hi]; exact h i hi
/-- Where the first partition stands that has that ID; -1. -/
def findP (l : List Pt) (id : Int) : Int := match l.findIdx? (fun p => p.id == id) with | some i => (i : Int) | none => -1
theorem findP_at {l : List Pt} {id : Int} {i : Nat} (h : i < l.length) (hb : ∀ j, j < i → (ptAt l j).id ≠ id) (hi : (ptAt l i).id = id) : findP l id = (i : Int) := by
  have e : l.findIdx? (fun p => p.id == id) = some i := by
    rw [List.findIdx?_eq_some_iff_getElem]
    refine ⟨h, ?_, fun j hj => ?_⟩
    · rw [← ptAt_lt h, hi]; simp
    · rw [← ptAt_lt (Nat.lt_trans hj h)]; simpa using hb j hj
  simp [findP, e]
theorem findP_none {l : List Pt} {id : Int} (hb : ∀ j, j < l.length → (ptAt l j).id ≠ id) : findP l id = -1 := by
  have : l.findIdx? (fun p => p.id == id) = none := by
    rw [List.findIdx?_eq_none_iff]
    intro x hx
    obtain ⟨i, hi, rfl⟩ := List.getElem_of_mem hx
    rw [← ptAt_lt hi]; simpa using hb i hi
  simp [findP, this]
set_option maxRecDepth 1000000 in
set_option maxHeartbeats 1000000 in
theorem rPartOf (v : CV) (c : Cf) (id : Int) (w : World) (h : RdCf w w.heap.size v c) (hp : v.np ≤ 1000) :
    Calls Try.prog 34 #[.agg #[.slice v.aw v.nw v.kw, .slice v.ap v.np v.kp, .slice v.ac v.nc v.kc], .int .i64 id] w fun x w' => x = .returned (.int .i64 (findP c.ps id)) ∧ Below w.heap.size w w' := by
  have hb := (Below.refl w.heap.size w).alloc (Nat.le_refl _) (.cells #[.slice v.aw v.nw v.kw, .slice v.ap v.np v.kp, .slice v.ac v.nc v.kc] 26)
  have B := Lib.hid hb
  have X := Lib.hid (Cfx.new w v 26)
  have R := Lib.hid (h.to hb)
  have HP := Lib.hid h.pp.1
  have HN := Lib.hid hp
  clear h hb hp
  go_enter Try.func34, Try.ntmps34
  go_wp2_with fail
  generalize w.alloc (.cells #[.slice v.aw v.nw v.kw, .slice v.ap v.np v.kp, .slice v.ac v.nc v.kc] 26) = w1 at *
  obtain ⟨x0, x1, x2, _⟩ := X.out
  go_loopw [5] (fun s5 wr => ∃ k : Nat, k ≤ v.np ∧ s5 = .int .i64 (k : Int) ∧ wr = w1 ∧ ∀ j, j < k → (ptAt c.ps j).id ≠ id) (fun s5 _ => v.np - (intOf s5).toNat)
  case atStart => exact ⟨0, Nat.zero_le _, rfl, rfl, fun _ h => absurd h (Nat.not_lt_zero _)⟩
  case round =>
    obtain ⟨k, hk, rfl, rfl, hb⟩ := hrel
    have HB := Lib.hid hb
    clear hb
    by_cases hlt : k < v.np
    · have hltI : (k : Int) < (v.np : Int) := by omega
      have HLT : Hid (k < v.np) := hlt
      have hwk : IntKind.i64.wrap ((k : Int) + 1) = (k : Int) + 1 := by have := HN.out; rw [IntKind.wrap_i64]; omega
      obtain ⟨bb, o, A', m, c', hA, y0, y1, y2, y3, y4, _, _, _⟩ := R.out.pp.at_ hlt
      rw [hA] at x1 ⊢
      clear hk hA
      obtain ⟨z, hz⟩ : ∃ z, (ptAt c.ps k).id = z := ⟨_, rfl⟩
      rw [hz] at y0
      by_cases hid : z = id
      · subst hid
        have HF := Lib.hid (findP_at (l := c.ps) (i := k) (by rw [HP.out]; exact hlt) (fun j hj => HB.out j hj) hz)
        clear hz
        go_wp2_with fail
        go_ret
        exact ⟨by rw [HF.out]; rfl, B.out⟩
      · have HX : Hid ((ptAt c.ps k).id ≠ id) := by show _ ≠ _; rw [hz]; exact hid
        clear hz
        go_wp2_with fail
        go_roundw
        case rel => exact ⟨k + 1, HLT.out, by go_num, by first | rfl | trivial, fun j hj => by
          rcases Nat.lt_succ_iff_lt_or_eq.1 hj with h | rfl
          · exact HB.out j h
          · exact HX.out⟩
        case measure => have := HLT.out; simp [intOf]; omega
    · have hkn : k = v.np := by omega
      have hltI : ¬ (k : Int) < (v.np : Int) := by omega
      have HF := Lib.hid (findP_none (l := c.ps) (id := id) (fun j hj => HB.out j (by rw [hkn, ← HP.out]; exact hj)))
      clear hk hlt hkn
      go_wp2_with fail
      go_ret
      exact ⟨by rw [HF.out]; rfl, B.out⟩
/-- Where the first channel stands that has that ID; -1. -/
def findC (l : List Ch) (id : Int) : Int := match l.findIdx? (fun p => p.id == id) with | some i => (i : Int) | none => -1
theorem findC_at {l : List Ch} {id : Int} {i : Nat} (h : i < l.length) (hb : ∀ j, j < i → (chAt l j).id ≠ id) (hi : (chAt l i).id = id) : findC l id = (i : Int) := by
  have e : l.findIdx? (fun p => p.id == id) = some i := by
    rw [List.findIdx?_eq_some_iff_getElem]
    refine ⟨h, ?_, fun j hj => ?_⟩
    · rw [← chAt_lt h, hi]; simp
    · rw [← chAt_lt (Nat.lt_trans hj h)]; simpa using hb j hj
  simp [findC, e]
theorem findC_none {l : List Ch} {id : Int} (hb : ∀ j, j < l.length → (chAt l j).id ≠ id) : findC l id = -1 := by
  have : l.findIdx? (fun p => p.id == id) = none := by
    rw [List.findIdx?_eq_none_iff]
    intro x hx
    obtain ⟨i, hi, rfl⟩ := List.getElem_of_mem hx
    rw [← chAt_lt hi]; simpa using hb i hi
  simp [findC, this]
set_option maxRecDepth 1000000 in
set_option maxHeartbeats 1000000 in
theorem rChannelOf (v : CV) (c : Cf) (id : Int) (w : World) (h : RdCf w w.heap.size v c) (hp : v.nc ≤ 1000) :
    Calls Try.prog 50 #[.agg #[.slice v.aw v.nw v.kw, .slice v.ap v.np v.kp, .slice v.ac v.nc v.kc], .int .i64 id] w fun x w' => x = .returned (.int .i64 (findC c.cs id)) ∧ Below w.heap.size w w' := by
  have hb := (Below.refl w.heap.size w).alloc (Nat.le_refl _) (.cells #[.slice v.aw v.nw v.kw, .slice v.ap v.np v.kp, .slice v.ac v.nc v.kc] 26)
  have B := Lib.hid hb
  have X := Lib.hid (Cfx.new w v 26)
  have R := Lib.hid (h.to hb)
  have HP := Lib.hid h.cc.1
  have HN := Lib.hid hp
  clear h hb hp
  go_enter Try.func50, Try.ntmps50
  go_wp2_with fail
  generalize w.alloc (.cells #[.slice v.aw v.nw v.kw, .slice v.ap v.np v.kp, .slice v.ac v.nc v.kc] 26) = w1 at *
  obtain ⟨x0, x1, x2, _⟩ := X.out
  go_loopw [5] (fun s5 wr => ∃ k : Nat, k ≤ v.nc ∧ s5 = .int .i64 (k : Int) ∧ wr = w1 ∧ ∀ j, j < k → (chAt c.cs j).id ≠ id) (fun s5 _ => v.nc - (intOf s5).toNat)
  case atStart => exact ⟨0, Nat.zero_le _, rfl, rfl, fun _ h => absurd h (Nat.not_lt_zero _)⟩
  case round =>
    obtain ⟨k, hk, rfl, rfl, hb⟩ := hrel
    have HB := Lib.hid hb
    clear hb
    by_cases hlt : k < v.nc
    · have hltI : (k : Int) < (v.nc : Int) := by omega
      have HLT : Hid (k < v.nc) := hlt
      have hwk : IntKind.i64.wrap ((k : Int) + 1) = (k : Int) + 1 := by have := HN.out; rw [IntKind.wrap_i64]; omega
      obtain ⟨bb, o, hA, y0, y1, y2, y3, y4⟩ := R.out.cc.at_ hlt
      rw [hA] at x2 ⊢
      clear hk hA
      obtain ⟨z, hz⟩ : ∃ z, (chAt c.cs k).id = z := ⟨_, rfl⟩
      rw [hz] at y0
      by_cases hid : z = id
      · subst hid
        have HF := Lib.hid (findC_at (l := c.cs) (i := k) (by rw [HP.out]; exact hlt) (fun j hj => HB.out j hj) hz)
        clear hz
        go_wp2_with fail
        go_ret
        exact ⟨by rw [HF.out]; rfl, B.out⟩
      · have HX : Hid ((chAt c.cs k).id ≠ id) := by show _ ≠ _; rw [hz]; exact hid
        clear hz
        go_wp2_with fail
        go_roundw
        case rel => exact ⟨k + 1, HLT.out, by go_num, by first | rfl | trivial, fun j hj => by
          rcases Nat.lt_succ_iff_lt_or_eq.1 hj with h | rfl
          · exact HB.out j h
          · exact HX.out⟩
        case measure => have := HLT.out; simp [intOf]; omega
    · have hkn : k = v.nc := by omega
      have hltI : ¬ (k : Int) < (v.nc : Int) := by omega
      have HF := Lib.hid (findC_none (l := c.cs) (id := id) (fun j hj => HB.out j (by rw [hkn, ← HP.out]; exact hj)))
      clear hk hlt hkn
      go_wp2_with fail
      go_ret
      exact ⟨by rw [HF.out]; rfl, B.out⟩
theorem canC_iff {c : Cf} : canC c = true ↔ (∀ p ∈ c.ps, p.img.length ≤ 512) ∧ c.ws.length ≤ 12 ∧ c.ps.length ≤ 6 ∧ c.cs.length ≤ 8 := by
  simp only [canC, imgOk, Bool.and_eq_true, List.all_eq_true, decide_eq_true_eq, and_assoc]
end Go.Proofs.Ytecedmjhhaabgaa
