/- The library's IndexFunc, ContainsFunc at partitions and channels; the program's Can, Part's and Channel's search. -/
import Derived.Test.YtljgliagciblbaaCfW
import Derived.Test.YtljgliagciblbaaCfS
import Derived.Deep.Cut
namespace Go.Proofs.Ytljgliagciblbaa
open Go.RowKit
set_option linter.unusedVariables false
set_option linter.unusedSimpArgs false

theorem enter_of {P : Program} {f : FuncId} {fn : Func} {c : Code} (hf : P.funcs[f]? = some fn) (hname : (fn.name == "runtime.NumGoroutine") = false) (hb : fn.body = some c) (args : Array Value) (w : World) :
    (callFunc f args).run P w = .ok (.enter f args) w := by
  have h1 : fn.name ≠ "runtime.NumGoroutine" := by simpa using hname
  simp [callFunc, hf, h1, hb]
/-- The first index at which p holds; -1: none. -/
def idxB (p : Nat → Bool) (n : Nat) : Int := match (List.range n).findIdx? p with | some i => (i : Int) | none => -1
theorem idxB_at {p : Nat → Bool} {n k : Nat} (h : k < n) (hb : ∀ j, j < k → p j = false) (hk : p k = true) : idxB p n = (k : Int) := by
  have e : (List.range n).findIdx? p = some k := by
    rw [List.findIdx?_eq_some_iff_getElem]
    refine ⟨by simpa using h, by simpa using hk, fun j hj => by simpa using hb j hj⟩
  unfold idxB
  rw [e]
theorem idxB_none {p : Nat → Bool} {n : Nat} (hb : ∀ j, j < n → p j = false) : idxB p n = -1 := by
  have e : (List.range n).findIdx? p = none := by
    rw [List.findIdx?_eq_none_iff]
    intro x hx
    simpa using hb x (List.mem_range.1 hx)
  unfold idxB
  rw [e]
theorem idxB_cases (p : Nat → Bool) (n : Nat) : (∃ k, k < n ∧ (∀ j, j < k → p j = false) ∧ p k = true ∧ idxB p n = (k : Int)) ∨ ((∀ j, j < n → p j = false) ∧ idxB p n = -1) := by
  induction n with
  | zero => exact .inr ⟨fun _ h => absurd h (Nat.not_lt_zero _), idxB_none fun _ h => absurd h (Nat.not_lt_zero _)⟩
  | succ n ih =>
    rcases ih with ⟨k, h1, h2, h3, _⟩ | ⟨h1, _⟩
    · exact .inl ⟨k, by omega, h2, h3, idxB_at (by omega) h2 h3⟩
    · cases hp : p n with
      | true => exact .inl ⟨n, by omega, h1, hp, idxB_at (by omega) h1 hp⟩
      | false =>
        have h : ∀ j, j < n + 1 → p j = false := fun j hj => by
          rcases Nat.lt_or_ge j n with g | g
          · exact h1 j g
          · obtain rfl : j = n := by omega
            exact hp
        exact .inr ⟨h, idxB_none h⟩
/-- What a function that is asked at each partition of a list says. -/
def PredP (w : World) (g : FuncId) (lb : Array Value) (n : Nat) (l : List Pt) (p : Nat → Bool) : Prop :=
  ∀ k, k < n → ∀ (A : Option Addr) (m c : Nat) (W : World), Below w.heap.size w W → Rd W W.heap.size A m (ptAt l k).img → Calls Try.prog g (#[.agg #[.int .i64 (ptAt l k).id, .int .i64 (ptAt l k).base, .int .i64 (ptAt l k).size, .bool (ptAt l k).keep, .slice A m c]] ++ lb) W fun e w' => e = .returned (.bool (p k)) ∧ Below W.heap.size W w'
def PredC (w : World) (g : FuncId) (lb : Array Value) (n : Nat) (l : List Ch) (p : Nat → Bool) : Prop :=
  ∀ k, k < n → ∀ W : World, Below w.heap.size w W → Calls Try.prog g (#[.agg #[.int .i64 (chAt l k).id, .int .i64 (chAt l k).fr, .int .i64 (chAt l k).dst, .int .i64 (chAt l k).cap, .int .i64 (chAt l k).size]] ++ lb) W fun e w' => e = .returned (.bool (p k)) ∧ Below W.heap.size W w'
set_option maxRecDepth 1000000 in
set_option maxHeartbeats 1000000 in
theorem wIndexP (g : FuncId) (lb : Array Value) (eg : ∀ args w, (callFunc g args).run Try.prog w = .ok (.enter g args) w) (p : Nat → Bool) (A : Option Addr) (n c : Nat) (l : List Pt) (w : World)
    (hp : PredP w g lb n l p) (h : RdP w w.heap.size A n l) (hn : n ≤ 1000) :
    Calls Try.prog 61 #[.slice A n c, .func (.func g) #[] lb] w fun e w' => e = .returned (.int .i64 (idxB p n)) ∧ Below w.heap.size w w' := by
  have R := Lib.hid h
  have HP := Lib.hid hp
  have HN := Lib.hid hn
  clear h hp hn
  go_enter Try.func61, Try.ntmps61
  go_wp2_with fail
  go_loopw [5, 8] (fun s5 s8 wr => ∃ k : Nat, k ≤ n ∧ s8 = .int .i64 (k : Int) ∧ Below w.heap.size w wr ∧ ∀ j, j < k → p j = false) (fun _ s8 _ => n - (intOf s8).toNat)
  case atStart => exact ⟨0, Nat.zero_le _, rfl, Below.refl _ _, fun _ h => absurd h (Nat.not_lt_zero _)⟩
  case round =>
    obtain ⟨k, hk, rfl, hb, hno⟩ := hrel
    have B := Lib.hid hb
    have NO := Lib.hid hno
    have HK := Lib.hid hk
    clear hb hno hk
    by_cases hlt : k < n
    · have hltI : (k : Int) < (n : Int) := by omega
      have hwk : IntKind.i64.wrap ((k : Int) + 1) = (k : Int) + 1 := by have := HN.out; rw [IntKind.wrap_i64]; omega
      have HLT : Hid (k < n) := hlt
      obtain ⟨bb, o, A', m, c', hA, z0, z1, z2, z3, z4, hrd, _, _⟩ := (R.out.to B.out).at_ hlt
      have HRD := Lib.hid hrd
      rw [hA]
      clear hrd
      go_wp2_with fail
      refine (HP.out k HLT.out A' m c' wr B.out HRD.out).mono ?_
      rintro e w1 ⟨rfl, hb1⟩
      have B1 := Lib.hid (B.out.trans (hb1.mono B.out.size))
      clear hb1 z0 z1 z2 z3 z4
      cases hpk : p k
      · have HPK := Lib.hid hpk
        clear hpk
        go_wp2_with fail
        go_roundw
        case rel => exact ⟨k + 1, HLT.out, by go_num, B1.out, fun j hj => by
          rcases Nat.lt_or_ge j k with g | g
          · exact NO.out j g
          · obtain rfl : j = k := by omega
            exact HPK.out⟩
        case measure => simp [intOf]; omega
      · have HPK := Lib.hid hpk
        clear hpk
        go_wp2_with fail
        go_ret
        exact ⟨by rw [idxB_at HLT.out NO.out HPK.out]; rfl, B1.out⟩
    · obtain rfl : k = n := by have := HK.out; omega
      go_wp2_with fail
      go_ret
      exact ⟨by rw [idxB_none NO.out]; rfl, B.out⟩
set_option maxRecDepth 1000000 in
set_option maxHeartbeats 1000000 in
theorem wIndexC (g : FuncId) (lb : Array Value) (eg : ∀ args w, (callFunc g args).run Try.prog w = .ok (.enter g args) w) (p : Nat → Bool) (A : Option Addr) (n c : Nat) (l : List Ch) (w : World)
    (hp : PredC w g lb n l p) (h : RdC w w.heap.size A n l) (hn : n ≤ 1000) :
    Calls Try.prog 64 #[.slice A n c, .func (.func g) #[] lb] w fun e w' => e = .returned (.int .i64 (idxB p n)) ∧ Below w.heap.size w w' := by
  have R := Lib.hid h
  have HP := Lib.hid hp
  have HN := Lib.hid hn
  clear h hp hn
  go_enter Try.func64, Try.ntmps64
  go_wp2_with fail
  go_loopw [5, 8] (fun s5 s8 wr => ∃ k : Nat, k ≤ n ∧ s8 = .int .i64 (k : Int) ∧ Below w.heap.size w wr ∧ ∀ j, j < k → p j = false) (fun _ s8 _ => n - (intOf s8).toNat)
  case atStart => exact ⟨0, Nat.zero_le _, rfl, Below.refl _ _, fun _ h => absurd h (Nat.not_lt_zero _)⟩
  case round =>
    obtain ⟨k, hk, rfl, hb, hno⟩ := hrel
    have B := Lib.hid hb
    have NO := Lib.hid hno
    have HK := Lib.hid hk
    clear hb hno hk
    by_cases hlt : k < n
    · have hltI : (k : Int) < (n : Int) := by omega
      have hwk : IntKind.i64.wrap ((k : Int) + 1) = (k : Int) + 1 := by have := HN.out; rw [IntKind.wrap_i64]; omega
      have HLT : Hid (k < n) := hlt
      obtain ⟨bb, o, hA, z0, z1, z2, z3, z4⟩ := (R.out.to B.out).at_ hlt
      rw [hA]
      go_wp2_with fail
      refine (HP.out k HLT.out wr B.out).mono ?_
      rintro e w1 ⟨rfl, hb1⟩
      have B1 := Lib.hid (B.out.trans (hb1.mono B.out.size))
      clear hb1 z0 z1 z2 z3 z4
      cases hpk : p k
      · have HPK := Lib.hid hpk
        clear hpk
        go_wp2_with fail
        go_roundw
        case rel => exact ⟨k + 1, HLT.out, by go_num, B1.out, fun j hj => by
          rcases Nat.lt_or_ge j k with g | g
          · exact NO.out j g
          · obtain rfl : j = k := by omega
            exact HPK.out⟩
        case measure => simp [intOf]; omega
      · have HPK := Lib.hid hpk
        clear hpk
        go_wp2_with fail
        go_ret
        exact ⟨by rw [idxB_at HLT.out NO.out HPK.out]; rfl, B1.out⟩
    · obtain rfl : k = n := by have := HK.out; omega
      go_wp2_with fail
      go_ret
      exact ⟨by rw [idxB_none NO.out]; rfl, B.out⟩
end Go.Proofs.Ytljgliagciblbaa
