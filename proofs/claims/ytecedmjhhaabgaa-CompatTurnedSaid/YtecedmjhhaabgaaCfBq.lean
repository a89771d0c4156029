/- Several texts in one (a claim has 60 files at most): CfQ, CfA, CfB. -/
import Derived.Test.YtecedmjhhaabgaaCfWq
import Derived.Test.YtecedmjhhaabgaaCfS
import Derived.Deep.Cut
import Derived.Test.YtecedmjhhaabgaaBClone
import Derived.Test.YtecedmjhhaabgaaCfR
namespace Go.Proofs.Ytecedmjhhaabgaa

/- The library's IndexFunc, ContainsFunc at partitions and channels; the program's Can, Part's and Channel's search. -/
section
open Go.RowKit
set_option linter.unusedVariables false
set_option linter.unusedSimpArgs false

theorem enter_of {P : Program} {f : FuncId} {fn : Func} {c : Code} (hf : P.funcs[f]? = some fn) (hname : (fn.name == "runtime.NumGoroutine") = false) (hb : fn.body = some c) (args : Array Value) (w : World) :
    (callFunc f args).run P w = .ok (.enter f args) w := by
  have h1 : fn.name ≠ "runtime.NumGoroutine" := by simpa using hname
  simp [callFunc, hf, h1, hb]
/-- The first index at which p holds; -1: none. -/
def idxB (p : Nat → Bool) (n : Nat) : Int := match (List.range n).findIdx? p with | some i => (i : Int) | none => -1
theorem idxB_at {p : Nat → Bool} {n k : Nat} (h : k < n) (hb : ∀ j, j < k → p j = false) (hk : p k = true) : idxB p n = (k : Int) := by
  have e : (List.range n).findIdx? p = some k := by
    rw [List.findIdx?_eq_some_iff_getElem]
    refine ⟨by simpa using h, by simpa using hk, fun j hj => by simpa using hb j hj⟩
  unfold idxB
  rw [e]
theorem idxB_none {p : Nat → Bool} {n : Nat} (hb : ∀ j, j < n → p j = false) : idxB p n = -1 := by
  have e : (List.range n).findIdx? p = none := by
    rw [List.findIdx?_eq_none_iff]
    intro x hx
    simpa using hb x (List.mem_range.1 hx)
  unfold idxB
  rw [e]
theorem idxB_cases (p : Nat → Bool) (n : Nat) : (∃ k, k < n ∧ (∀ j, j < k → p j = false) ∧ p k = true ∧ idxB p n = (k : Int)) ∨ ((∀ j, j < n → p j = false) ∧ idxB p n = -1) := by
  induction n with
  | zero => exact .inr ⟨fun _ h => absurd h (Nat.not_lt_zero _), idxB_none fun _ h => absurd h (Nat.not_lt_zero _)⟩
  | succ n ih =>
    rcases ih with ⟨k, h1, h2, h3, _⟩ | ⟨h1, _⟩
    · exact .inl ⟨k, by omega, h2, h3, idxB_at (by omega) h2 h3⟩
    · cases hp : p n with
      | true => exact .inl ⟨n, by omega, h1, hp, idxB_at (by omega) h1 hp⟩
      | false =>
        have h : ∀ j, j < n + 1 → p j = false := fun j hj => by
          rcases Nat.lt_or_ge j n with g | g
          · exact h1 j g
          · obtain rfl : j = n := by omega
            exact hp
        exact .inr ⟨h, idxB_none h⟩
/-- What a function that is asked at each partition of a list says. -/
def PredP (w : World) (g : FuncId) (lb : Array Value) (n : Nat) (l : List Pt) (p : Nat → Bool) : Prop :=
  ∀ k, k < n → ∀ (A : Option Addr) (m c : Nat) (W : World), Below w.heap.size w W → Rd W W.heap.size A m (ptAt l k).img → Calls Try.prog g (#[.agg #[.int .i64 (ptAt l k).id, .int .i64 (ptAt l k).base, .int .i64 (ptAt l k).size, .bool (ptAt l k).keep, .slice A m c]] ++ lb) W fun e w' => e = .returned (.bool (p k)) ∧ Below W.heap.size W w'
def PredC (w : World) (g : FuncId) (lb : Array Value) (n : Nat) (l : List Ch) (p : Nat → Bool) : Prop :=
  ∀ k, k < n → ∀ W : World, Below w.heap.size w W → Calls Try.prog g (#[.agg #[.int .i64 (chAt l k).id, .int .i64 (chAt l k).fr, .int .i64 (chAt l k).dst, .int .i64 (chAt l k).cap, .int .i64 (chAt l k).size]] ++ lb) W fun e w' => e = .returned (.bool (p k)) ∧ Below W.heap.size W w'
set_option maxRecDepth 1000000 in
set_option maxHeartbeats 1000000 in
theorem wIndexP (g : FuncId) (lb : Array Value) (eg : ∀ args w, (callFunc g args).run Try.prog w = .ok (.enter g args) w) (p : Nat → Bool) (A : Option Addr) (n c : Nat) (l : List Pt) (w : World)
    (hp : PredP w g lb n l p) (h : RdP w w.heap.size A n l) (hn : n ≤ 1000) :
    Calls Try.prog 42 #[.slice A n c, .func (.func g) #[] lb] w fun e w' => e = .returned (.int .i64 (idxB p n)) ∧ Below w.heap.size w w' := by
  have R := Lib.hid h
  have HP := Lib.hid hp
  have HN := Lib.hid hn
  clear h hp hn
  go_enter Try.func42, Try.ntmps42
  go_wp2_with fail
  go_loopw [5, 8] (fun s5 s8 wr => ∃ k : Nat, k ≤ n ∧ s8 = .int .i64 (k : Int) ∧ Below w.heap.size w wr ∧ ∀ j, j < k → p j = false) (fun _ s8 _ => n - (intOf s8).toNat)
  case atStart => exact ⟨0, Nat.zero_le _, rfl, Below.refl _ _, fun _ h => absurd h (Nat.not_lt_zero _)⟩
  case round =>
    obtain ⟨k, hk, rfl, hb, hno⟩ := hrel
    have B := Lib.hid hb
    have NO := Lib.hid hno
    have HK := Lib.hid hk
    clear hb hno hk
    by_cases hlt : k < n
    · have hltI : (k : Int) < (n : Int) := by omega
      have hwk : IntKind.i64.wrap ((k : Int) + 1) = (k : Int) + 1 := by have := HN.out; rw [IntKind.wrap_i64]; omega
      have HLT : Hid (k < n) := hlt
      obtain ⟨bb, o, A', m, c', hA, z0, z1, z2, z3, z4, hrd, _, _⟩ := (R.out.to B.out).at_ hlt
      have HRD := Lib.hid hrd
      rw [hA]
      clear hrd
      go_wp2_with fail
      refine (HP.out k HLT.out A' m c' wr B.out HRD.out).mono ?_
      rintro e w1 ⟨rfl, hb1⟩
      have B1 := Lib.hid (B.out.trans (hb1.mono B.out.size))
      clear hb1 z0 z1 z2 z3 z4
      cases hpk : p k
      · have HPK := Lib.hid hpk
        clear hpk
        go_wp2_with fail
        go_roundw
        case rel => exact ⟨k + 1, HLT.out, by go_num, B1.out, fun j hj => by
          rcases Nat.lt_or_ge j k with g | g
          · exact NO.out j g
          · obtain rfl : j = k := by omega
            exact HPK.out⟩
        case measure => simp [intOf]; omega
      · have HPK := Lib.hid hpk
        clear hpk
        go_wp2_with fail
        go_ret
        exact ⟨by rw [idxB_at HLT.out NO.out HPK.out]; rfl, B1.out⟩
    · obtain rfl : k = n := by have := HK.out; omega
      go_wp2_with fail
      go_ret
      exact ⟨by rw [idxB_none NO.out]; rfl, B.out⟩
set_option maxRecDepth 1000000 in
set_option maxHeartbeats 1000000 in
theorem wIndexC (g : FuncId) (lb : Array Value) (eg : ∀ args w, (callFunc g args).run Try.prog w = .ok (.enter g args) w) (p : Nat → Bool) (A : Option Addr) (n c : Nat) (l : List Ch) (w : World)
    (hp : PredC w g lb n l p) (h : RdC w w.heap.size A n l) (hn : n ≤ 1000) :
    Calls Try.prog 45 #[.slice A n c, .func (.func g) #[] lb] w fun e w' => e = .returned (.int .i64 (idxB p n)) ∧ Below w.heap.size w w' := by
  have R := Lib.hid h
  have HP := Lib.hid hp
  have HN := Lib.hid hn
  clear h hp hn
  go_enter Try.func45, Try.ntmps45
  go_wp2_with fail
  go_loopw [5, 8] (fun s5 s8 wr => ∃ k : Nat, k ≤ n ∧ s8 = .int .i64 (k : Int) ∧ Below w.heap.size w wr ∧ ∀ j, j < k → p j = false) (fun _ s8 _ => n - (intOf s8).toNat)
  case atStart => exact ⟨0, Nat.zero_le _, rfl, Below.refl _ _, fun _ h => absurd h (Nat.not_lt_zero _)⟩
  case round =>
    obtain ⟨k, hk, rfl, hb, hno⟩ := hrel
    have B := Lib.hid hb
    have NO := Lib.hid hno
    have HK := Lib.hid hk
    clear hb hno hk
    by_cases hlt : k < n
    · have hltI : (k : Int) < (n : Int) := by omega
      have hwk : IntKind.i64.wrap ((k : Int) + 1) = (k : Int) + 1 := by have := HN.out; rw [IntKind.wrap_i64]; omega
      have HLT : Hid (k < n) := hlt
      obtain ⟨bb, o, hA, z0, z1, z2, z3, z4⟩ := (R.out.to B.out).at_ hlt
      rw [hA]
      go_wp2_with fail
      refine (HP.out k HLT.out wr B.out).mono ?_
      rintro e w1 ⟨rfl, hb1⟩
      have B1 := Lib.hid (B.out.trans (hb1.mono B.out.size))
      clear hb1 z0 z1 z2 z3 z4
      cases hpk : p k
      · have HPK := Lib.hid hpk
        clear hpk
        go_wp2_with fail
        go_roundw
        case rel => exact ⟨k + 1, HLT.out, by go_num, B1.out, fun j hj => by
          rcases Nat.lt_or_ge j k with g | g
          · exact NO.out j g
          · obtain rfl : j = k := by omega
            exact HPK.out⟩
        case measure => simp [intOf]; omega
      · have HPK := Lib.hid hpk
        clear hpk
        go_wp2_with fail
        go_ret
        exact ⟨by rw [idxB_at HLT.out NO.out HPK.out]; rfl, B1.out⟩
    · obtain rfl : k = n := by have := HK.out; omega
      go_wp2_with fail
      go_ret
      exact ⟨by rw [idxB_none NO.out]; rfl, B.out⟩
end

/- The program's config: Can, copied, Part, Channel. -/
section
open Go.RowKit
set_option linter.unusedVariables false
set_option linter.unusedSimpArgs false

theorem pPart (w : World) (n g : Nat) (l : List Pt) (id : Int) (hg : w.cell? ⟨g, 0, none⟩ = some (.int .i64 id)) : PredP w 43 #[.pointer (some ⟨g, 0, none⟩)] n l (fun k => (ptAt l k).id == id) := fun k hk A m c W hb hr => by
  show Calls Try.prog 43 #[.agg #[.int .i64 (ptAt l k).id, .int .i64 (ptAt l k).base, .int .i64 (ptAt l k).size, .bool (ptAt l k).keep, .slice A m c], .pointer (some ⟨g, 0, none⟩)] W fun e w' => e = .returned (.bool ((ptAt l k).id == id)) ∧ Below W.heap.size W w'
  generalize ptAt l k = p at *
  have BA := Lib.hid ((Below.refl W.heap.size W).alloc (Nat.le_refl _) (.cells #[.int .i64 p.id, .int .i64 p.base, .int .i64 p.size, .bool p.keep, .slice A m c] 43))
  have hg1 : W.cell? ⟨g, 0, none⟩ = some (.int .i64 id) := (hb.cell (p := ⟨g, 0, none⟩) (cell_block hg)).trans hg
  have hg2 : (W.alloc (.cells #[.int .i64 p.id, .int .i64 p.base, .int .i64 p.size, .bool p.keep, .slice A m c] 43)).cell? ⟨g, 0, none⟩ = some (.int .i64 id) := (BA.out.cell (p := ⟨g, 0, none⟩) (cell_block hg1)).trans hg1
  clear hr hb hg hg1
  go_enter Try.func43, Try.ntmps43
  go_wp2_with fail
  go_ret
  refine ⟨?_, BA.out⟩
  rfl
theorem pChannel (w : World) (n g : Nat) (l : List Ch) (id : Int) (hg : w.cell? ⟨g, 0, none⟩ = some (.int .i64 id)) : PredC w 46 #[.pointer (some ⟨g, 0, none⟩)] n l (fun k => (chAt l k).id == id) := fun k hk W hb => by
  show Calls Try.prog 46 #[.agg #[.int .i64 (chAt l k).id, .int .i64 (chAt l k).fr, .int .i64 (chAt l k).dst, .int .i64 (chAt l k).cap, .int .i64 (chAt l k).size], .pointer (some ⟨g, 0, none⟩)] W fun e w' => e = .returned (.bool ((chAt l k).id == id)) ∧ Below W.heap.size W w'
  generalize chAt l k = p at *
  have BA := Lib.hid ((Below.refl W.heap.size W).alloc (Nat.le_refl _) (.cells #[.int .i64 p.id, .int .i64 p.fr, .int .i64 p.dst, .int .i64 p.cap, .int .i64 p.size] 47))
  have hg1 : W.cell? ⟨g, 0, none⟩ = some (.int .i64 id) := (hb.cell (p := ⟨g, 0, none⟩) (cell_block hg)).trans hg
  have hg2 : (W.alloc (.cells #[.int .i64 p.id, .int .i64 p.fr, .int .i64 p.dst, .int .i64 p.cap, .int .i64 p.size] 47)).cell? ⟨g, 0, none⟩ = some (.int .i64 id) := (BA.out.cell (p := ⟨g, 0, none⟩) (cell_block hg1)).trans hg1
  clear hb hg hg1
  go_enter Try.func46, Try.ntmps46
  go_wp2_with fail
  go_ret
  refine ⟨?_, BA.out⟩
  rfl
set_option maxRecDepth 1000000 in
set_option maxHeartbeats 1000000 in
theorem wContainsP (g : FuncId) (lb : Array Value) (eg : ∀ args w, (callFunc g args).run Try.prog w = .ok (.enter g args) w) (p : Nat → Bool) (A : Option Addr) (n c : Nat) (l : List Pt) (w : World)
    (hp : PredP w g lb n l p) (h : RdP w w.heap.size A n l) (hn : n ≤ 1000) :
    Calls Try.prog 26 #[.slice A n c, .func (.func g) #[] lb] w fun e w' => e = .returned (.bool (decide (0 ≤ idxB p n))) ∧ Below w.heap.size w w' := by
  have W := Lib.hid (wIndexP g lb eg p A n c l w hp h hn)
  clear h hp hn
  go_enter Try.func26, Try.ntmps26
  go_wp2_with fail
  refine W.out.mono ?_
  rintro e w1 ⟨rfl, hb⟩
  have B := Lib.hid hb
  obtain ⟨x, hx⟩ : ∃ x, idxB p n = x := ⟨_, rfl⟩
  rw [hx]
  replace hx := Lib.hid hx
  go_wp2_with fail
  go_ret
  exact ⟨by rw [hx.out]; rfl, B.out⟩
end

/- The program's config: copied, Part, Channel. -/
section
open Go.RowKit
set_option linter.unusedVariables false
set_option linter.unusedSimpArgs false

theorem findP_idx (l : List Pt) (id : Int) : findP l id = idxB (fun k => (ptAt l k).id == id) l.length := by
  rcases idxB_cases (fun k => (ptAt l k).id == id) l.length with ⟨k, hk, hb, hp, e⟩ | ⟨hn, e⟩
  · rw [e]
    exact findP_at hk (fun j hj => by simpa using hb j hj) (by simpa using hp)
  · rw [e]
    exact findP_none (fun j hj => by simpa using hn j hj)
theorem findC_idx (l : List Ch) (id : Int) : findC l id = idxB (fun k => (chAt l k).id == id) l.length := by
  rcases idxB_cases (fun k => (chAt l k).id == id) l.length with ⟨k, hk, hb, hp, e⟩ | ⟨hn, e⟩
  · rw [e]
    exact findC_at hk (fun j hj => by simpa using hb j hj) (by simpa using hp)
  · rw [e]
    exact findC_none (fun j hj => by simpa using hn j hj)
theorem res_pt {fn : Func} {p : Tmp} (h : fn.results = #[.cell p 43]) (tmps : Array Value) (w : World) (g : Nat) (a b c d e : Value) (hp : tmps.getD p undef = .pointer (some ⟨g, 0, none⟩)) (hx : Bx w g 43 [a, b, c, d, e]) :
    (results fn tmps).run Try.prog w = .ok (.agg #[a, b, c, d, e]) w := by
  have hp' : tmps[p]?.getD undef = .pointer (some ⟨g, 0, none⟩) := by simpa using hp
  have c0 := hx.at (j := 0) rfl
  have c1 := hx.at (j := 1) rfl
  have c2 := hx.at (j := 2) rfl
  have c3 := hx.at (j := 3) rfl
  have c4 := hx.at (j := 4) rfl
  simp [results, h, hp', asAddr]
  go_simp
  try rfl
theorem res_ptB {fn : Func} {p q : Tmp} (h : fn.results = #[.cell p 43, .tmp q]) (tmps : Array Value) (w : World) (g : Nat) (a b c d e u : Value) (hp : tmps.getD p undef = .pointer (some ⟨g, 0, none⟩)) (hq : tmps.getD q undef = u) (hx : Bx w g 43 [a, b, c, d, e]) :
    (results fn tmps).run Try.prog w = .ok (.tuple #[.agg #[a, b, c, d, e], u]) w := by
  have hp' : tmps[p]?.getD undef = .pointer (some ⟨g, 0, none⟩) := by simpa using hp
  have hq' : tmps[q]?.getD undef = u := by simpa using hq
  have c0 := hx.at (j := 0) rfl
  have c1 := hx.at (j := 1) rfl
  have c2 := hx.at (j := 2) rfl
  have c3 := hx.at (j := 3) rfl
  have c4 := hx.at (j := 4) rfl
  simp [results, h, hp', hq', asAddr]
  go_simp
  try rfl
theorem res_chB {fn : Func} {p q : Tmp} (h : fn.results = #[.cell p 47, .tmp q]) (tmps : Array Value) (w : World) (g : Nat) (a b c d e u : Value) (hp : tmps.getD p undef = .pointer (some ⟨g, 0, none⟩)) (hq : tmps.getD q undef = u) (hx : Bx w g 47 [a, b, c, d, e]) :
    (results fn tmps).run Try.prog w = .ok (.tuple #[.agg #[a, b, c, d, e], u]) w := by
  have hp' : tmps[p]?.getD undef = .pointer (some ⟨g, 0, none⟩) := by simpa using hp
  have hq' : tmps[q]?.getD undef = u := by simpa using hq
  have c0 := hx.at (j := 0) rfl
  have c1 := hx.at (j := 1) rfl
  have c2 := hx.at (j := 2) rfl
  have c3 := hx.at (j := 3) rfl
  have c4 := hx.at (j := 4) rfl
  simp [results, h, hp', hq', asAddr]
  go_simp
  try rfl
/-- A partition of the callee's making, and what else is handed back. -/
def RetPt (w : World) (p : Pt) (f : Value → Value) (x : Ending) (w' : World) : Prop :=
  ∃ A m c, x = .returned (f (.agg #[.int .i64 p.id, .int .i64 p.base, .int .i64 p.size, .bool p.keep, .slice A m c])) ∧ OwR w' w.heap.size A m p.img ∧ m ≤ c ∧ c ≤ 9223372036854775807 ∧ Below w.heap.size w w'
set_option maxRecDepth 1000000 in
set_option maxHeartbeats 1000000 in
theorem wCopied (p : Pt) (A : Option Addr) (m c : Nat) (w : World) (h : Rd w w.heap.size A m p.img) (hm : m ≤ 140737488355328) :
    Calls Try.prog 44 #[.agg #[.int .i64 p.id, .int .i64 p.base, .int .i64 p.size, .bool p.keep, .slice A m c]] w (RetPt w p id) := by
  obtain ⟨i, b, s, k, im⟩ := p
  have B1 := (Below.refl w.heap.size w).alloc (Nat.le_refl _) (.cells #[.int .i64 i, .int .i64 b, .int .i64 s, .bool k, .slice A m c] 43)
  have P1 : Bx (w.alloc (.cells #[.int .i64 i, .int .i64 b, .int .i64 s, .bool k, .slice A m c] 43)) w.heap.size 43 [.int .i64 i, .int .i64 b, .int .i64 s, .bool k, .slice A m c] := Bx.new w _ [.int .i64 i, .int .i64 b, .int .i64 s, .bool k, .slice A m c]
  generalize hw1 : (w.alloc (.cells #[.int .i64 i, .int .i64 b, .int .i64 s, .bool k, .slice A m c] 43)) = w1 at *
  have S1 : w1.heap.size = w.heap.size + 1 := by rw [← hw1]; simp
  have B2 := B1.alloc B1.size (.cells #[.int .i64 0, .int .i64 0, .int .i64 0, .bool false, .slice none 0 0] 43)
  have P2 : Bx (w1.alloc (.cells #[.int .i64 0, .int .i64 0, .int .i64 0, .bool false, .slice none 0 0] 43)) w1.heap.size 43 [.int .i64 0, .int .i64 0, .int .i64 0, .bool false, .slice none 0 0] := Bx.new w1 _ [.int .i64 0, .int .i64 0, .int .i64 0, .bool false, .slice none 0 0]
  have P12 := P1.to ((Below.refl _ _).alloc (Nat.le_refl _) (.cells #[.int .i64 0, .int .i64 0, .int .i64 0, .bool false, .slice none 0 0] 43))
  rw [S1] at P2
  have S2 : Hid ((w1.alloc (.cells #[.int .i64 0, .int .i64 0, .int .i64 0, .bool false, .slice none 0 0] 43)).heap.size = w.heap.size + 2) := by (show _ = _); simp [S1]
  have P := Lib.hid P12
  have X := Lib.hid P2
  have R := Lib.hid (h.to B2)
  have BW := Lib.hid B2
  have HW1 := Lib.hid hw1
  have HM := Lib.hid hm
  clear h hm B1 P1 S1 B2 P2 P12 hw1
  go_enter Try.func44, Try.ntmps44
  go_upto_region 1 with (fail)
  rw [HW1.out]
  generalize (w1.alloc (.cells #[.int .i64 0, .int .i64 0, .int .i64 0, .bool false, .slice none 0 0] 43)) = w2 at *
  clear HW1
  have x4 := P.out.at (j := 4) rfl
  go_wp2_with fail
  refine (bClone A m c im w2 R.out HM.out).mono ?_
  rintro e w3 ⟨A3, m3, c3, rfl, ho, hc1, hc2, hb⟩
  have O := Lib.hid ho
  have HC1 := Lib.hid hc1
  have HC2 := Lib.hid hc2
  replace P := Lib.hid (P.out.to hb)
  replace X := Lib.hid (X.out.to hb)
  replace HSZ := Lib.hid BW.out.size
  replace BW := Lib.hid (BW.out.trans (hb.mono BW.out.size))
  have y4 := P.out.at (j := 4) rfl
  have f4 := P.out.fz 4
  clear hb ho hc1 hc2 x4
  go_upto_region 2 with (fail)
  have Q := Lib.hid (P.out.set 4 (.slice A3 m3 c3))
  have XQ := Lib.hid (X.out.other ⟨w.heap.size, 4, none⟩ (.slice A3 m3 c3) (by simp))
  have BQ := Lib.hid (BW.out.setCell (p := ⟨w.heap.size, 4, none⟩) (Nat.le_refl _) (.slice A3 m3 c3))
  have OQ := Lib.hid (O.out.kept (R := (· = w.heap.size)) ((Keep.refl _ w3).setCell ⟨w.heap.size, 4, none⟩ (.slice A3 m3 c3) rfl) (O.out.off (fun k hk => by have := S2.out; omega)))
  generalize w3.setCell ⟨w.heap.size, 4, none⟩ (.slice A3 m3 c3) = w4 at *
  clear P X BW O y4 f4
  have q0 := Q.out.at (j := 0) rfl
  have q1 := Q.out.at (j := 1) rfl
  have q2 := Q.out.at (j := 2) rfl
  have q3 := Q.out.at (j := 3) rfl
  have q4 := Q.out.at (j := 4) rfl
  have z0 := XQ.out.at (j := 0) rfl
  have z1 := XQ.out.at (j := 1) rfl
  have z2 := XQ.out.at (j := 2) rfl
  have z3 := XQ.out.at (j := 3) rfl
  have z4 := XQ.out.at (j := 4) rfl
  have f0 := XQ.out.fz 0
  have f1 := XQ.out.fz 1
  have f2 := XQ.out.fz 2
  have f3 := XQ.out.fz 3
  have f4 := XQ.out.fz 4
  go_wp2_with fail
  change bodyPost _ _ _ _ _ (setsC w4 (w.heap.size + 1) 0 [.int .i64 i, .int .i64 b, .int .i64 s, .bool k, .slice A3 m3 c3])
  have P9 := XQ.out.sets [.int .i64 i, .int .i64 b, .int .i64 s, .bool k, .slice A3 m3 c3] rfl
  have B9 := below_sets (Nat.le_succ w.heap.size) [.int .i64 i, .int .i64 b, .int .i64 s, .bool k, .slice A3 m3 c3] 0 BQ.out
  have O9 := OQ.out.kept (Keep.sets (R := (· = w.heap.size + 1)) rfl [.int .i64 i, .int .i64 b, .int .i64 s, .bool k, .slice A3 m3 c3] 0 (Keep.refl _ w4)) (OQ.out.off (fun k hk => by have := S2.out; omega))
  generalize setsC w4 (w.heap.size + 1) 0 [.int .i64 i, .int .i64 b, .int .i64 s, .bool k, .slice A3 m3 c3] = w9 at *
  obtain rfl : m3 = im.length := O9.1.1.symm
  refine bodyPost_ret (res_pt rfl _ _ (w.heap.size + 1) _ _ _ _ _ rfl P9) rfl ?_
  exact ⟨A3, im.length, c3, rfl, O9.mono (by have := S2.out; omega), HC1.out, HC2.out, B9⟩
/-- What Part, Channel find. -/
def partV (c : Cf) (id : Int) : Pt := if 0 ≤ findP c.ps id then ptAt c.ps (findP c.ps id).toNat else Pt.zero
def chanV (c : Cf) (id : Int) : Ch := if 0 ≤ findC c.cs id then chAt c.cs (findC c.cs id).toNat else Ch.zero
/-- Three boxes: a configuration, a number, a value to hand back. -/
theorem three_boxes (v : CV) (id : Int) (w : World) (T : TypeId) (cs : List Value) : ∃ w3, ((w.alloc (.cells #[.slice v.aw v.nw v.kw, .slice v.ap v.np v.kp, .slice v.ac v.nc v.kc] 26)).alloc (.cells #[.int .i64 id] 3)).alloc (.cells cs.toArray T) = w3 ∧
    Below w.heap.size w w3 ∧ Bx w3 w.heap.size 26 (cfL v) ∧ Bx w3 (w.heap.size + 1) 3 [.int .i64 id] ∧ Bx w3 (w.heap.size + 1 + 1) T cs ∧ w3.heap.size = w.heap.size + 3 := by
  refine ⟨_, rfl, ?_, ?_, ?_, ?_, by simp⟩
  · exact ((((Below.refl w.heap.size w).alloc (Nat.le_refl _) _).alloc (by simp) _).alloc (by simp; omega) _)
  · have h := Bx.new w 26 (cfL v)
    exact ((h.to ((Below.refl _ _).alloc (Nat.le_refl _) _)).to ((Below.refl _ _).alloc (Nat.le_refl _) _))
  · have h := Bx.new (w.alloc (.cells #[.slice v.aw v.nw v.kw, .slice v.ap v.np v.kp, .slice v.ac v.nc v.kc] 26)) 3 [.int .i64 id]
    have := h.to ((Below.refl _ _).alloc (Nat.le_refl _) (.cells cs.toArray T))
    simpa using this
  · have h := Bx.new ((w.alloc (.cells #[.slice v.aw v.nw v.kw, .slice v.ap v.np v.kp, .slice v.ac v.nc v.kc] 26)).alloc (.cells #[.int .i64 id] 3)) T cs
    simpa using h
set_option maxRecDepth 1000000 in
set_option maxHeartbeats 1000000 in
theorem wPart (v : CV) (c : Cf) (id : Int) (w : World) (h : RdCf w w.heap.size v c) (hp : v.np ≤ 1000) :
    Calls Try.prog 23 #[.agg #[.slice v.aw v.nw v.kw, .slice v.ap v.np v.kp, .slice v.ac v.nc v.kc], .int .i64 id] w (RetPt w (partV c id) (fun x => .tuple #[x, .bool (decide (0 ≤ findP c.ps id))])) := by
  obtain ⟨w3, hw3, hb3, hx, hi, hr, hs3⟩ := three_boxes v id w 43 [.int .i64 0, .int .i64 0, .int .i64 0, .bool false, .slice none 0 0]
  have R := Lib.hid (h.to hb3)
  have X := Lib.hid hx
  have I := Lib.hid hi
  have Z := Lib.hid hr
  have S3 := Lib.hid hs3
  have BW := Lib.hid hb3
  have HW := Lib.hid hw3
  have HN := Lib.hid hp
  have LP : Hid (c.ps.length = v.np) := h.pp.1
  have eg : ∀ args w, (callFunc 43 args).run Try.prog w = .ok (.enter 43 args) w := enter_of Try.func43 (by kernel_rfl) rfl
  have EG := Lib.hid eg
  clear h hp eg hw3 hb3 hx hi hr hs3
  go_enter Try.func23, Try.ntmps23
  go_upto_region 1 with (fail)
  rw [show ((w.alloc (.cells #[.slice v.aw v.nw v.kw, .slice v.ap v.np v.kp, .slice v.ac v.nc v.kc] 26)).alloc (.cells #[.int .i64 id] 3)).alloc (.cells #[.int .i64 0, .int .i64 0, .int .i64 0, .bool false, .slice none 0 0] 43) = w3 from HW.out]
  clear HW
  have x1 := X.out.at (j := 1) rfl
  go_wp2_with fail
  refine (wIndexP _ _ EG.out _ v.ap v.np v.kp c.ps w3 (pPart w3 v.np (w.heap.size + 1) c.ps id (I.out.at (j := 0) rfl)) R.out.pp HN.out).mono ?_
  rintro e w4 ⟨rfl, hb4⟩
  have HF : Hid (idxB (fun k => (ptAt c.ps k).id == id) v.np = findP c.ps id) := by (show _ = _); rw [findP_idx, LP.out]
  rw [HF.out]
  replace R := Lib.hid (R.out.to hb4)
  replace X := Lib.hid (X.out.to hb4)
  replace Z := Lib.hid (Z.out.to hb4)
  have HS4 : Hid (w.heap.size + 3 ≤ w4.heap.size) := by (show _ ≤ _); rw [← S3.out]; exact hb4.size
  replace BW := Lib.hid (BW.out.trans (hb4.mono BW.out.size))
  clear hb4 x1 I
  have z0 := Z.out.at (j := 0) rfl
  have z1 := Z.out.at (j := 1) rfl
  have z2 := Z.out.at (j := 2) rfl
  have z3 := Z.out.at (j := 3) rfl
  have z4 := Z.out.at (j := 4) rfl
  have f0 := Z.out.fz 0
  have f1 := Z.out.fz 1
  have f2 := Z.out.fz 2
  have f3 := Z.out.fz 3
  have f4 := Z.out.fz 4
  rcases idxB_cases (fun k => (ptAt c.ps k).id == id) v.np with ⟨k, hk, _, _, e⟩ | ⟨_, e⟩
  · have hF : findP c.ps id = (k : Int) := by rw [← HF.out, e]
    have HK := Lib.hid hF
    rw [hF]
    clear hF e
    have hneg : ¬ (k : Int) < 0 := by omega
    obtain ⟨bb, o, A', m, c', hA, y0, y1, y2, y3, y4, hrd, _, _, hm⟩ := R.out.pp.at_ hk
    have x1 := X.out.at (j := 1) rfl
    have hkI : (k : Int) < (v.np : Int) := by omega
    have HRD := Lib.hid hrd
    have HM := Lib.hid hm
    have HP : Hid (partV c id = ptAt c.ps k) := by (show _ = _); unfold partV; rw [HK.out, if_pos (by omega), Int.toNat_natCast]
    have HD : Hid (decide (0 ≤ findP c.ps id) = true) := by (show _ = _); rw [HK.out]; exact decide_eq_true (by omega)
    rw [hA] at x1
    clear hrd hm hk
    generalize ptAt c.ps k = p at *
    go_wp2_with fail
    refine (wCopied p A' m c' w4 HRD.out (by have := HM.out; omega)).mono ?_
    rintro e w5 ⟨A3, m3, c3, rfl, ho, hc1, hc2, hb5⟩
    have O := Lib.hid ho
    have HC1 := Lib.hid hc1
    have HC2 := Lib.hid hc2
    replace Z := Lib.hid (Z.out.to hb5)
    replace BW := Lib.hid (BW.out.trans (hb5.mono BW.out.size))
    clear ho hc1 hc2 hb5 z0 z1 z2 z3 z4 f0 f1 f2 f3 f4 x1 y0 y1 y2 y3 y4
    have z0 := Z.out.at (j := 0) rfl
    have z1 := Z.out.at (j := 1) rfl
    have z2 := Z.out.at (j := 2) rfl
    have z3 := Z.out.at (j := 3) rfl
    have z4 := Z.out.at (j := 4) rfl
    have f0 := Z.out.fz 0
    have f1 := Z.out.fz 1
    have f2 := Z.out.fz 2
    have f3 := Z.out.fz 3
    have f4 := Z.out.fz 4
    go_wp2_with fail
    change bodyPost _ _ _ _ _ (setsC w5 (w.heap.size + 1 + 1) 0 [.int .i64 p.id, .int .i64 p.base, .int .i64 p.size, .bool p.keep, .slice A3 m3 c3])
    have P9 := Z.out.sets [.int .i64 p.id, .int .i64 p.base, .int .i64 p.size, .bool p.keep, .slice A3 m3 c3] rfl
    have B9 := below_sets (show w.heap.size ≤ w.heap.size + 1 + 1 by omega) [.int .i64 p.id, .int .i64 p.base, .int .i64 p.size, .bool p.keep, .slice A3 m3 c3] 0 BW.out
    have O9 := O.out.kept (Keep.sets (R := (· = w.heap.size + 1 + 1)) rfl [.int .i64 p.id, .int .i64 p.base, .int .i64 p.size, .bool p.keep, .slice A3 m3 c3] 0 (Keep.refl _ w5)) (O.out.off (fun k hk => by have := HS4.out; omega))
    generalize setsC w5 (w.heap.size + 1 + 1) 0 [.int .i64 p.id, .int .i64 p.base, .int .i64 p.size, .bool p.keep, .slice A3 m3 c3] = w9 at *
    refine bodyPost_ret (res_ptB rfl _ _ (w.heap.size + 1 + 1) _ _ _ _ _ (.bool true) rfl rfl P9) rfl ?_
    exact ⟨A3, m3, c3, by rw [HP.out, HD.out], by rw [HP.out]; exact O9.mono (by have := HS4.out; omega), HC1.out, HC2.out, B9⟩
  · have hF : findP c.ps id = -1 := by rw [← HF.out, e]
    have HK := Lib.hid hF
    rw [hF]
    clear hF e
    have HP : Hid (partV c id = Pt.zero) := by (show _ = _); unfold partV; rw [HK.out, if_neg (by omega)]
    have HD : Hid (decide (0 ≤ findP c.ps id) = false) := by (show _ = _); rw [HK.out]; rfl
    go_wp2_with fail
    change bodyPost _ _ _ _ _ (setsC w4 (w.heap.size + 1 + 1) 0 [.int .i64 0, .int .i64 0, .int .i64 0, .bool false, .slice none 0 0])
    have P9 := Z.out.sets [.int .i64 0, .int .i64 0, .int .i64 0, .bool false, .slice none 0 0] rfl
    have B9 := below_sets (show w.heap.size ≤ w.heap.size + 1 + 1 by omega) [.int .i64 0, .int .i64 0, .int .i64 0, .bool false, .slice none 0 0] 0 BW.out
    generalize setsC w4 (w.heap.size + 1 + 1) 0 [.int .i64 0, .int .i64 0, .int .i64 0, .bool false, .slice none 0 0] = w9 at *
    refine bodyPost_ret (res_ptB rfl _ _ (w.heap.size + 1 + 1) _ _ _ _ _ (.bool false) rfl rfl P9) rfl ?_
    exact ⟨none, 0, 0, by rw [HP.out, HD.out]; rfl, by rw [HP.out]; exact ⟨Rd.nil _ _ _, fun h => absurd h (Nat.lt_irrefl 0)⟩, by omega, by omega, B9⟩
set_option maxRecDepth 1000000 in
set_option maxHeartbeats 1000000 in
theorem wChannel (v : CV) (c : Cf) (id : Int) (w : World) (h : RdCf w w.heap.size v c) (hp : v.nc ≤ 1000) :
    Calls Try.prog 24 #[.agg #[.slice v.aw v.nw v.kw, .slice v.ap v.np v.kp, .slice v.ac v.nc v.kc], .int .i64 id] w fun x w' => x = .returned (.tuple #[.agg #[.int .i64 (chanV c id).id, .int .i64 (chanV c id).fr, .int .i64 (chanV c id).dst, .int .i64 (chanV c id).cap, .int .i64 (chanV c id).size], .bool (decide (0 ≤ findC c.cs id))]) ∧ Below w.heap.size w w' := by
  obtain ⟨w3, hw3, hb3, hx, hi, hr, hs3⟩ := three_boxes v id w 47 [.int .i64 0, .int .i64 0, .int .i64 0, .int .i64 0, .int .i64 0]
  have R := Lib.hid (h.to hb3)
  have X := Lib.hid hx
  have I := Lib.hid hi
  have Z := Lib.hid hr
  have BW := Lib.hid hb3
  have HW := Lib.hid hw3
  have HN := Lib.hid hp
  have LP : Hid (c.cs.length = v.nc) := h.cc.1
  have eg : ∀ args w, (callFunc 46 args).run Try.prog w = .ok (.enter 46 args) w := enter_of Try.func46 (by kernel_rfl) rfl
  have EG := Lib.hid eg
  clear h hp eg hw3 hb3 hx hi hr hs3
  go_enter Try.func24, Try.ntmps24
  go_upto_region 1 with (fail)
  rw [show ((w.alloc (.cells #[.slice v.aw v.nw v.kw, .slice v.ap v.np v.kp, .slice v.ac v.nc v.kc] 26)).alloc (.cells #[.int .i64 id] 3)).alloc (.cells #[.int .i64 0, .int .i64 0, .int .i64 0, .int .i64 0, .int .i64 0] 47) = w3 from HW.out]
  clear HW
  have x1 := X.out.at (j := 2) rfl
  go_wp2_with fail
  refine (wIndexC _ _ EG.out _ v.ac v.nc v.kc c.cs w3 (pChannel w3 v.nc (w.heap.size + 1) c.cs id (I.out.at (j := 0) rfl)) R.out.cc HN.out).mono ?_
  rintro e w4 ⟨rfl, hb4⟩
  have HF : Hid (idxB (fun k => (chAt c.cs k).id == id) v.nc = findC c.cs id) := by (show _ = _); rw [findC_idx, LP.out]
  rw [HF.out]
  replace R := Lib.hid (R.out.to hb4)
  replace X := Lib.hid (X.out.to hb4)
  replace Z := Lib.hid (Z.out.to hb4)
  replace BW := Lib.hid (BW.out.trans (hb4.mono BW.out.size))
  clear hb4 x1 I
  have z0 := Z.out.at (j := 0) rfl
  have z1 := Z.out.at (j := 1) rfl
  have z2 := Z.out.at (j := 2) rfl
  have z3 := Z.out.at (j := 3) rfl
  have z4 := Z.out.at (j := 4) rfl
  have f0 := Z.out.fz 0
  have f1 := Z.out.fz 1
  have f2 := Z.out.fz 2
  have f3 := Z.out.fz 3
  have f4 := Z.out.fz 4
  rcases idxB_cases (fun k => (chAt c.cs k).id == id) v.nc with ⟨k, hk, _, _, e⟩ | ⟨_, e⟩
  · have hF : findC c.cs id = (k : Int) := by rw [← HF.out, e]
    have HK := Lib.hid hF
    rw [hF]
    clear hF e
    have hneg : ¬ (k : Int) < 0 := by omega
    obtain ⟨bb, o, hA, y0, y1, y2, y3, y4⟩ := R.out.cc.at_ hk
    have x1 := X.out.at (j := 2) rfl
    have hkI : (k : Int) < (v.nc : Int) := by omega
    have HP : Hid (chanV c id = chAt c.cs k) := by (show _ = _); unfold chanV; rw [HK.out, if_pos (by omega), Int.toNat_natCast]
    have HD : Hid (decide (0 ≤ findC c.cs id) = true) := by (show _ = _); rw [HK.out]; exact decide_eq_true (by omega)
    rw [hA] at x1
    clear hk
    generalize chAt c.cs k = p at *
    go_wp2_with fail
    change bodyPost _ _ _ _ _ (setsC w4 (w.heap.size + 1 + 1) 0 [.int .i64 p.id, .int .i64 p.fr, .int .i64 p.dst, .int .i64 p.cap, .int .i64 p.size])
    have P9 := Z.out.sets [.int .i64 p.id, .int .i64 p.fr, .int .i64 p.dst, .int .i64 p.cap, .int .i64 p.size] rfl
    have B9 := below_sets (show w.heap.size ≤ w.heap.size + 1 + 1 by omega) [.int .i64 p.id, .int .i64 p.fr, .int .i64 p.dst, .int .i64 p.cap, .int .i64 p.size] 0 BW.out
    generalize setsC w4 (w.heap.size + 1 + 1) 0 [.int .i64 p.id, .int .i64 p.fr, .int .i64 p.dst, .int .i64 p.cap, .int .i64 p.size] = w9 at *
    refine bodyPost_ret (res_chB rfl _ _ (w.heap.size + 1 + 1) _ _ _ _ _ (.bool true) rfl rfl P9) rfl ?_
    exact ⟨by rw [HP.out, HD.out], B9⟩
  · have hF : findC c.cs id = -1 := by rw [← HF.out, e]
    have HK := Lib.hid hF
    rw [hF]
    clear hF e
    have HP : Hid (chanV c id = Ch.zero) := by (show _ = _); unfold chanV; rw [HK.out, if_neg (by omega)]
    have HD : Hid (decide (0 ≤ findC c.cs id) = false) := by (show _ = _); rw [HK.out]; rfl
    go_wp2_with fail
    change bodyPost _ _ _ _ _ (setsC w4 (w.heap.size + 1 + 1) 0 [.int .i64 0, .int .i64 0, .int .i64 0, .int .i64 0, .int .i64 0])
    have P9 := Z.out.sets [.int .i64 0, .int .i64 0, .int .i64 0, .int .i64 0, .int .i64 0] rfl
    have B9 := below_sets (show w.heap.size ≤ w.heap.size + 1 + 1 by omega) [.int .i64 0, .int .i64 0, .int .i64 0, .int .i64 0, .int .i64 0] 0 BW.out
    generalize setsC w4 (w.heap.size + 1 + 1) 0 [.int .i64 0, .int .i64 0, .int .i64 0, .int .i64 0, .int .i64 0] = w9 at *
    refine bodyPost_ret (res_chB rfl _ _ (w.heap.size + 1 + 1) _ _ _ _ _ (.bool false) rfl rfl P9) rfl ?_
    exact ⟨by rw [HP.out, HD.out]; rfl, B9⟩
end
end Go.Proofs.Ytecedmjhhaabgaa
