/- Layer 16: words that the program's side and the document's share: results, what Get keeps. -/
import Derived.Test.YtffdjnhhmfpkgaaGreatTz
import Derived.Test.YtffdjnhhmfpkgaaGreatCmO
import Derived.Test.YtffdjnhhmfpkgaaGreatR0
namespace Go.Proofs.YtffdjnhhmfpkgaaGreat
set_option maxRecDepth 1000000
set_option maxHeartbeats 8000000
open Go.RowKit
set_option linter.unusedVariables false
set_option linter.unusedSimpArgs false
theorem ret_boolC {a b : Bool} (h : a = b) : Ending.returned (.bool a) = Ending.returned (.bool b) := by rw [h]
theorem rem2 (x : Int) (h : 0 ≤ x) : IntKind.i64.wrap (x.tmod 2) = x % 2 := by
 rw [IntKind.wrap_i64, Int.tmod_eq_emod_of_nonneg h]
 omega
theorem rem2b (x : Int) (h : 0 ≤ x) : x.tmod 2 = x % 2 := Int.tmod_eq_emod_of_nonneg h
theorem rem2c (x : Int) : IntKind.i64.wrap (x % 2) = x % 2 := by rw [IntKind.wrap_i64]; omega
theorem res_rcB {fn : Func} {p q : Tmp} (h : fn.results = #[.cell p 34, .tmp q]) (tmps : Array Value) (w : World) (g : Nat) (r : Rcd) (u : Value) (hp : tmps.getD p undef = .pointer (some ⟨g, 0, none⟩)) (hq : tmps.getD q undef = u) (hg : RB w g r) :
  (results fn tmps).run Tryz.prog w = .ok (.tuple #[.agg (rcL r).toArray, u]) w := by
 have hp' : tmps[p]?.getD undef = .pointer (some ⟨g, 0, none⟩) := by simpa using hp
 have hq' : tmps[q]?.getD undef = u := by simpa using hq
 simp [results, h, hp', hq', asAddr, run_loadVar_row w g _ _ _ (0, 0) _ hg.2 Tryz.underlying34 rfl (rc_size hg.1)]
theorem cmTells_no {bs : List UInt8} (h : ¬ endV (c5S (newRS bs)) = 0) : cmTells bs = false := by unfold cmTells; rw [decide_eq_false h, Bool.false_and]
theorem cmTells_yes {bs : List UInt8} (h : endV (c5S (newRS bs)) = 0) : cmTells bs = cmMay (cmGot bs) := by unfold cmTells; rw [decide_eq_true h, Bool.true_and]
def RetG (w : World) (p : Rcd × Rcd × Int) (e : Ending) (w' : World) : Prop := e = .returned (.tuple #[.agg (rcL p.1).toArray, .agg (rcL p.2.1).toArray, .int .i64 p.2.2]) ∧ Below w.heap.size w w'
structure GetS (w0 w : World) (g2 g3 g5 : Nat) (l a : Rcd) : Prop where
 t2 : RB w g2 l
 t3 : RB w g3 a
 t5 : RB w g5 Rcd.zero
 n : g2 ≠ g3 ∧ g2 ≠ g5 ∧ g3 ≠ g5
 z2 : w0.heap.size ≤ g2
 z3 : w0.heap.size ≤ g3
 bel : Below w0.heap.size w0 w
section
variable {w0 w w' : World} {g2 g3 g5 : Nat} {l a r : Rcd}
theorem GetS.to (h : GetS w0 w g2 g3 g5 l a) (hb : Below w.heap.size w w') : GetS w0 w' g2 g3 g5 l a := ⟨h.t2.to hb, h.t3.to hb, h.t5.to hb, h.n, h.z2, h.z3, h.bel.trans (hb.mono h.bel.size)⟩
theorem GetS.set2 (h : GetS w0 w g2 g3 g5 l a) (hr : r.hash.length = 32) : GetS w0 (w.setRow g2 (rcL r).toArray) g2 g3 g5 r a := ⟨h.t2.setRow hr, h.t3.setOther h.n.1.symm, h.t5.setOther h.n.2.1.symm, h.n, h.z2, h.z3, below_setRow h.bel h.z2 _⟩
theorem GetS.set3 (h : GetS w0 w g2 g3 g5 l a) (hr : r.hash.length = 32) : GetS w0 (w.setRow g3 (rcL r).toArray) g2 g3 g5 l r := ⟨h.t2.setOther h.n.1, h.t3.setRow hr, h.t5.setOther h.n.2.2.symm, h.n, h.z2, h.z3, below_setRow h.bel h.z3 _⟩
theorem GetS.set5 (h : GetS w0 w g2 g3 g5 l a) (hz : w0.heap.size ≤ g5) : GetS w0 (w.setRow g5 (rcL Rcd.zero).toArray) g2 g3 g5 l a := ⟨h.t2.setOther h.n.2.1, h.t3.setOther h.n.2.2, h.t5.setRow rfl, h.n, h.z2, h.z3, below_setRow h.bel hz _⟩
theorem GetS.same (h : GetS w0 w g2 g3 g5 l a) (hr : r.hash.length = 32) {x : Rcd} (hx : x.hash.length = 32) : (rcL x).toArray.size = (rcL r).toArray.size := by rw [rcL_size hr, rcL_size hx]
end
theorem res_rcG {fn : Func} {p q s : Tmp} (h : fn.results = #[.cell p 34, .cell q 34, .tmp s]) (tmps : Array Value) (w w0 : World) {g2 g3 g5 : Nat} {l a : Rcd} (u : Value) (hp : tmps.getD p undef = .pointer (some ⟨g2, 0, none⟩)) (hq : tmps.getD q undef = .pointer (some ⟨g3, 0, none⟩)) (hs : tmps.getD s undef = u) (hg : GetS w0 w g2 g3 g5 l a) :
  (results fn tmps).run Tryz.prog w = .ok (.tuple #[.agg (rcL l).toArray, .agg (rcL a).toArray, u]) w := by
 have hp' : tmps[p]?.getD undef = .pointer (some ⟨g2, 0, none⟩) := by simpa using hp
 have hq' : tmps[q]?.getD undef = .pointer (some ⟨g3, 0, none⟩) := by simpa using hq
 have hs' : tmps[s]?.getD undef = u := by simpa using hs
 simp [results, h, hp', hq', hs', asAddr, run_loadVar_row w g2 _ _ _ (0, 0) _ hg.t2.2 Tryz.underlying34 rfl (rc_size hg.t2.1), run_loadVar_row w g3 _ _ _ (0, 0) _ hg.t3.2 Tryz.underlying34 rfl (rc_size hg.t3.1)]
abbrev getW (w : World) : World := ((w.alloc (.cells (rcL Rcd.zero).toArray 34)).alloc (.cells (rcL Rcd.zero).toArray 34)).alloc (.cells (rcL Rcd.zero).toArray 34)
theorem getW_is (w : World) : GetS w (getW w) w.heap.size (w.heap.size + 1) (w.heap.size + 1 + 1) Rcd.zero Rcd.zero := by
 obtain ⟨w1, hw1⟩ : ∃ w1, w.alloc (.cells (rcL Rcd.zero).toArray 34) = w1 := ⟨_, rfl⟩
 obtain ⟨w2, hw2⟩ : ∃ w2, w1.alloc (.cells (rcL Rcd.zero).toArray 34) = w2 := ⟨_, rfl⟩
 have B1 : Below w.heap.size w w1 := by rw [← hw1]; exact (Below.refl _ _).alloc (Nat.le_refl _) _
 have B2 : Below w1.heap.size w1 w2 := by rw [← hw2]; exact (Below.refl _ _).alloc (Nat.le_refl _) _
 have e1 : w1.heap.size = w.heap.size + 1 := by rw [← hw1]; simp
 have e2 : w2.heap.size = w.heap.size + 1 + 1 := by rw [← hw2]; simp [e1]
 have hE : getW w = w2.alloc (.cells (rcL Rcd.zero).toArray 34) := by rw [← hw2, ← hw1]
 have B3 : Below w2.heap.size w2 (getW w) := by rw [hE]; exact (Below.refl _ _).alloc (Nat.le_refl _) _
 have D1 : RB w1 w.heap.size Rcd.zero := by rw [← hw1]; exact RB.new w rfl
 have D2 : RB w2 w1.heap.size Rcd.zero := by rw [← hw2]; exact RB.new w1 rfl
 have D3 : RB (getW w) w2.heap.size Rcd.zero := by rw [hE]; exact RB.new w2 rfl
 rw [e1] at D2
 rw [e2] at D3
 exact ⟨(D1.to B2).to B3, D2.to B3, D3, by omega, Nat.le_refl _, by omega, (B1.trans (B2.mono B1.size)).trans (B3.mono (Nat.le_trans B1.size B2.size))⟩
end Go.Proofs.YtffdjnhhmfpkgaaGreat