/- How a window, and a slice of them, comes in. -/
import Derived.Test.YtecedmjhhaabgaaReg
namespace Go.Proofs.Ytecedmjhhaabgaa
open Go.RowKit Go.ChangeShapes Go.WideShapes Go.Deep
set_option linter.unusedVariables false

section
variable {H : Type} {enc : TypeId × Value → H} {W : World} {base : Nat} {held : Bool}
set_option maxRecDepth 100000 in
/-- A window's cells. -/
theorem trod_win {n : Nat} {cs : List Value} {x : DataW H × List MemPlace} (h : DataW.trod enc Try.prog W base (fun _ => true) held n 59 cs = some x) :
    ∃ r : Reg, cs = regL r ∧ (Lit.int .i64 r.1).wf = true ∧ (Lit.int .i64 r.2).wf = true := by
  obtain ⟨xs, k, rfl, hxx, hl, hxl, hf⟩ := DataW.trod_struct Try.underlying59 h
  have hl3 : cs.length = 2 := by rw [hl]; kernel_rfl
  have e1 : Try.prog.cellsOf 3 = 1 := by kernel_rfl
  have h0 : DataW.trod enc Try.prog W base (fun _ => true) held k 3 ((cs.drop 0).take (Try.prog.cellsOf 3)) = xs[0]? := hf 0 _ rfl
  have h2 : DataW.trod enc Try.prog W base (fun _ => true) held k 3 ((cs.drop 1).take (Try.prog.cellsOf 3)) = xs[1]? := hf 1 _ rfl
  have hx3 : xs.length = 2 := hxl
  rw [e1, List.getElem?_eq_getElem (by omega)] at h0 h2
  match cs, hl3 with
  | [c0, c2], hl3 =>
    simp only [List.drop_succ_cons, List.drop_zero, List.take_succ_cons, List.take_zero] at h0 h2
    obtain ⟨z0, g0, _, w0⟩ := DataW.trod_int Try.underlying3 h0
    obtain ⟨z2, g2, _, w2⟩ := DataW.trod_int Try.underlying3 h2
    simp only [List.cons.injEq, and_true] at g0 g2
    subst g0; subst g2
    exact ⟨(z0, z2), rfl, w0, w2⟩
set_option maxRecDepth 100000 in
/-- How a window comes in. -/
theorem open_win {r : Reach} {b0 : Nat} {v : Value} {d : DataW H} {ps : List MemPlace} (hval : Value.okWide Try.prog W r b0 59 v) (hd : DataW.Trod enc Try.prog W base (fun _ => true) held 59 v d ps) :
    ∃ x : Reg, v = .agg #[.int .i64 x.1, .int .i64 x.2] ∧ (Lit.int .i64 x.1).wf = true ∧ (Lit.int .i64 x.2).wf = true := by
  obtain ⟨cs, rfl, _⟩ := okWide_struct Try.underlying59 hval
  obtain ⟨fuel, hf⟩ := hd
  obtain ⟨x, hcs, hok⟩ := trod_win hf
  refine ⟨x, ?_, hok⟩
  have h : cs.toList = regL x := by simpa [Value.cells] using hcs
  obtain ⟨l⟩ := cs
  simp at h
  rw [h]; rfl
set_option maxRecDepth 100000 in
/-- How a slice of windows comes in. -/
theorem open_wins {r : Reach} {b0 : Nat} {v : Value} {d : DataW H} {ps : List MemPlace} (hval : Value.okWide Try.prog W r b0 22 v) (hd : DataW.Trod enc Try.prog W base (fun _ => true) held 22 v d ps) :
    ∃ a len cap l, v = .slice a len cap ∧ RdG W W.heap.size a len l ∧ len ≤ cap ∧ cap ≤ 9223372036854775807 := by
  obtain ⟨a, len, cap, rfl⟩ := okWide_slice Try.underlying22 hval
  obtain ⟨fuel, hf⟩ := hd
  have e3 : Try.prog.cellsOf 59 = 2 := by kernel_rfl
  rcases open_slice Try.underlying22 hf with ⟨hcs, _⟩ | ⟨x, l, c, m, n, D, Pl, hcs, hbx, hl, hm, hmm, hx, hi⟩
  · simp [Value.cells] at hcs
    obtain ⟨rfl, rfl, rfl⟩ := hcs
    exact ⟨none, 0, 0, [], rfl, ⟨rfl, fun h => absurd h (Nat.lt_irrefl 0)⟩, by omega, by omega⟩
  · simp [Value.cells] at hcs
    obtain ⟨rfl, rfl, rfl⟩ := hcs
    have hmc : m = cap := by simpa using hmm
    subst hmc
    rw [e3] at hi
    have each : ∀ i, i < m → ∃ f : Reg, ∀ j v, (regL f)[j]? = some v → W.cell? ((x.add (i * 2)).add j) = some v := by
      intro i hi'
      obtain ⟨cs', h1, h2⟩ := hi i hi'
      obtain ⟨f, rfl, _⟩ := trod_win h2
      obtain ⟨_, h4, h5⟩ := World.cells?_some h1
      refine ⟨f, fun j v hv => ?_⟩
      have hj : j < 2 := by
        rcases Nat.lt_or_ge j 2 with g | g
        · exact g
        · rw [List.getElem?_eq_none (by simpa [regL] using g)] at hv; cases hv
      rw [h5 j hj]; exact hv
    have hch : ∃ F : Nat → Reg, ∀ i, i < m → ∀ j v, (regL (F i))[j]? = some v → W.cell? ((x.add (i * 2)).add j) = some v := by
      refine ⟨fun i => if h : i < m then Classical.choose (each i h) else reg0, fun i h => ?_⟩
      simp only [dif_pos h]
      exact Classical.choose_spec (each i h)
    obtain ⟨F, hF⟩ := hch
    refine ⟨some x, len, m, (List.range len).map F, rfl, ⟨by simp, fun h0 => ?_⟩, hl, by unfold maxLen at hm; omega⟩
    obtain ⟨b, o, s⟩ := x
    have hc0 := hF 0 (by omega) 0 _ rfl
    obtain rfl : s = none := by simpa [Addr.add] using World.cell?_spot hc0
    have an : ∀ k o' : Nat, (⟨b, o', none⟩ : Addr).add k = ⟨b, o' + k, none⟩ := fun k o' => addr_add b o' k
    refine ⟨b, o, rfl, ?_, fun j hj => ?_⟩
    · rw [an, an] at hc0
      rcases Nat.lt_or_ge b W.heap.size with g | g
      · exact g
      · have e : ∀ o', W.cell? ⟨b, o', none⟩ = none := fun o' => by simp [World.cell?, Array.getElem?_eq_none g]
        rw [e] at hc0; cases hc0
    · have e : rat ((List.range len).map F) j = F j := by simp [rat, List.getD, hj]
      rw [e]
      have h1 := hF j (by omega) 0 _ rfl
      have h2 := hF j (by omega) 1 _ rfl
      rw [an, an] at h1 h2
      exact ⟨h1, h2⟩
end
end Go.Proofs.Ytecedmjhhaabgaa
