/- Regions in memory: a slice of them that reads as a list (RdG), how one, and a slice of them, comes in. -/
import Derived.Test.YtecedmjhhaabgaaRegM
import Derived.Test.YtecedmjhhaabgaaBase
import Derived.Test.YtecedmjhhaabgaaChecked
import Derived.Deep.Slices
import Derived.Deep.Fields
import Derived.ChangeSame
namespace Go.Proofs.Ytecedmjhhaabgaa
open Go.RowKit Go.ChangeShapes Go.WideShapes Go.Deep
set_option linter.unusedVariables false

/-- A region as a value, its cells. -/
def regL (r : Reg) : List Value := [.int .i64 r.1, .int .i64 r.2]
/-- A slice of regions reads as l. -/
def RdG (w : World) (B : Nat) (A : Option Addr) (n : Nat) (l : List Reg) : Prop :=
  l.length = n ∧ (0 < n → ∃ b o, A = some ⟨b, o, none⟩ ∧ b < B ∧ ∀ j, j < n → w.cell? ⟨b, o + j * 2, none⟩ = some (.int .i64 (rat l j).1) ∧ w.cell? ⟨b, o + j * 2 + 1, none⟩ = some (.int .i64 (rat l j).2))
theorem RdG.nil (w : World) (B : Nat) (A : Option Addr) : RdG w B A 0 [] := ⟨rfl, fun h => absurd h (Nat.lt_irrefl 0)⟩
theorem RdG.below {w w' : World} {B n : Nat} {A : Option Addr} {l : List Reg} (h : RdG w B A n l) (hb : Below B w w') : RdG w' B A n l :=
  ⟨h.1, fun hn => by
    obtain ⟨b, o, e, hB, hc⟩ := h.2 hn
    exact ⟨b, o, e, hB, fun j hj => ⟨(hb.cell (by exact hB)).trans (hc j hj).1, (hb.cell (by exact hB)).trans (hc j hj).2⟩⟩⟩
theorem RdG.more {w : World} {B B' n : Nat} {A : Option Addr} {l : List Reg} (h : RdG w B A n l) (hB : B ≤ B') : RdG w B' A n l :=
  ⟨h.1, fun hn => by
    obtain ⟨b, o, e, hb, hc⟩ := h.2 hn
    exact ⟨b, o, e, by omega, hc⟩⟩
theorem RdG.to {w w' : World} {n : Nat} {A : Option Addr} {l : List Reg} (h : RdG w w.heap.size A n l) (hb : Below w.heap.size w w') : RdG w' w'.heap.size A n l := (h.below hb).more hb.size
theorem RdG.drewN {w : World} {B n : Nat} {A : Option Addr} {l : List Reg} (h : RdG w B A n l) (k : Nat) : RdG (w.drewN k) B A n l := h
theorem cell_in {W : World} {p : Addr} {v : Value} (h : W.cell? p = some v) : p.block < W.heap.size := by
  rcases Nat.lt_or_ge p.block W.heap.size with g | g
  · exact g
  · have e : W.cell? p = none := by simp [World.cell?, Array.getElem?_eq_none g]
    rw [e] at h; cases h
theorem Below.kept {W W' : World} {p : Addr} {v : Value} (hb : Below W.heap.size W W') (h : W.cell? p = some v) : W'.cell? p = some v := (hb.cell (cell_in h)).trans h
/-- What a contract off the shelf asks of the cells. -/
theorem RdG.shelf {w : World} {n b o : Nat} {l : List Reg} (hl : l.length = n) (hc : ∀ j, j < n → w.cell? ⟨b, o + j * 2, none⟩ = some (.int .i64 (rat l j).1) ∧ w.cell? ⟨b, o + j * 2 + 1, none⟩ = some (.int .i64 (rat l j).2)) :
    ∀ j, j < l.length → ∀ i v, (regL l[j]!)[i]? = some v → w.cell? ⟨b, o + j * 2 + i, none⟩ = some v := by
  intro j hj i v hv
  have h1 := hc j (by omega)
  rw [rat_bang hj] at hv
  match i, hv with
  | 0, hv => simp [regL] at hv; rw [← hv]; exact h1.1
  | 1, hv => simp [regL] at hv; rw [← hv]; exact h1.2
  | i + 2, hv => simp [regL] at hv

theorem addr_add (b o k : Nat) : (⟨b, o, none⟩ : Addr).add k = ⟨b, o + k, none⟩ := by unfold Addr.add; split <;> simp_all
section
variable {H : Type} {enc : TypeId × Value → H} {W : World} {base : Nat} {held : Bool}
set_option maxRecDepth 100000 in
/-- A region's cells. -/
theorem trod_reg {n : Nat} {cs : List Value} {x : DataW H × List MemPlace} (h : DataW.trod enc Try.prog W base (fun _ => true) held n 40 cs = some x) :
    ∃ r : Reg, cs = regL r ∧ (Lit.int .i64 r.1).wf = true ∧ (Lit.int .i64 r.2).wf = true := by
  obtain ⟨xs, k, rfl, hxx, hl, hxl, hf⟩ := DataW.trod_struct Try.underlying40 h
  have hl3 : cs.length = 2 := by rw [hl]; kernel_rfl
  have e1 : Try.prog.cellsOf 3 = 1 := by kernel_rfl
  have h0 : DataW.trod enc Try.prog W base (fun _ => true) held k 3 ((cs.drop 0).take (Try.prog.cellsOf 3)) = xs[0]? := hf 0 _ rfl
  have h2 : DataW.trod enc Try.prog W base (fun _ => true) held k 3 ((cs.drop 1).take (Try.prog.cellsOf 3)) = xs[1]? := hf 1 _ rfl
  have hx3 : xs.length = 2 := hxl
  rw [e1, List.getElem?_eq_getElem (by omega)] at h0 h2
  match cs, hl3 with
  | [c0, c2], hl3 =>
    simp only [List.drop_succ_cons, List.drop_zero, List.take_succ_cons, List.take_zero] at h0 h2
    obtain ⟨z0, g0, _, w0⟩ := DataW.trod_int Try.underlying3 h0
    obtain ⟨z2, g2, _, w2⟩ := DataW.trod_int Try.underlying3 h2
    simp only [List.cons.injEq, and_true] at g0 g2
    subst g0; subst g2
    exact ⟨(z0, z2), rfl, w0, w2⟩
set_option maxRecDepth 100000 in
/-- How a region comes in. -/
theorem open_reg {r : Reach} {b0 : Nat} {v : Value} {d : DataW H} {ps : List MemPlace} (hval : Value.okWide Try.prog W r b0 40 v) (hd : DataW.Trod enc Try.prog W base (fun _ => true) held 40 v d ps) :
    ∃ x : Reg, v = .agg #[.int .i64 x.1, .int .i64 x.2] ∧ (Lit.int .i64 x.1).wf = true ∧ (Lit.int .i64 x.2).wf = true := by
  obtain ⟨cs, rfl, _⟩ := okWide_struct Try.underlying40 hval
  obtain ⟨fuel, hf⟩ := hd
  obtain ⟨x, hcs, hok⟩ := trod_reg hf
  refine ⟨x, ?_, hok⟩
  have h : cs.toList = regL x := by simpa [Value.cells] using hcs
  obtain ⟨l⟩ := cs
  simp at h
  rw [h]; rfl
set_option maxRecDepth 100000 in
/-- How a slice of regions comes in. -/
theorem open_regs {r : Reach} {b0 : Nat} {v : Value} {d : DataW H} {ps : List MemPlace} (hval : Value.okWide Try.prog W r b0 87 v) (hd : DataW.Trod enc Try.prog W base (fun _ => true) held 87 v d ps) :
    ∃ a len cap l, v = .slice a len cap ∧ RdG W W.heap.size a len l ∧ len ≤ cap ∧ cap ≤ 9223372036854775807 := by
  obtain ⟨a, len, cap, rfl⟩ := okWide_slice Try.underlying87 hval
  obtain ⟨fuel, hf⟩ := hd
  have e3 : Try.prog.cellsOf 40 = 2 := by kernel_rfl
  rcases open_slice Try.underlying87 hf with ⟨hcs, _⟩ | ⟨x, l, c, m, n, D, Pl, hcs, hbx, hl, hm, hmm, hx, hi⟩
  · simp [Value.cells] at hcs
    obtain ⟨rfl, rfl, rfl⟩ := hcs
    exact ⟨none, 0, 0, [], rfl, ⟨rfl, fun h => absurd h (Nat.lt_irrefl 0)⟩, by omega, by omega⟩
  · simp [Value.cells] at hcs
    obtain ⟨rfl, rfl, rfl⟩ := hcs
    have hmc : m = cap := by simpa using hmm
    subst hmc
    rw [e3] at hi
    have each : ∀ i, i < m → ∃ f : Reg, ∀ j v, (regL f)[j]? = some v → W.cell? ((x.add (i * 2)).add j) = some v := by
      intro i hi'
      obtain ⟨cs', h1, h2⟩ := hi i hi'
      obtain ⟨f, rfl, _⟩ := trod_reg h2
      obtain ⟨_, h4, h5⟩ := World.cells?_some h1
      refine ⟨f, fun j v hv => ?_⟩
      have hj : j < 2 := by
        rcases Nat.lt_or_ge j 2 with g | g
        · exact g
        · rw [List.getElem?_eq_none (by simpa [regL] using g)] at hv; cases hv
      rw [h5 j hj]; exact hv
    have hch : ∃ F : Nat → Reg, ∀ i, i < m → ∀ j v, (regL (F i))[j]? = some v → W.cell? ((x.add (i * 2)).add j) = some v := by
      refine ⟨fun i => if h : i < m then Classical.choose (each i h) else reg0, fun i h => ?_⟩
      simp only [dif_pos h]
      exact Classical.choose_spec (each i h)
    obtain ⟨F, hF⟩ := hch
    refine ⟨some x, len, m, (List.range len).map F, rfl, ⟨by simp, fun h0 => ?_⟩, hl, by unfold maxLen at hm; omega⟩
    obtain ⟨b, o, s⟩ := x
    have hc0 := hF 0 (by omega) 0 _ rfl
    obtain rfl : s = none := by simpa [Addr.add] using World.cell?_spot hc0
    have an : ∀ k o' : Nat, (⟨b, o', none⟩ : Addr).add k = ⟨b, o' + k, none⟩ := fun k o' => addr_add b o' k
    refine ⟨b, o, rfl, ?_, fun j hj => ?_⟩
    · rw [an, an] at hc0
      rcases Nat.lt_or_ge b W.heap.size with g | g
      · exact g
      · have e : ∀ o', W.cell? ⟨b, o', none⟩ = none := fun o' => by simp [World.cell?, Array.getElem?_eq_none g]
        rw [e] at hc0; cases hc0
    · have e : rat ((List.range len).map F) j = F j := by simp [rat, List.getD, hj]
      rw [e]
      have h1 := hF j (by omega) 0 _ rfl
      have h2 := hF j (by omega) 1 _ rfl
      rw [an, an] at h1 h2
      exact ⟨h1, h2⟩
end
end Go.Proofs.Ytecedmjhhaabgaa
