/- The laws' own Act (citadellaw06): how one comes in, and a slice of them, what it reads as. -/
import Derived.Test.YtbkdgciaapkemaaOpen
import Derived.Test.YtbkdgciaapkemaaKitO
import Derived.Test.YtbkdgciaapkemaaDiskM
import Derived.Deep.Slices
import Derived.Deep.Fields
import Derived.Deep.MidRow
import Derived.ChangeSame
import Derived.SizedLaws
namespace Go.Proofs.Ytbkdgciaapkemaa
open Go.RowKit Go.ChangeShapes Go.WideShapes Go.Deep
set_option linter.unusedVariables false

structure DAct where
  kind : Int
  n : Int
  b : List UInt8
def DAct.zero : DAct := ⟨0, 0, []⟩
/-- Its cells, if its bytes lie at A. -/
def actL (a : DAct) (A : Option Addr) (m c : Nat) : List Value := [.int .i64 a.kind, .int .i64 a.n, .slice A m c]
structure ActOk (w : World) (B : Nat) (a : DAct) (A : Option Addr) (m c : Nat) : Prop where
  kk : -9223372036854775808 ≤ a.kind ∧ a.kind ≤ 9223372036854775807
  nn : -9223372036854775808 ≤ a.n ∧ a.n ≤ 9223372036854775807
  rd : Rd w B A m a.b
  mc : m ≤ c
  cc : c ≤ 140737488351232
theorem ActOk.below {w w' : World} {B : Nat} {a : DAct} {A : Option Addr} {m c : Nat} (h : ActOk w B a A m c) (hb : Below B w w') : ActOk w' B a A m c := ⟨h.kk, h.nn, h.rd.below hb, h.mc, h.cc⟩
theorem ActOk.more {w : World} {B B' : Nat} {a : DAct} {A : Option Addr} {m c : Nat} (h : ActOk w B a A m c) (hB : B ≤ B') : ActOk w B' a A m c := ⟨h.kk, h.nn, h.rd.more hB, h.mc, h.cc⟩
/-- A slice of acts reads as l. -/
def RdA (w : World) (B : Nat) (A : Option Addr) (n : Nat) (l : List DAct) : Prop :=
  l.length = n ∧ (0 < n → ∃ b o, A = some ⟨b, o, none⟩ ∧ b < B ∧ ∀ j, j < n → ∃ A' m c, w.rangeAt b (o + j * 3) (actL (l.getD j DAct.zero) A' m c) ∧ ActOk w B (l.getD j DAct.zero) A' m c)
theorem RdA.below {w w' : World} {B n : Nat} {A : Option Addr} {l : List DAct} (h : RdA w B A n l) (hb : Below B w w') : RdA w' B A n l :=
  ⟨h.1, fun hn => by
    obtain ⟨b, o, e, hB, hc⟩ := h.2 hn
    refine ⟨b, o, e, hB, fun j hj => ?_⟩
    obtain ⟨A', m, c, h1, h2⟩ := hc j hj
    exact ⟨A', m, c, fun i v hv => (hb.cell (by exact hB)).trans (h1 i v hv), h2.below hb⟩⟩
theorem RdA.more {w : World} {B B' n : Nat} {A : Option Addr} {l : List DAct} (h : RdA w B A n l) (hB : B ≤ B') : RdA w B' A n l :=
  ⟨h.1, fun hn => by
    obtain ⟨b, o, e, hb, hc⟩ := h.2 hn
    refine ⟨b, o, e, by omega, fun j hj => ?_⟩
    obtain ⟨A', m, c, h1, h2⟩ := hc j hj
    exact ⟨A', m, c, h1, h2.more hB⟩⟩
theorem RdA.to {w w' : World} {n : Nat} {A : Option Addr} {l : List DAct} (h : RdA w w.heap.size A n l) (hb : Below w.heap.size w w') : RdA w' w'.heap.size A n l := (h.below hb).more hb.size

section
variable {H : Type} {enc : TypeId × Value → H} {W : World} {base : Nat} {held : Bool}
set_option maxRecDepth 100000 in
/-- An act's cells. -/
theorem trod_act {n : Nat} {cs : List Value} {x : DataW H × List MemPlace} (h : DataW.trod enc Try.prog W base (fun _ => true) held n 34 cs = some x) (hw : ∀ y ∈ x.1.weights Try.prog 34, y ≤ reachBytes) :
    ∃ a A m c, cs = actL a A m c ∧ ActOk W W.heap.size a A m c := by
  obtain ⟨xs, k, rfl, hxx, hl, hxl, hf⟩ := DataW.trod_struct Try.underlying34 h
  have hl3 : cs.length = 3 := by rw [hl]; kernel_rfl
  have e1 : Try.prog.cellsOf 3 = 1 := by kernel_rfl
  have e4 : Try.prog.cellsOf 32 = 1 := by kernel_rfl
  have h0 : DataW.trod enc Try.prog W base (fun _ => true) held k 3 ((cs.drop 0).take (Try.prog.cellsOf 3)) = xs[0]? := hf 0 _ rfl
  have h2 : DataW.trod enc Try.prog W base (fun _ => true) held k 3 ((cs.drop 1).take (Try.prog.cellsOf 3)) = xs[1]? := hf 1 _ rfl
  have h4 : DataW.trod enc Try.prog W base (fun _ => true) held k 32 ((cs.drop 2).take (Try.prog.cellsOf 32)) = xs[2]? := hf 2 _ rfl
  have hx3 : xs.length = 3 := hxl
  rw [e1, List.getElem?_eq_getElem (by omega)] at h0 h2
  rw [e4, List.getElem?_eq_getElem (by omega)] at h4
  match cs, hl3 with
  | [c0, c2, c4], hl3 =>
    simp only [List.drop_succ_cons, List.drop_zero, List.take_succ_cons, List.take_zero] at h0 h2 h4
    obtain ⟨z0, g0, _, w0⟩ := DataW.trod_int Try.underlying3 h0
    obtain ⟨z2, g2, _, w2⟩ := DataW.trod_int Try.underlying3 h2
    simp only [List.cons.injEq, and_true] at g0 g2
    subst g0; subst g2
    have hwt : ∀ y ∈ (xs[2]'(by omega)).1.weights Try.prog 32, y ≤ reachBytes := fun y hy => hw y (by
      rw [hxx]
      simp only [DataW.weights, Try.underlying34]
      exact DataW.weights_mem_each (j := 2) rfl (by rw [List.getElem?_map, List.getElem?_eq_getElem (by omega)]; rfl) y hy)
    have hB : ∃ A m c bs, c4 = .slice A m c ∧ Rd W W.heap.size A m bs ∧ m ≤ c ∧ c ≤ 140737488351232 := by
      rcases open_ints Try.underlying32 Try.underlying5 (by kernel_rfl) h4 with ⟨hcs, _⟩ | ⟨x, l, c, zs, hcs, _, hl, hm, hz, hdx, hcell, hwz⟩
      · simp only [List.cons.injEq, and_true] at hcs
        exact ⟨none, 0, 0, [], hcs, Rd.nil _ _ _, by decide, by decide⟩
      · simp only [List.cons.injEq, and_true] at hcs
        have hR : IsRow .u8 W (some x) l c zs := .inr ⟨_, rfl, hl, hm, by simpa using hz, hcell, hwz⟩
        obtain ⟨r1, r2, r3⟩ := hR.rd
        have hz' : zs.length = c := by simpa using hz
        have hcc : c ≤ reachBytes := by
          have be : Try.prog.bytesOf 5 = 1 := by kernel_rfl
          have hdd := congrArg Prod.fst hdx
          simp only at hdd
          have := hwt c (by
            rw [hdd]
            simp only [DataW.weights, Try.underlying32, be]
            refine List.mem_cons.2 (.inl ?_)
            simp [lits]
            omega)
          exact this
        exact ⟨_, _, _, _, hcs, r1, r2, by unfold reachBytes at hcc; omega⟩
    obtain ⟨A, m, c, bs, rfl, hr, hmc, hcc⟩ := hB
    exact ⟨⟨z0, z2, bs⟩, A, m, c, rfl, ⟨wf_i64 w0, wf_i64 w2, hr, hmc, hcc⟩⟩
set_option maxRecDepth 100000 in
/-- How an act comes in. -/
theorem open_act {r : Reach} {b0 : Nat} {v : Value} {d : DataW H} {ps : List MemPlace} (hval : Value.okWide Try.prog W r b0 34 v) (hd : DataW.Trod enc Try.prog W base (fun _ => true) held 34 v d ps)
    (hw : ∀ y ∈ d.weights Try.prog 34, y ≤ reachBytes) : ∃ a A m c, v = .agg (actL a A m c).toArray ∧ ActOk W W.heap.size a A m c := by
  obtain ⟨cs, rfl, _⟩ := okWide_struct Try.underlying34 hval
  obtain ⟨fuel, hf⟩ := hd
  obtain ⟨a, A, m, c, hcs, hok⟩ := trod_act hf hw
  refine ⟨a, A, m, c, ?_, hok⟩
  have h : cs.toList = actL a A m c := by simpa [Value.cells] using hcs
  rw [← h]
set_option maxRecDepth 100000 in
/-- How a slice of acts comes in. -/
theorem open_acts {r : Reach} {b0 : Nat} {v : Value} {d : DataW H} {ps : List MemPlace} (hval : Value.okWide Try.prog W r b0 22 v) (hd : DataW.Trod enc Try.prog W base (fun _ => true) held 22 v d ps)
    (hw : ∀ y ∈ d.weights Try.prog 22, y ≤ reachBytes) :
    ∃ a len cap l, v = .slice a len cap ∧ RdA W W.heap.size a len l ∧ len ≤ cap ∧ cap * 40 ≤ 140737488351232 := by
  obtain ⟨a, len, cap, rfl⟩ := okWide_slice Try.underlying22 hval
  obtain ⟨fuel, hf⟩ := hd
  have e3 : Try.prog.cellsOf 34 = 3 := by kernel_rfl
  rcases open_slice Try.underlying22 hf with ⟨hcs, _⟩ | ⟨x, l, c, m, n, D, Pl, hcs, hbx, hl, hm, hmm, hx, hi⟩
  · simp [Value.cells] at hcs
    obtain ⟨rfl, rfl, rfl⟩ := hcs
    exact ⟨none, 0, 0, [], rfl, ⟨rfl, fun h => absurd h (Nat.lt_irrefl 0)⟩, by omega, by omega⟩
  · simp [Value.cells] at hcs
    obtain ⟨rfl, rfl, rfl⟩ := hcs
    have hmc : m = cap := by simpa using hmm
    subst hmc
    rw [e3] at hi
    have hdd := congrArg Prod.fst hx
    simp only at hdd
    have b40 : Try.prog.bytesOf 34 = 40 := by kernel_rfl
    have hcap : m * 40 ≤ reachBytes := by
      have := hw (m * 40) (by
        rw [hdd]
        simp only [DataW.weights, Try.underlying22, b40]
        refine List.mem_cons.2 (.inl ?_)
        simp
        omega)
      exact this
    have hwD : ∀ i, i < m → ∀ y ∈ (D i).weights Try.prog 34, y ≤ reachBytes := fun i him y hy => hw y (by
      rw [hdd]
      simp only [DataW.weights, Try.underlying22]
      refine List.mem_cons_of_mem _ ?_
      by_cases h : i < len
      · exact List.mem_append_left _ (mem_weightsAll (List.mem_map.2 ⟨i, List.mem_range.2 h, rfl⟩) hy)
      · exact List.mem_append_right _ (mem_weightsAll (List.mem_map.2 ⟨i - len, List.mem_range.2 (by omega), by rw [show len + (i - len) = i from by omega]⟩) hy))
    have each : ∀ i, i < m → ∃ f A' m' c', (∀ j v, (actL f A' m' c')[j]? = some v → W.cell? ((x.add (i * 3)).add j) = some v) ∧ ActOk W W.heap.size f A' m' c' := by
      intro i hi'
      obtain ⟨cs', h1, h2⟩ := hi i hi'
      obtain ⟨f, A', m', c', rfl, hok⟩ := trod_act h2 (hwD i hi')
      obtain ⟨_, h4, h5⟩ := World.cells?_some h1
      refine ⟨f, A', m', c', fun j v hv => ?_, hok⟩
      have hj : j < 3 := by
        rcases Nat.lt_or_ge j 3 with g | g
        · exact g
        · rw [List.getElem?_eq_none (by simpa [actL] using g)] at hv; cases hv
      rw [h5 j hj]; exact hv
    have hch : ∃ F : Nat → DAct, ∀ i, i < m → ∃ A' m' c', (∀ j v, (actL (F i) A' m' c')[j]? = some v → W.cell? ((x.add (i * 3)).add j) = some v) ∧ ActOk W W.heap.size (F i) A' m' c' := by
      refine ⟨fun i => if h : i < m then Classical.choose (each i h) else DAct.zero, fun i h => ?_⟩
      simp only [dif_pos h]
      exact Classical.choose_spec (each i h)
    obtain ⟨F, hF⟩ := hch
    refine ⟨some x, len, m, (List.range len).map F, rfl, ⟨by simp, fun h0 => ?_⟩, hl, by unfold reachBytes at hcap; omega⟩
    obtain ⟨b, o, s⟩ := x
    obtain ⟨A0, m0, c0, h00, _⟩ := hF 0 (by omega)
    have hc0 := h00 0 _ rfl
    obtain rfl : s = none := by simpa [Addr.add] using World.cell?_spot hc0
    refine ⟨b, o, rfl, ?_, fun j hj => ?_⟩
    · rw [add_none, add_none] at hc0
      exact cell_block hc0
    · obtain ⟨A', m', c', h1, h2⟩ := hF j (by omega)
      have e : ((List.range len).map F).getD j DAct.zero = F j := by simp [List.getD, hj]
      rw [e]
      refine ⟨A', m', c', fun i v hv => ?_, h2⟩
      have := h1 i v hv
      rwa [add_none, add_none] at this
end
end Go.Proofs.Ytbkdgciaapkemaa
