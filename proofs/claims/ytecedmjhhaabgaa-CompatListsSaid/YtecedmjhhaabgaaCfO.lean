/- Configurations in memory: partitions (RdP), a configuration's three slices (RdCf), how one comes in. -/
import Derived.Test.YtecedmjhhaabgaaWin
import Derived.Test.YtecedmjhhaabgaaChO
import Derived.Test.YtecedmjhhaabgaaKitO
namespace Go.Proofs.Ytecedmjhhaabgaa
open Go.RowKit Go.ChangeShapes Go.WideShapes Go.Deep
set_option linter.unusedVariables false

structure Pt where
  id : Int
  base : Int
  size : Int
  keep : Bool
  img : List UInt8
deriving DecidableEq
def Pt.zero : Pt := ⟨0, 0, 0, false, []⟩
def ptAt (l : List Pt) (j : Nat) : Pt := l.getD j Pt.zero
theorem ptAt_lt {l : List Pt} {j : Nat} (h : j < l.length) : ptAt l j = l[j] := by simp [ptAt, List.getD, List.getElem?_eq_getElem h]
def ptL (p : Pt) (A : Option Addr) (m c : Nat) : List Value := [.int .i64 p.id, .int .i64 p.base, .int .i64 p.size, .bool p.keep, .slice A m c]
structure Cf where
  ws : List Reg
  ps : List Pt
  cs : List Ch
deriving DecidableEq
/-- Numbers are ints'. -/
def WinWf (r : Reg) : Prop := (Lit.int .i64 r.1).wf = true ∧ (Lit.int .i64 r.2).wf = true
def PtWf (p : Pt) : Prop := (Lit.int .i64 p.id).wf = true ∧ (Lit.int .i64 p.base).wf = true ∧ (Lit.int .i64 p.size).wf = true
def CfWf (c : Cf) : Prop := (∀ r ∈ c.ws, WinWf r) ∧ (∀ p ∈ c.ps, PtWf p) ∧ ∀ x ∈ c.cs, ChWf x
/-- The slices of a configuration. -/
structure CV where
  aw : Option Addr
  nw : Nat
  kw : Nat
  ap : Option Addr
  np : Nat
  kp : Nat
  ac : Option Addr
  nc : Nat
  kc : Nat
def CV.val (v : CV) : Value := .agg #[.slice v.aw v.nw v.kw, .slice v.ap v.np v.kp, .slice v.ac v.nc v.kc]
/-- A slice of partitions reads as l. -/
def RdP (w : World) (B : Nat) (A : Option Addr) (n : Nat) (l : List Pt) : Prop :=
  l.length = n ∧ (0 < n → ∃ b o, A = some ⟨b, o, none⟩ ∧ b < B ∧ ∀ j, j < n → ∃ A' m c, (∀ i v, (ptL (ptAt l j) A' m c)[i]? = some v → w.cell? ⟨b, o + j * 5 + i, none⟩ = some v) ∧ Rd w B A' m (ptAt l j).img ∧ m ≤ c ∧ c ≤ 9223372036854775807 ∧ m ≤ 140737488351232)
theorem RdP.nil (w : World) (B : Nat) (A : Option Addr) : RdP w B A 0 [] := ⟨rfl, fun h => absurd h (Nat.lt_irrefl 0)⟩
theorem RdP.below {w w' : World} {B n : Nat} {A : Option Addr} {l : List Pt} (h : RdP w B A n l) (hb : Below B w w') : RdP w' B A n l :=
  ⟨h.1, fun hn => by
    obtain ⟨b, o, e, hB, hc⟩ := h.2 hn
    refine ⟨b, o, e, hB, fun j hj => ?_⟩
    obtain ⟨A', m, c, h1, h2, h3⟩ := hc j hj
    exact ⟨A', m, c, fun i v hv => (hb.cell (p := ⟨b, _, none⟩) hB).trans (h1 i v hv), h2.below hb, h3⟩⟩
theorem RdP.more {w : World} {B B' n : Nat} {A : Option Addr} {l : List Pt} (h : RdP w B A n l) (hB : B ≤ B') : RdP w B' A n l :=
  ⟨h.1, fun hn => by
    obtain ⟨b, o, e, hb, hc⟩ := h.2 hn
    refine ⟨b, o, e, by omega, fun j hj => ?_⟩
    obtain ⟨A', m, c, h1, h2, h3⟩ := hc j hj
    exact ⟨A', m, c, h1, h2.more hB, h3⟩⟩
theorem RdP.to {w w' : World} {n : Nat} {A : Option Addr} {l : List Pt} (h : RdP w w.heap.size A n l) (hb : Below w.heap.size w w') : RdP w' w'.heap.size A n l := (h.below hb).more hb.size
theorem RdP.at_ {w : World} {B n j : Nat} {A : Option Addr} {l : List Pt} (h : RdP w B A n l) (hj : j < n) : ∃ b o A' m c, A = some ⟨b, o, none⟩ ∧
    w.cell? ⟨b, o + j * 5, none⟩ = some (.int .i64 (ptAt l j).id) ∧ w.cell? ⟨b, o + j * 5 + 1, none⟩ = some (.int .i64 (ptAt l j).base) ∧ w.cell? ⟨b, o + j * 5 + 2, none⟩ = some (.int .i64 (ptAt l j).size) ∧
    w.cell? ⟨b, o + j * 5 + 3, none⟩ = some (.bool (ptAt l j).keep) ∧ w.cell? ⟨b, o + j * 5 + 4, none⟩ = some (.slice A' m c) ∧ Rd w B A' m (ptAt l j).img ∧ m ≤ c ∧ c ≤ 9223372036854775807 ∧ m ≤ 140737488351232 := by
  obtain ⟨b, o, e, _, hc⟩ := h.2 (by omega)
  obtain ⟨A', m, c, h1, h2, h3⟩ := hc j hj
  exact ⟨b, o, A', m, c, e, h1 0 _ rfl, h1 1 _ rfl, h1 2 _ rfl, h1 3 _ rfl, h1 4 _ rfl, h2, h3⟩
theorem RdC.more' {w : World} {B B' n : Nat} {A : Option Addr} {l : List Ch} (h : RdC w B A n l) (hB : B ≤ B') : RdC w B' A n l :=
  ⟨h.1, fun hn => by obtain ⟨b, o, e, hb, hc⟩ := h.2 hn; exact ⟨b, o, e, Nat.lt_of_lt_of_le hb hB, hc⟩⟩
/-- A configuration reads as c. -/
structure RdCf (w : World) (B : Nat) (v : CV) (c : Cf) : Prop where
  ww : RdG w B v.aw v.nw c.ws
  pp : RdP w B v.ap v.np c.ps
  cc : RdC w B v.ac v.nc c.cs
  kw : v.nw ≤ v.kw
  kp : v.np ≤ v.kp
  kc : v.nc ≤ v.kc
theorem RdCf.below {w w' : World} {B : Nat} {v : CV} {c : Cf} (h : RdCf w B v c) (hb : Below B w w') : RdCf w' B v c := ⟨h.ww.below hb, h.pp.below hb, h.cc.below hb, h.kw, h.kp, h.kc⟩
theorem RdCf.more {w : World} {B B' : Nat} {v : CV} {c : Cf} (h : RdCf w B v c) (hB : B ≤ B') : RdCf w B' v c := ⟨h.ww.more hB, h.pp.more hB, h.cc.more' hB, h.kw, h.kp, h.kc⟩
theorem RdCf.to {w w' : World} {v : CV} {c : Cf} (h : RdCf w w.heap.size v c) (hb : Below w.heap.size w w') : RdCf w' w'.heap.size v c := (h.below hb).more hb.size
/-- A configuration in a box. -/
structure Cfx (w : World) (g : Nat) (v : CV) : Prop where
  c0 : w.cell? ⟨g, 0, none⟩ = some (.slice v.aw v.nw v.kw)
  c1 : w.cell? ⟨g, 1, none⟩ = some (.slice v.ap v.np v.kp)
  c2 : w.cell? ⟨g, 2, none⟩ = some (.slice v.ac v.nc v.kc)
  lt : g < w.heap.size
theorem Cfx.to {w w' : World} {g : Nat} {v : CV} (h : Cfx w g v) (hb : Below w.heap.size w w') : Cfx w' g v :=
  ⟨(hb.cell h.lt).trans h.c0, (hb.cell h.lt).trans h.c1, (hb.cell h.lt).trans h.c2, Nat.lt_of_lt_of_le h.lt hb.size⟩
theorem Cfx.kept {R : Nat → Prop} {w w' : World} {g : Nat} {v : CV} (h : Cfx w g v) (hk : Keep R w w') (hn : ¬ R g) : Cfx w' g v :=
  ⟨(hk.cell h.lt hn).trans h.c0, (hk.cell h.lt hn).trans h.c1, (hk.cell h.lt hn).trans h.c2, Nat.lt_of_lt_of_le h.lt hk.size⟩
theorem Cfx.new (w : World) (v : CV) (T : TypeId) : Cfx (w.alloc (.cells #[.slice v.aw v.nw v.kw, .slice v.ap v.np v.kp, .slice v.ac v.nc v.kc] T)) w.heap.size v := ⟨by simp, by simp, by simp, by simp⟩

section
variable {H : Type} {enc : TypeId × Value → H} {W : World} {base : Nat} {held : Bool}
set_option maxRecDepth 100000 in
/-- A partition's cells. -/
theorem trod_pt {n : Nat} {cs : List Value} {x : DataW H × List MemPlace} (h : DataW.trod enc Try.prog W base (fun _ => true) held n 43 cs = some x) (hw : ∀ y ∈ x.1.weights Try.prog 43, y ≤ reachBytes) :
    ∃ p A m c, cs = ptL p A m c ∧ (Rd W W.heap.size A m p.img ∧ m ≤ c ∧ c ≤ 140737488351232) ∧ PtWf p := by
  obtain ⟨xs, k, rfl, hxx, hl, hxl, hf⟩ := DataW.trod_struct Try.underlying43 h
  have hl5 : cs.length = 5 := by rw [hl]; kernel_rfl
  have e1 : Try.prog.cellsOf 3 = 1 := by kernel_rfl
  have e2 : Try.prog.cellsOf 40 = 2 := by kernel_rfl
  have e3 : Try.prog.cellsOf 4 = 1 := by kernel_rfl
  have e4 : Try.prog.cellsOf 41 = 1 := by kernel_rfl
  have h0 : DataW.trod enc Try.prog W base (fun _ => true) held k 3 ((cs.drop 0).take (Try.prog.cellsOf 3)) = xs[0]? := hf 0 _ rfl
  have h1 : DataW.trod enc Try.prog W base (fun _ => true) held k 40 ((cs.drop 1).take (Try.prog.cellsOf 40)) = xs[1]? := hf 1 _ rfl
  have h2 : DataW.trod enc Try.prog W base (fun _ => true) held k 4 ((cs.drop 3).take (Try.prog.cellsOf 4)) = xs[2]? := hf 2 _ rfl
  have h3 : DataW.trod enc Try.prog W base (fun _ => true) held k 41 ((cs.drop 4).take (Try.prog.cellsOf 41)) = xs[3]? := hf 3 _ rfl
  have hx4 : xs.length = 4 := hxl
  rw [e1, List.getElem?_eq_getElem (by omega)] at h0
  rw [e2, List.getElem?_eq_getElem (by omega)] at h1
  rw [e3, List.getElem?_eq_getElem (by omega)] at h2
  rw [e4, List.getElem?_eq_getElem (by omega)] at h3
  match cs, hl5 with
  | [c0, c1, c2, c3, c4], hl5 =>
    simp only [List.drop_succ_cons, List.drop_zero, List.take_succ_cons, List.take_zero] at h0 h1 h2 h3
    obtain ⟨z0, g0, _, w0⟩ := DataW.trod_int Try.underlying3 h0
    obtain ⟨r, g1, wr⟩ := trod_reg h1
    obtain ⟨b3, g3, _⟩ := DataW.trod_bool Try.underlying4 h2
    simp only [List.cons.injEq, and_true, regL] at g0 g1 g3
    obtain ⟨g1, g2⟩ := g1
    subst g0; subst g1; subst g2; subst g3
    have hwt : ∀ y ∈ (xs[3]'(by omega)).1.weights Try.prog 41, y ≤ reachBytes := fun y hy => hw y (by
      rw [hxx]
      simp only [DataW.weights, Try.underlying43]
      exact DataW.weights_mem_each (j := 3) rfl (by rw [List.getElem?_map, List.getElem?_eq_getElem (by omega)]; rfl) y hy)
    have hB : ∃ A m c bs, c4 = .slice A m c ∧ Rd W W.heap.size A m bs ∧ m ≤ c ∧ c ≤ 140737488351232 := by
      rcases open_ints Try.underlying41 Try.underlying5 (by kernel_rfl) h3 with ⟨hcs, _⟩ | ⟨x, l, c, zs, hcs, _, hl, hm, hz, hdx, hcell, hwz⟩
      · simp only [List.cons.injEq, and_true] at hcs
        exact ⟨none, 0, 0, [], hcs, Rd.nil _ _ _, by decide, by decide⟩
      · simp only [List.cons.injEq, and_true] at hcs
        have hR : IsRow .u8 W (some x) l c zs := .inr ⟨_, rfl, hl, hm, by simpa using hz, hcell, hwz⟩
        obtain ⟨r1, r2, r3⟩ := hR.rd
        have hz' : zs.length = c := by simpa using hz
        have hcc : c ≤ reachBytes := by
          have be : Try.prog.bytesOf 5 = 1 := by kernel_rfl
          have hdd := congrArg Prod.fst hdx
          simp only at hdd
          have := hwt c (by
            rw [hdd]
            simp only [DataW.weights, Try.underlying41, be]
            refine List.mem_cons.2 (.inl ?_)
            simp [lits]
            omega)
          exact this
        exact ⟨_, _, _, _, hcs, r1, r2, by unfold reachBytes at hcc; omega⟩
    obtain ⟨A, m, c, bs, rfl, hr, hmc, hcc⟩ := hB
    exact ⟨⟨z0, r.1, r.2, b3, bs⟩, A, m, c, rfl, ⟨hr, hmc, hcc⟩, w0, wr.1, wr.2⟩
/-- A slice of partitions within another value. -/
theorem trod_pts {fuel : Nat} {v : Value} {d : DataW H} {ps : List MemPlace} (hf : DataW.trod enc Try.prog W base (fun _ => true) held fuel 23 [v] = some (d, ps)) (hw : ∀ y ∈ d.weights Try.prog 23, y ≤ reachBytes) :
    ∃ a len cap l, v = .slice a len cap ∧ RdP W W.heap.size a len l ∧ len ≤ cap ∧ cap ≤ 9223372036854775807 ∧ ∀ p ∈ l, PtWf p := by
  have e5 : Try.prog.cellsOf 43 = 5 := by kernel_rfl
  rcases open_slice Try.underlying23 hf with ⟨hcs, _⟩ | ⟨x, len, cap, m, n, D, Pl, hcs, hbx, hl, hm, hmm, hx, hi⟩
  · simp only [List.cons.injEq, and_true] at hcs
    subst hcs
    exact ⟨none, 0, 0, [], rfl, RdP.nil _ _ _, by omega, by omega, fun _ h => by cases h⟩
  · simp only [List.cons.injEq, and_true] at hcs
    subst hcs
    have hmc : m = cap := by simpa using hmm
    subst hmc
    rw [e5] at hi
    have hdd := congrArg Prod.fst hx
    simp only at hdd
    have hwD : ∀ i, i < m → ∀ y ∈ (D i).weights Try.prog 43, y ≤ reachBytes := fun i him y hy => hw y (by
      rw [hdd]
      simp only [DataW.weights, Try.underlying23]
      refine List.mem_cons_of_mem _ ?_
      by_cases h : i < len
      · exact List.mem_append_left _ (mem_weightsAll (List.mem_map.2 ⟨i, List.mem_range.2 h, rfl⟩) hy)
      · exact List.mem_append_right _ (mem_weightsAll (List.mem_map.2 ⟨i - len, List.mem_range.2 (by omega), by rw [show len + (i - len) = i from by omega]⟩) hy))
    have each : ∀ i, ∃ p : Pt, i < m → ∃ A' m' c', (∀ j u, (ptL p A' m' c')[j]? = some u → W.cell? ((x.add (i * 5)).add j) = some u) ∧ (Rd W W.heap.size A' m' p.img ∧ m' ≤ c' ∧ c' ≤ 140737488351232) ∧ PtWf p := by
      intro i
      by_cases hi' : i < m
      · obtain ⟨cs', h1, h2⟩ := hi i hi'
        obtain ⟨p, A', m', c', rfl, hok⟩ := trod_pt h2 (hwD i hi')
        obtain ⟨_, h4, h5⟩ := World.cells?_some h1
        refine ⟨p, fun _ => ⟨A', m', c', fun j u hv => ?_, hok⟩⟩
        have hj : j < 5 := by
          rcases Nat.lt_or_ge j 5 with g | g
          · exact g
          · rw [List.getElem?_eq_none (by simp [ptL]; exact g)] at hv; cases hv
        rw [h5 j hj]; exact hv
      · exact ⟨Pt.zero, fun h => absurd h hi'⟩
    obtain ⟨F, hF⟩ := Classical.axiomOfChoice each
    refine ⟨some x, len, m, (List.range len).map F, rfl, ⟨by simp, fun h0 => ?_⟩, hl, by unfold maxLen at hm; omega, fun p hp => by
      obtain ⟨i, hi', rfl⟩ := List.mem_map.1 hp
      have hi'' := List.mem_range.1 hi'
      obtain ⟨_, _, _, _, _, h⟩ := hF i (by omega)
      exact h⟩
    obtain ⟨b, o, s⟩ := x
    obtain ⟨A0, m0, c0, h00, _⟩ := hF 0 (by omega)
    have hc0 := h00 0 _ rfl
    obtain rfl : s = none := by simpa [Addr.add] using World.cell?_spot hc0
    refine ⟨b, o, rfl, ?_, fun j hj => ?_⟩
    · rw [add_none, add_none] at hc0
      exact cell_block hc0
    · obtain ⟨A', m', c', h1, h2, _⟩ := hF j (by omega)
      have e : ptAt ((List.range len).map F) j = F j := by simp [ptAt, List.getD, hj]
      rw [e]
      refine ⟨A', m', c', fun i u hv => ?_, h2.1, h2.2.1, by have := h2.2; omega, by have := h2.2; omega⟩
      have := h1 i u hv
      rwa [add_none, add_none] at this
/-- A slice of windows within another value. -/
theorem trod_wins {fuel : Nat} {v : Value} {d : DataW H} {ps : List MemPlace} (hf : DataW.trod enc Try.prog W base (fun _ => true) held fuel 22 [v] = some (d, ps)) :
    ∃ a len cap l, v = .slice a len cap ∧ RdG W W.heap.size a len l ∧ len ≤ cap ∧ cap ≤ 9223372036854775807 ∧ ∀ p ∈ l, WinWf p := by
  have e5 : Try.prog.cellsOf 59 = 2 := by kernel_rfl
  rcases open_slice Try.underlying22 hf with ⟨hcs, _⟩ | ⟨x, len, cap, m, n, D, Pl, hcs, hbx, hl, hm, hmm, hx, hi⟩
  · simp only [List.cons.injEq, and_true] at hcs
    subst hcs
    exact ⟨none, 0, 0, [], rfl, ⟨rfl, fun h => absurd h (Nat.lt_irrefl 0)⟩, by omega, by omega, fun _ h => by cases h⟩
  · simp only [List.cons.injEq, and_true] at hcs
    subst hcs
    have hmc : m = cap := by simpa using hmm
    subst hmc
    rw [e5] at hi
    have each : ∀ i, ∃ p : Reg, i < m → (∀ j u, (regL p)[j]? = some u → W.cell? ((x.add (i * 2)).add j) = some u) ∧ WinWf p := by
      intro i
      by_cases hi' : i < m
      · obtain ⟨cs', h1, h2⟩ := hi i hi'
        obtain ⟨p, rfl, hwf⟩ := trod_win h2
        obtain ⟨_, h4, h5⟩ := World.cells?_some h1
        refine ⟨p, fun _ => ⟨fun j u hv => ?_, hwf⟩⟩
        have hj : j < 2 := by
          rcases Nat.lt_or_ge j 2 with g | g
          · exact g
          · rw [List.getElem?_eq_none (by simp [regL]; exact g)] at hv; cases hv
        rw [h5 j hj]; exact hv
      · exact ⟨reg0, fun h => absurd h hi'⟩
    obtain ⟨F, hF⟩ := Classical.axiomOfChoice each
    refine ⟨some x, len, m, (List.range len).map F, rfl, ⟨by simp, fun h0 => ?_⟩, hl, by unfold maxLen at hm; omega, fun p hp => by
      obtain ⟨i, hi', rfl⟩ := List.mem_map.1 hp
      have hi'' := List.mem_range.1 hi'
      exact (hF i (by omega)).2⟩
    obtain ⟨b, o, s⟩ := x
    have hc0 := (hF 0 (by omega)).1 0 _ rfl
    obtain rfl : s = none := by simpa [Addr.add] using World.cell?_spot hc0
    refine ⟨b, o, rfl, ?_, fun j hj => ?_⟩
    · rw [add_none, add_none] at hc0
      exact cell_block hc0
    · have e : rat ((List.range len).map F) j = F j := by simp [rat, List.getD, hj]
      rw [e]
      have h1 := (hF j (by omega)).1 0 _ rfl
      have h2 := (hF j (by omega)).1 1 _ rfl
      rw [add_none, add_none] at h1 h2
      exact ⟨h1, h2⟩
/-- A slice of channels within another value. -/
theorem trod_chs {fuel : Nat} {v : Value} {d : DataW H} {ps : List MemPlace} (hf : DataW.trod enc Try.prog W base (fun _ => true) held fuel 24 [v] = some (d, ps)) :
    ∃ a len cap l, v = .slice a len cap ∧ RdC W W.heap.size a len l ∧ len ≤ cap ∧ cap ≤ 9223372036854775807 ∧ ∀ p ∈ l, ChWf p := by
  have e5 : Try.prog.cellsOf 47 = 5 := by kernel_rfl
  rcases open_slice Try.underlying24 hf with ⟨hcs, _⟩ | ⟨x, len, cap, m, n, D, Pl, hcs, hbx, hl, hm, hmm, hx, hi⟩
  · simp only [List.cons.injEq, and_true] at hcs
    subst hcs
    exact ⟨none, 0, 0, [], rfl, ⟨rfl, fun h => absurd h (Nat.lt_irrefl 0)⟩, by omega, by omega, fun _ h => by cases h⟩
  · simp only [List.cons.injEq, and_true] at hcs
    subst hcs
    have hmc : m = cap := by simpa using hmm
    subst hmc
    rw [e5] at hi
    have each : ∀ i, ∃ p : Ch, i < m → (∀ j u, (chL p)[j]? = some u → W.cell? ((x.add (i * 5)).add j) = some u) ∧ ChWf p := by
      intro i
      by_cases hi' : i < m
      · obtain ⟨cs', h1, h2⟩ := hi i hi'
        obtain ⟨p, rfl, hwf⟩ := trod_ch h2
        obtain ⟨_, h4, h5⟩ := World.cells?_some h1
        refine ⟨p, fun _ => ⟨fun j u hv => ?_, hwf⟩⟩
        have hj : j < 5 := by
          rcases Nat.lt_or_ge j 5 with g | g
          · exact g
          · rw [List.getElem?_eq_none (by simp [chL]; exact g)] at hv; cases hv
        rw [h5 j hj]; exact hv
      · exact ⟨Ch.zero, fun h => absurd h hi'⟩
    obtain ⟨F, hF⟩ := Classical.axiomOfChoice each
    refine ⟨some x, len, m, (List.range len).map F, rfl, ⟨by simp, fun h0 => ?_⟩, hl, by unfold maxLen at hm; omega, fun p hp => by
      obtain ⟨i, hi', rfl⟩ := List.mem_map.1 hp
      have hi'' := List.mem_range.1 hi'
      exact (hF i (by omega)).2⟩
    obtain ⟨b, o, s⟩ := x
    have hc0 := (hF 0 (by omega)).1 0 _ rfl
    obtain rfl : s = none := by simpa [Addr.add] using World.cell?_spot hc0
    refine ⟨b, o, rfl, ?_, fun j hj => ?_⟩
    · rw [add_none, add_none] at hc0
      exact cell_block hc0
    · have e : chAt ((List.range len).map F) j = F j := by simp [chAt, List.getD, hj]
      rw [e]
      intro i u hv
      have := (hF j (by omega)).1 i u hv
      rwa [add_none, add_none] at this
set_option maxRecDepth 100000 in
/-- How a configuration comes in. -/
theorem open_config {r : Reach} {b0 : Nat} {v : Value} {d : DataW H} {ps : List MemPlace} (hval : Value.okWide Try.prog W r b0 26 v) (hd : DataW.Trod enc Try.prog W base (fun _ => true) held 26 v d ps)
    (hw : ∀ y ∈ d.weights Try.prog 26, y ≤ reachBytes) :
    ∃ (x : CV) (c : Cf), v = x.val ∧ RdCf W W.heap.size x c ∧ x.kw ≤ 9223372036854775807 ∧ x.kp ≤ 9223372036854775807 ∧ x.kc ≤ 9223372036854775807 ∧ CfWf c := by
  obtain ⟨cs, rfl, _⟩ := okWide_struct Try.underlying26 hval
  obtain ⟨fuel, hf⟩ := hd
  obtain ⟨xs, k, rfl, hxx, hl, hxl, hq⟩ := DataW.trod_struct Try.underlying26 hf
  simp only [Value.cells] at hl hq
  have hl3 : cs.toList.length = 3 := by rw [hl]; kernel_rfl
  have e0 : Try.prog.cellsOf 22 = 1 := by kernel_rfl
  have e1 : Try.prog.cellsOf 23 = 1 := by kernel_rfl
  have e2 : Try.prog.cellsOf 24 = 1 := by kernel_rfl
  have h0 : DataW.trod enc Try.prog W base (fun _ => true) held k 22 ((cs.toList.drop 0).take (Try.prog.cellsOf 22)) = xs[0]? := hq 0 _ rfl
  have h1 : DataW.trod enc Try.prog W base (fun _ => true) held k 23 ((cs.toList.drop 1).take (Try.prog.cellsOf 23)) = xs[1]? := hq 1 _ rfl
  have h2 : DataW.trod enc Try.prog W base (fun _ => true) held k 24 ((cs.toList.drop 2).take (Try.prog.cellsOf 24)) = xs[2]? := hq 2 _ rfl
  have hx3 : xs.length = 3 := hxl
  rw [List.getElem?_eq_getElem (by omega)] at h0 h1 h2
  rw [e0] at h0
  rw [e1] at h1
  rw [e2] at h2
  have hdx := congrArg Prod.fst hxx
  simp only at hdx
  have hwt : ∀ y ∈ (xs[1]'(by omega)).1.weights Try.prog 23, y ≤ reachBytes := fun y hy => hw y (by
    rw [hdx]
    simp only [DataW.weights, Try.underlying26]
    exact DataW.weights_mem_each (j := 1) rfl (by rw [List.getElem?_map, List.getElem?_eq_getElem (by omega)]; rfl) y hy)
  obtain ⟨l⟩ := cs
  simp only at hl3 h0 h1 h2
  match l, hl3 with
  | [c0, c1, c2], hl3 =>
    simp only [List.drop_succ_cons, List.drop_zero, List.take_succ_cons, List.take_zero] at h0 h1 h2
    obtain ⟨aw, nw, kw, lw, rfl, hrw, hw1, hw2, hw3⟩ := trod_wins h0
    obtain ⟨ap, np, kp, lp, rfl, hrp, hp1, hp2, hp3⟩ := trod_pts h1 hwt
    obtain ⟨ac, nc, kc, lc, rfl, hrc, hc1, hc2, hc3⟩ := trod_chs h2
    exact ⟨⟨aw, nw, kw, ap, np, kp, ac, nc, kc⟩, ⟨lw, lp, lc⟩, rfl, ⟨hrw, hrp, hrc, hw1, hp1, hc1⟩, hw2, hp2, hc2, hw3, hp3, hc3⟩
end
end Go.Proofs.Ytecedmjhhaabgaa
