/- How a channel, a slice of channels, a queue come in. -/
import Derived.Test.YtecedmjhhaabgaaChM
import Derived.Test.YtecedmjhhaabgaaOpen
import Derived.Test.YtecedmjhhaabgaaChecked
import Derived.Deep.Slices
import Derived.Deep.Fields
import Derived.ChangeSame
import Derived.SizedLaws
namespace Go.Proofs.Ytecedmjhhaabgaa
open Go.RowKit Go.ChangeShapes Go.WideShapes Go.Deep
set_option linter.unusedVariables false

structure ChWf (c : Ch) : Prop where
  id : -9223372036854775808 ≤ c.id ∧ c.id ≤ 9223372036854775807
  fr : -9223372036854775808 ≤ c.fr ∧ c.fr ≤ 9223372036854775807
  dst : -9223372036854775808 ≤ c.dst ∧ c.dst ≤ 9223372036854775807
  cap : -9223372036854775808 ≤ c.cap ∧ c.cap ≤ 9223372036854775807
  size : -9223372036854775808 ≤ c.size ∧ c.size ≤ 9223372036854775807
/-- A slice of channels reads as l. -/
def RdC (w : World) (B : Nat) (A : Option Addr) (n : Nat) (l : List Ch) : Prop :=
  l.length = n ∧ (0 < n → ∃ b o, A = some ⟨b, o, none⟩ ∧ b < B ∧ ∀ j, j < n → ∀ i v, (chL (chAt l j))[i]? = some v → w.cell? ⟨b, o + j * 5 + i, none⟩ = some v)
theorem RdC.below {w w' : World} {B n : Nat} {A : Option Addr} {l : List Ch} (h : RdC w B A n l) (hb : Below B w w') : RdC w' B A n l :=
  ⟨h.1, fun hn => by
    obtain ⟨b, o, e, hB, hc⟩ := h.2 hn
    exact ⟨b, o, e, hB, fun j hj i v hv => (hb.cell (p := ⟨b, _, none⟩) hB).trans (hc j hj i v hv)⟩⟩
theorem RdC.to {w w' : World} {n : Nat} {A : Option Addr} {l : List Ch} (h : RdC w w.heap.size A n l) (hb : Below w.heap.size w w') : RdC w' w'.heap.size A n l := by
  have h' := h.below hb
  exact ⟨h'.1, fun hn => by obtain ⟨b, o, e, hB, hc⟩ := h'.2 hn; exact ⟨b, o, e, Nat.lt_of_lt_of_le hB hb.size, hc⟩⟩
theorem RdC.at_ {w : World} {B n j : Nat} {A : Option Addr} {l : List Ch} (h : RdC w B A n l) (hj : j < n) : ∃ b o, A = some ⟨b, o, none⟩ ∧
    w.cell? ⟨b, o + j * 5, none⟩ = some (.int .i64 (chAt l j).id) ∧ w.cell? ⟨b, o + j * 5 + 1, none⟩ = some (.int .i64 (chAt l j).fr) ∧ w.cell? ⟨b, o + j * 5 + 2, none⟩ = some (.int .i64 (chAt l j).dst) ∧
    w.cell? ⟨b, o + j * 5 + 3, none⟩ = some (.int .i64 (chAt l j).cap) ∧ w.cell? ⟨b, o + j * 5 + 4, none⟩ = some (.int .i64 (chAt l j).size) := by
  obtain ⟨b, o, e, _, hc⟩ := h.2 (by omega)
  exact ⟨b, o, e, hc j hj 0 _ rfl, hc j hj 1 _ rfl, hc j hj 2 _ rfl, hc j hj 3 _ rfl, hc j hj 4 _ rfl⟩

/-- A slice of byte slices within another value, with the reach: each row takes fewer than 2^47 bytes. -/
theorem trod_rowsS {H : Type} {enc : TypeId × Value → H} {P : Program} {W : World} {base fuel : Nat} {held : Bool} {t e q : TypeId} {v : Value} {d : DataW H} {ps : List MemPlace}
    (ht : P.underlying t = some (.slice e)) (he : P.underlying e = some (.slice q)) (hq : P.underlying q = some (.int .u8)) (ce : P.cellsOf e = 1) (cq : P.cellsOf q = 1) (be : P.bytesOf e = 24) (bq : P.bytesOf q = 1)
    (hf : DataW.trod enc P W base (fun _ => true) held fuel t [v] = some (d, ps)) (hw : ∀ x ∈ d.weights P t, x ≤ reachBytes) :
    ∃ a len cap bss, v = .slice a len cap ∧ RdS W W.heap.size a len bss ∧ len ≤ cap ∧ cap * 24 ≤ 140737488351232 ∧ ∀ bs ∈ bss, bs.length ≤ 140737488351232 := by
  rcases open_int_rows ht he hq ce cq hf with ⟨hcs, _⟩ | ⟨x, len, cap, A, L, C, Z, hcs, hbx, hl, hm, hx, hrow⟩
  · simp only [List.cons.injEq, and_true] at hcs
    subst hcs
    exact ⟨none, 0, 0, [], rfl, RdS.nil _ _ _, by omega, by omega, by simp⟩
  · simp only [List.cons.injEq, and_true] at hcs
    subst hcs
    have hdd := congrArg Prod.fst hx
    simp only at hdd
    subst hdd
    have hcap : cap * 24 ≤ reachBytes := by
      have := hw ((len + (cap - len)) * P.bytesOf e) (by simp [DataW.weights, ht])
      rw [be] at this
      rwa [show len + (cap - len) = cap from by omega] at this
    have hrows : ∀ j, j < len → L j ≤ reachBytes := fun j hj => by
      obtain ⟨h1, h2, h3, h4, h5, h6, h7⟩ := hrow j (by omega)
      cases hA : A j with
      | none => have := h6 hA; unfold reachBytes; omega
      | some a' =>
        have hmem : intRow .u8 (A j) (L j) (Z j) ∈ (List.range len).map fun r => (intRow .u8 (A r) (L r) (Z r) : DataW H) := List.mem_map.2 ⟨j, List.mem_range.2 hj, rfl⟩
        have hx2 : (Z j).length ∈ (intRow .u8 (A j) (L j) (Z j) : DataW H).weights P e := by
          rw [hA]
          simp only [intRow, DataW.weights, he, bq]
          refine List.mem_cons.2 (.inl ?_)
          simp [lits, Nat.min_def]
          split <;> omega
        have := hw (Z j).length (by
          simp only [DataW.weights, ht]
          exact List.mem_cons_of_mem _ (List.mem_append_left _ (mem_weightsAll hmem hx2)))
        omega
    refine ⟨some x, len, cap, (List.range len).map (fun j => bytesIn ((Z j).take (L j))), rfl, ?_, hl, hcap, ?_⟩
    · refine ⟨by simp, fun h0 => ?_⟩
      obtain ⟨b, o, s⟩ := x
      have h00 := (hrow 0 (by omega)).1
      obtain rfl : s = none := by simpa [Addr.add] using World.cell?_spot h00
      have hb := cell_block h00
      rw [add_none] at hb
      refine ⟨b, o, rfl, hb, fun j hj => ?_⟩
      obtain ⟨h1, h2, h3, h4, h5, h6, h7⟩ := hrow j (by omega)
      rw [add_none] at h1
      refine ⟨A j, L j, C j, h1, ?_⟩
      have e1 : ((List.range len).map (fun j => bytesIn ((Z j).take (L j)))).getD j [] = bytesIn ((Z j).take (L j)) := by
        simp [List.getD, hj]
      rw [e1]
      have hR : IsRow .u8 W (A j) (L j) (C j) (Z j) := by
        cases hA : A j with
        | none =>
          have hc0 := h6 hA
          have : Z j = [] := List.eq_nil_of_length_eq_zero (by omega)
          exact .inl ⟨rfl, by omega, hc0, this⟩
        | some a' =>
          exact .inr ⟨a', rfl, h2, h3, h4, fun i hi => (h7 a' hA).2 i (by omega), h5⟩
      exact hR.rd.1
    · intro bs hbs
      obtain ⟨j, hj, rfl⟩ := List.mem_map.1 hbs
      have hj := List.mem_range.1 hj
      have h1 := hrows j hj
      have h2 : (bytesIn ((Z j).take (L j))).length ≤ L j := by simp [bytesIn]; omega
      exact Nat.le_trans h2 h1


section
variable {H : Type} {enc : TypeId × Value → H} {W : World} {base : Nat} {held : Bool}
set_option maxRecDepth 100000 in
/-- A channel's cells. -/
theorem trod_ch {n : Nat} {cs : List Value} {x : DataW H × List MemPlace} (h : DataW.trod enc Try.prog W base (fun _ => true) held n 47 cs = some x) :
    ∃ c : Ch, cs = chL c ∧ ChWf c := by
  obtain ⟨xs, k, rfl, hxx, hl, hxl, hf⟩ := DataW.trod_struct Try.underlying47 h
  have hl3 : cs.length = 5 := by rw [hl]; kernel_rfl
  have e1 : Try.prog.cellsOf 3 = 1 := by kernel_rfl
  have h0 : DataW.trod enc Try.prog W base (fun _ => true) held k 3 ((cs.drop 0).take (Try.prog.cellsOf 3)) = xs[0]? := hf 0 _ rfl
  have h1 : DataW.trod enc Try.prog W base (fun _ => true) held k 3 ((cs.drop 1).take (Try.prog.cellsOf 3)) = xs[1]? := hf 1 _ rfl
  have h2 : DataW.trod enc Try.prog W base (fun _ => true) held k 3 ((cs.drop 2).take (Try.prog.cellsOf 3)) = xs[2]? := hf 2 _ rfl
  have h3 : DataW.trod enc Try.prog W base (fun _ => true) held k 3 ((cs.drop 3).take (Try.prog.cellsOf 3)) = xs[3]? := hf 3 _ rfl
  have h4 : DataW.trod enc Try.prog W base (fun _ => true) held k 3 ((cs.drop 4).take (Try.prog.cellsOf 3)) = xs[4]? := hf 4 _ rfl
  have hx3 : xs.length = 5 := hxl
  rw [e1, List.getElem?_eq_getElem (by omega)] at h0 h1 h2 h3 h4
  match cs, hl3 with
  | [c0, c1, c2, c3, c4], hl3 =>
    simp only [List.drop_succ_cons, List.drop_zero, List.take_succ_cons, List.take_zero] at h0 h1 h2 h3 h4
    obtain ⟨z0, g0, _, w0⟩ := DataW.trod_int Try.underlying3 h0
    obtain ⟨z1, g1, _, w1⟩ := DataW.trod_int Try.underlying3 h1
    obtain ⟨z2, g2, _, w2⟩ := DataW.trod_int Try.underlying3 h2
    obtain ⟨z3, g3, _, w3⟩ := DataW.trod_int Try.underlying3 h3
    obtain ⟨z4, g4, _, w4⟩ := DataW.trod_int Try.underlying3 h4
    simp only [List.cons.injEq, and_true] at g0 g1 g2 g3 g4
    subst g0; subst g1; subst g2; subst g3; subst g4
    exact ⟨⟨z0, z1, z2, z3, z4⟩, rfl, wf_i64 w0, wf_i64 w1, wf_i64 w2, wf_i64 w3, wf_i64 w4⟩
set_option maxRecDepth 100000 in
/-- How a channel comes in. -/
theorem open_ch {r : Reach} {b0 : Nat} {v : Value} {d : DataW H} {ps : List MemPlace} (hval : Value.okWide Try.prog W r b0 47 v) (hd : DataW.Trod enc Try.prog W base (fun _ => true) held 47 v d ps) :
    ∃ x : Ch, v = .agg (chA x) ∧ ChWf x := by
  obtain ⟨cs, rfl, _⟩ := okWide_struct Try.underlying47 hval
  obtain ⟨fuel, hf⟩ := hd
  obtain ⟨x, hcs, hok⟩ := trod_ch hf
  refine ⟨x, ?_, hok⟩
  have h : cs.toList = chL x := by simpa [Value.cells] using hcs
  obtain ⟨l⟩ := cs
  simp at h
  rw [h]; rfl
set_option maxRecDepth 100000 in
/-- How a slice of channels comes in. -/
theorem open_chs {r : Reach} {b0 : Nat} {v : Value} {d : DataW H} {ps : List MemPlace} (hval : Value.okWide Try.prog W r b0 24 v) (hd : DataW.Trod enc Try.prog W base (fun _ => true) held 24 v d ps) :
    ∃ a len cap l, v = .slice a len cap ∧ RdC W W.heap.size a len l ∧ len ≤ cap ∧ cap ≤ 9223372036854775807 := by
  obtain ⟨a, len, cap, rfl⟩ := okWide_slice Try.underlying24 hval
  obtain ⟨fuel, hf⟩ := hd
  have e3 : Try.prog.cellsOf 47 = 5 := by kernel_rfl
  rcases open_slice Try.underlying24 hf with ⟨hcs, _⟩ | ⟨x, l, c, m, n, D, Pl, hcs, hbx, hl, hm, hmm, hx, hi⟩
  · simp [Value.cells] at hcs
    obtain ⟨rfl, rfl, rfl⟩ := hcs
    exact ⟨none, 0, 0, [], rfl, ⟨rfl, fun h => absurd h (Nat.lt_irrefl 0)⟩, by omega, by omega⟩
  · simp [Value.cells] at hcs
    obtain ⟨rfl, rfl, rfl⟩ := hcs
    have hmc : m = cap := by simpa using hmm
    subst hmc
    rw [e3] at hi
    have each : ∀ i, ∃ f : Ch, i < m → ∀ j v, (chL f)[j]? = some v → W.cell? ((x.add (i * 5)).add j) = some v := by
      intro i
      by_cases hi' : i < m
      · obtain ⟨cs', h1, h2⟩ := hi i hi'
        obtain ⟨f, rfl, _⟩ := trod_ch h2
        obtain ⟨_, h4, h5⟩ := World.cells?_some h1
        refine ⟨f, fun _ j v hv => ?_⟩
        have hj : j < 5 := by
          rcases Nat.lt_or_ge j 5 with g | g
          · exact g
          · rw [List.getElem?_eq_none (by simp [chL]; exact g)] at hv; cases hv
        rw [h5 j hj]; exact hv
      · exact ⟨Ch.zero, fun h => absurd h hi'⟩
    obtain ⟨F, hF⟩ := Classical.axiomOfChoice each
    refine ⟨some x, len, m, (List.range len).map F, rfl, ⟨by simp, fun h0 => ?_⟩, hl, by unfold maxLen at hm; omega⟩
    obtain ⟨b, o, s⟩ := x
    have hc0 := hF 0 (by omega) 0 _ rfl
    obtain rfl : s = none := by simpa [Addr.add] using World.cell?_spot hc0
    refine ⟨b, o, rfl, ?_, fun j hj i v hv => ?_⟩
    · rw [add_none, add_none] at hc0
      exact cell_block hc0
    · have e : chAt ((List.range len).map F) j = F j := by simp [chAt, List.getD, hj]
      rw [e] at hv
      have := hF j (by omega) i v hv
      rwa [add_none, add_none] at this
end
end Go.Proofs.Ytecedmjhhaabgaa
