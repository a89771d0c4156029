/- The laws' own Field (citadellaw05): how a slice of them comes in, what it reads as. -/
import Derived.Test.YtmhknpkiddgcpaaOpen
import Derived.Test.YtmhknpkiddgcpaaHmacRef
import Derived.Deep.Slices
import Derived.Deep.Fields
import Derived.ChangeSame
import Derived.SizedLaws
namespace Go.Proofs.Ytmhknpkiddgcpaa
open Go.RowKit Go.ChangeShapes Go.WideShapes Go.Deep
set_option linter.unusedVariables false

structure Fld where
  what : Int
  x : UInt8
  n : Int
  is : Bool
  b : List UInt8
  t : List UInt8
def Fld.zero : Fld := ⟨0, 0, 0, false, [], zeros32⟩
/-- The cells of a field whose bytes lie at A. -/
def fldL (f : Fld) (A : Option Addr) (m c : Nat) : List Value := .int .i64 f.what :: .int .u8 (f.x.toNat : Int) :: .int .i64 f.n :: .bool f.is :: .slice A m c :: f.t.map bval
structure FldOk (w : World) (B : Nat) (f : Fld) (A : Option Addr) (m c : Nat) : Prop where
  tl : f.t.length = 32
  wh : -9223372036854775808 ≤ f.what ∧ f.what ≤ 9223372036854775807
  nn : -9223372036854775808 ≤ f.n ∧ f.n ≤ 9223372036854775807
  rd : Rd w B A m f.b
  mc : m ≤ c
  cc : c ≤ 140737488351232
theorem FldOk.below {w w' : World} {B : Nat} {f : Fld} {A : Option Addr} {m c : Nat} (h : FldOk w B f A m c) (hb : Below B w w') : FldOk w' B f A m c := ⟨h.tl, h.wh, h.nn, h.rd.below hb, h.mc, h.cc⟩
theorem FldOk.more {w : World} {B B' : Nat} {f : Fld} {A : Option Addr} {m c : Nat} (h : FldOk w B f A m c) (hB : B ≤ B') : FldOk w B' f A m c := ⟨h.tl, h.wh, h.nn, h.rd.more hB, h.mc, h.cc⟩
theorem FldOk.to {w w' : World} {f : Fld} {A : Option Addr} {m c : Nat} (h : FldOk w w.heap.size f A m c) (hb : Below w.heap.size w w') : FldOk w' w'.heap.size f A m c := (h.below hb).more hb.size
theorem fldL_len {f : Fld} (h : f.t.length = 32) (A : Option Addr) (m c : Nat) : (fldL f A m c).length = 37 := by simp [fldL, h]
/-- A slice of fields reads as fs. -/
def RdF (w : World) (B : Nat) (A : Option Addr) (n : Nat) (fs : List Fld) : Prop :=
  fs.length = n ∧ (0 < n → ∃ b o, A = some ⟨b, o, none⟩ ∧ b < B ∧ ∀ j, j < n → ∃ A' m c, w.rangeAt b (o + j * 37) (fldL (fs.getD j Fld.zero) A' m c) ∧ FldOk w B (fs.getD j Fld.zero) A' m c)
theorem rangeAt_below {w w' : World} {B b o : Nat} {cs : List Value} (h : w.rangeAt b o cs) (hb : Below B w w') (hlt : b < B) : w'.rangeAt b o cs := fun j v hv => (hb.cell (by exact hlt)).trans (h j v hv)
theorem RdF.below {w w' : World} {B n : Nat} {A : Option Addr} {fs : List Fld} (h : RdF w B A n fs) (hb : Below B w w') : RdF w' B A n fs :=
  ⟨h.1, fun hn => by
    obtain ⟨b, o, e, hB, hc⟩ := h.2 hn
    refine ⟨b, o, e, hB, fun j hj => ?_⟩
    obtain ⟨A', m, c, h1, h2⟩ := hc j hj
    exact ⟨A', m, c, rangeAt_below h1 hb hB, h2.below hb⟩⟩
theorem RdF.more {w : World} {B B' n : Nat} {A : Option Addr} {fs : List Fld} (h : RdF w B A n fs) (hB : B ≤ B') : RdF w B' A n fs :=
  ⟨h.1, fun hn => by
    obtain ⟨b, o, e, hb, hc⟩ := h.2 hn
    refine ⟨b, o, e, by omega, fun j hj => ?_⟩
    obtain ⟨A', m, c, h1, h2⟩ := hc j hj
    exact ⟨A', m, c, h1, h2.more hB⟩⟩
theorem RdF.to {w w' : World} {n : Nat} {A : Option Addr} {fs : List Fld} (h : RdF w w.heap.size A n fs) (hb : Below w.heap.size w w') : RdF w' w'.heap.size A n fs := (h.below hb).more hb.size

section
variable {H : Type} {enc : TypeId × Value → H} {W : World} {base : Nat} {held : Bool}
set_option maxRecDepth 100000 in
/-- A field's cells. -/
theorem trod_fld {n : Nat} {cs : List Value} {x : DataW H × List MemPlace} (h : DataW.trod enc Try.prog W base (fun _ => true) held n 31 cs = some x) (hw : ∀ y ∈ x.1.weights Try.prog 31, y ≤ reachBytes) :
    ∃ f A m c, cs = fldL f A m c ∧ FldOk W W.heap.size f A m c := by
  obtain ⟨xs, k, rfl, hxx, hl, hxl, hf⟩ := DataW.trod_struct Try.underlying31 h
  have hl37 : cs.length = 37 := by rw [hl]; kernel_rfl
  have e1 : Try.prog.cellsOf 3 = 1 := by kernel_rfl
  have e2 : Try.prog.cellsOf 5 = 1 := by kernel_rfl
  have e3 : Try.prog.cellsOf 4 = 1 := by kernel_rfl
  have e4 : Try.prog.cellsOf 26 = 1 := by kernel_rfl
  have e5 : Try.prog.cellsOf 29 = 32 := by kernel_rfl
  have h0 : DataW.trod enc Try.prog W base (fun _ => true) held k 3 ((cs.drop 0).take (Try.prog.cellsOf 3)) = xs[0]? := hf 0 _ rfl
  have h1 : DataW.trod enc Try.prog W base (fun _ => true) held k 5 ((cs.drop 1).take (Try.prog.cellsOf 5)) = xs[1]? := hf 1 _ rfl
  have h2 : DataW.trod enc Try.prog W base (fun _ => true) held k 3 ((cs.drop 2).take (Try.prog.cellsOf 3)) = xs[2]? := hf 2 _ rfl
  have h3 : DataW.trod enc Try.prog W base (fun _ => true) held k 4 ((cs.drop 3).take (Try.prog.cellsOf 4)) = xs[3]? := hf 3 _ rfl
  have h4 : DataW.trod enc Try.prog W base (fun _ => true) held k 26 ((cs.drop 4).take (Try.prog.cellsOf 26)) = xs[4]? := hf 4 _ rfl
  have h5 : DataW.trod enc Try.prog W base (fun _ => true) held k 29 ((cs.drop 5).take (Try.prog.cellsOf 29)) = xs[5]? := hf 5 _ rfl
  have hx6 : xs.length = 6 := hxl
  rw [e1, List.getElem?_eq_getElem (by omega)] at h0 h2
  rw [e2, List.getElem?_eq_getElem (by omega)] at h1
  rw [e3, List.getElem?_eq_getElem (by omega)] at h3
  rw [e4, List.getElem?_eq_getElem (by omega)] at h4
  rw [e5, List.getElem?_eq_getElem (by omega)] at h5
  match cs, hl37 with
  | c0 :: c1 :: c2 :: c3 :: c4 :: rest, hl37 =>
    simp only [List.drop_succ_cons, List.drop_zero, List.take_succ_cons, List.take_zero] at h0 h1 h2 h3 h4 h5
    obtain ⟨z0, g0, _, w0⟩ := DataW.trod_int Try.underlying3 h0
    obtain ⟨z1, g1, _, w1⟩ := DataW.trod_int Try.underlying5 h1
    obtain ⟨z2, g2, _, w2⟩ := DataW.trod_int Try.underlying3 h2
    obtain ⟨b3, g3, _⟩ := DataW.trod_bool Try.underlying4 h3
    simp only [List.cons.injEq, and_true] at g0 g1 g2 g3
    subst g0; subst g1; subst g2; subst g3
    have hrl : rest.length = 32 := by simpa using hl37
    rw [List.take_of_length_le (by omega)] at h5
    obtain ⟨ys, m5, _, _, hl5, hyl, hy⟩ := DataW.trod_array Try.underlying29 h5
    obtain ⟨ts, hts, htl⟩ : ∃ ts : List UInt8, rest = ts.map bval ∧ ts.length = 32 := by
      have each : ∀ i (hi : i < rest.length), ∃ y : UInt8, rest[i] = bval y := by
        intro i hi
        have h := hy i (by omega)
        rw [e2, Nat.mul_one, List.getElem?_eq_getElem (by omega), List.drop_eq_getElem_cons hi] at h
        simp only [List.take_succ_cons, List.take_zero] at h
        obtain ⟨z, hz, _, hw⟩ := DataW.trod_int Try.underlying5 h
        simp only [List.cons.injEq, and_true] at hz
        obtain ⟨a1, a2⟩ := wf_u8 hw
        obtain ⟨y, rfl⟩ := u8_of a1 a2
        exact ⟨y, hz⟩
      have key : ∀ l : List Value, (∀ i (hi : i < l.length), ∃ y : UInt8, l[i] = bval y) → ∃ ts : List UInt8, l = ts.map bval := by
        intro l
        induction l with
        | nil => exact fun _ => ⟨[], rfl⟩
        | cons x l ih =>
          intro h
          obtain ⟨ts, hts⟩ := ih (fun i hi => h (i + 1) (by simpa using hi))
          obtain ⟨y, hy⟩ := h 0 (by simp)
          exact ⟨y :: ts, by simpa [hts] using hy⟩
      obtain ⟨ts, hts⟩ := key rest each
      exact ⟨ts, hts, by rw [← hrl, hts, List.length_map]⟩
    subst hts
    obtain ⟨a1, a2⟩ := wf_u8 w1
    obtain ⟨y1, rfl⟩ := u8_of a1 a2
    have hwt : ∀ y ∈ (xs[4]'(by omega)).1.weights Try.prog 26, y ≤ reachBytes := fun y hy => hw y (by
      rw [hxx]
      simp only [DataW.weights, Try.underlying31]
      exact DataW.weights_mem_each (j := 4) rfl (by rw [List.getElem?_map, List.getElem?_eq_getElem (by omega)]; rfl) y hy)
    have hB : ∃ A m c bs, c4 = .slice A m c ∧ Rd W W.heap.size A m bs ∧ m ≤ c ∧ c ≤ 140737488351232 := by
      rcases open_ints Try.underlying26 Try.underlying5 (by kernel_rfl) h4 with ⟨hcs, _⟩ | ⟨x, l, c, zs, hcs, _, hl, hm, hz, hdx, hcell, hwz⟩
      · simp only [List.cons.injEq, and_true] at hcs
        exact ⟨none, 0, 0, [], hcs, Rd.nil _ _ _, by decide, by decide⟩
      · simp only [List.cons.injEq, and_true] at hcs
        have hR : IsRow .u8 W (some x) l c zs := .inr ⟨_, rfl, hl, hm, by simpa using hz, hcell, hwz⟩
        obtain ⟨r1, r2, r3⟩ := hR.rd
        have hz' : zs.length = c := by simpa using hz
        have hcc : c ≤ reachBytes := by
          have be : Try.prog.bytesOf 5 = 1 := by kernel_rfl
          have hdd := congrArg Prod.fst hdx
          simp only at hdd
          have := hwt c (by
            rw [hdd]
            simp only [DataW.weights, Try.underlying26, be]
            refine List.mem_cons.2 (.inl ?_)
            simp [lits]
            omega)
          exact this
        exact ⟨_, _, _, _, hcs, r1, r2, by unfold reachBytes at hcc; omega⟩
    obtain ⟨A, m, c, bs, rfl, hr, hmc, hcc⟩ := hB
    exact ⟨⟨z0, y1, z2, b3, bs, ts⟩, A, m, c, rfl, ⟨htl, wf_i64 w0, wf_i64 w2, hr, hmc, hcc⟩⟩

set_option maxRecDepth 100000 in
/-- How a slice of fields comes in. -/
theorem open_flds {r : Reach} {b0 : Nat} {v : Value} {d : DataW H} {ps : List MemPlace} (hval : Value.okWide Try.prog W r b0 22 v) (hd : DataW.Trod enc Try.prog W base (fun _ => true) held 22 v d ps)
    (hw : ∀ y ∈ d.weights Try.prog 22, y ≤ reachBytes) :
    ∃ a len cap fs, v = .slice a len cap ∧ RdF W W.heap.size a len fs ∧ len ≤ cap ∧ cap * 88 ≤ 140737488351232 := by
  obtain ⟨a, len, cap, rfl⟩ := okWide_slice Try.underlying22 hval
  obtain ⟨fuel, hf⟩ := hd
  have e37 : Try.prog.cellsOf 31 = 37 := by kernel_rfl
  rcases open_slice Try.underlying22 hf with ⟨hcs, _⟩ | ⟨x, l, c, m, n, D, Pl, hcs, hbx, hl, hm, hmm, hx, hi⟩
  · simp [Value.cells] at hcs
    obtain ⟨rfl, rfl, rfl⟩ := hcs
    exact ⟨none, 0, 0, [], rfl, ⟨rfl, fun h => absurd h (Nat.lt_irrefl 0)⟩, by omega, by omega⟩
  · simp [Value.cells] at hcs
    obtain ⟨rfl, rfl, rfl⟩ := hcs
    have hmc : m = cap := by simpa using hmm
    subst hmc
    rw [e37] at hi
    have hdd := congrArg Prod.fst hx
    simp only at hdd
    have b88 : Try.prog.bytesOf 31 = 88 := by kernel_rfl
    have hcap : m * 88 ≤ reachBytes := by
      have := hw (m * 88) (by
        rw [hdd]
        simp only [DataW.weights, Try.underlying22, b88]
        refine List.mem_cons.2 (.inl ?_)
        simp
        omega)
      exact this
    have hwD : ∀ i, i < m → ∀ y ∈ (D i).weights Try.prog 31, y ≤ reachBytes := fun i him y hy => hw y (by
      rw [hdd]
      simp only [DataW.weights, Try.underlying22]
      refine List.mem_cons_of_mem _ ?_
      by_cases h : i < len
      · exact List.mem_append_left _ (mem_weightsAll (List.mem_map.2 ⟨i, List.mem_range.2 h, rfl⟩) hy)
      · exact List.mem_append_right _ (mem_weightsAll (List.mem_map.2 ⟨i - len, List.mem_range.2 (by omega), by rw [show len + (i - len) = i from by omega]⟩) hy))
    have each : ∀ i, i < m → ∃ f A' m' c', (∀ j v, (fldL f A' m' c')[j]? = some v → W.cell? ((x.add (i * 37)).add j) = some v) ∧ FldOk W W.heap.size f A' m' c' := by
      intro i hi'
      obtain ⟨cs', h1, h2⟩ := hi i hi'
      obtain ⟨f, A', m', c', rfl, hok⟩ := trod_fld h2 (hwD i hi')
      obtain ⟨_, h4, h5⟩ := World.cells?_some h1
      refine ⟨f, A', m', c', fun j v hv => ?_, hok⟩
      have hj : j < 37 := by
        rcases Nat.lt_or_ge j 37 with g | g
        · exact g
        · rw [List.getElem?_eq_none (by rw [fldL_len hok.tl]; exact g)] at hv; cases hv
      rw [h5 j hj]; exact hv
    have hch : ∃ F : Nat → Fld, ∀ i, i < m → ∃ A' m' c', (∀ j v, (fldL (F i) A' m' c')[j]? = some v → W.cell? ((x.add (i * 37)).add j) = some v) ∧ FldOk W W.heap.size (F i) A' m' c' := by
      refine ⟨fun i => if h : i < m then Classical.choose (each i h) else Fld.zero, fun i h => ?_⟩
      simp only [dif_pos h]
      exact Classical.choose_spec (each i h)
    obtain ⟨F, hF⟩ := hch
    refine ⟨some x, len, m, (List.range len).map F, rfl, ⟨by simp, fun h0 => ?_⟩, hl, by unfold reachBytes at hcap; omega⟩
    obtain ⟨b, o, s⟩ := x
    obtain ⟨A0, m0, c0, h00, _⟩ := hF 0 (by omega)
    have hc0 := h00 0 _ rfl
    obtain rfl : s = none := by simpa [Addr.add] using World.cell?_spot hc0
    refine ⟨b, o, rfl, ?_, fun j hj => ?_⟩
    · rw [add_none, add_none] at hc0
      exact cell_block hc0
    · obtain ⟨A', m', c', h1, h2⟩ := hF j (by omega)
      have e : ((List.range len).map F).getD j Fld.zero = F j := by simp [List.getD, hj]
      rw [e]
      refine ⟨A', m', c', fun i v hv => ?_, h2⟩
      have := h1 i v hv
      rwa [add_none, add_none] at this
end
end Go.Proofs.Ytmhknpkiddgcpaa
