/- Several texts in one (a claim has 60 files at most): CmAct, CmL. -/
import Derived.Test.YtffdjnhhmfpkgaaGreatTz
import Derived.Test.YtffdjnhhmfpkgaaGreatOpen
import Derived.Test.YtffdjnhhmfpkgaaGreatKitO
import Derived.Test.YtffdjnhhmfpkgaaGreatCmO
import Derived.Deep.Slices
import Derived.Deep.Fields
import Derived.Deep.MidRow
import Derived.ChangeSame
import Derived.SizedLaws
import Derived.Test.YtffdjnhhmfpkgaaGreatCmW
import Derived.Deep.RegionHeld
namespace Go.Proofs.YtffdjnhhmfpkgaaGreat
set_option maxRecDepth 1000000
set_option maxHeartbeats 8000000
set_option linter.unusedVariables false
set_option linter.unusedSimpArgs false
section
open Go.RowKit Go.ChangeShapes Go.WideShapes Go.Deep
structure CAct where
 kind : Int
 n : Int
 r : Rcd
 b : List UInt8
def CAct.zero : CAct := ⟨0, 0, Rcd.zero, []⟩
def cactL (a : CAct) (A : Option Addr) (m c : Nat) : List Value := .int .i64 a.kind :: .int .i64 a.n :: (rcL a.r ++ [.slice A m c])
theorem cactL_len {a : CAct} (h : a.r.hash.length = 32) (A : Option Addr) (m c : Nat) : (cactL a A m c).length = 39 := by simp [cactL, rcL_len h]
theorem cactL_rec {a : CAct} (A : Option Addr) (m c : Nat) {j : Nat} {v : Value} (h : (rcL a.r)[j]? = some v) : (cactL a A m c)[2 + j]? = some v := by
 rw [show 2 + j = j + 1 + 1 by omega]
 show (rcL a.r ++ [.slice A m c])[j]? = some v
 rw [List.getElem?_append_left]
 ·exact h
 ·rcases Nat.lt_or_ge j (rcL a.r).length with q | q
  ·exact q
  ·rw [List.getElem?_eq_none q] at h; cases h
theorem cactL_sl {a : CAct} (h : a.r.hash.length = 32) (A : Option Addr) (m c : Nat) : (cactL a A m c)[38]? = some (.slice A m c) := by
 show (rcL a.r ++ [.slice A m c])[36]? = _
 rw [List.getElem?_append_right (by rw [rcL_len h]; exact Nat.le_refl _), rcL_len h]
 rfl
structure CActOk (w : World) (B : Nat) (a : CAct) (A : Option Addr) (m c : Nat) : Prop where
 kk : -9223372036854775808 ≤ a.kind ∧ a.kind ≤ 9223372036854775807
 rin : a.r.In
 nn : -9223372036854775808 ≤ a.n ∧ a.n ≤ 9223372036854775807
 rd : Rd w B A m a.b
 mc : m ≤ c
 cc : c ≤ 140737488351232
theorem CActOk.below {w w' : World} {B : Nat} {a : CAct} {A : Option Addr} {m c : Nat} (h : CActOk w B a A m c) (hb : Below B w w') : CActOk w' B a A m c := ⟨h.kk, h.rin, h.nn, h.rd.below hb, h.mc, h.cc⟩
theorem CActOk.more {w : World} {B B' : Nat} {a : CAct} {A : Option Addr} {m c : Nat} (h : CActOk w B a A m c) (hB : B ≤ B') : CActOk w B' a A m c := ⟨h.kk, h.rin, h.nn, h.rd.more hB, h.mc, h.cc⟩
def RdCA (w : World) (B : Nat) (A : Option Addr) (n : Nat) (l : List CAct) : Prop :=
 l.length = n ∧ (0 < n → ∃ b o, A = some ⟨b, o, none⟩ ∧ b < B ∧ ∀ j, j < n → ∃ A' m c, w.rangeAt b (o + j * 39) (cactL (l.getD j CAct.zero) A' m c) ∧ CActOk w B (l.getD j CAct.zero) A' m c)
theorem RdCA.below {w w' : World} {B n : Nat} {A : Option Addr} {l : List CAct} (h : RdCA w B A n l) (hb : Below B w w') : RdCA w' B A n l :=
 ⟨h.1, fun hn => by
  obtain ⟨b, o, e, hB, hc⟩ := h.2 hn
  refine ⟨b, o, e, hB, fun j hj => ?_⟩
  obtain ⟨A', m, c, h1, h2⟩ := hc j hj
  exact ⟨A', m, c, fun i v hv => (hb.cell (by exact hB)).trans (h1 i v hv), h2.below hb⟩⟩
theorem RdCA.more {w : World} {B B' n : Nat} {A : Option Addr} {l : List CAct} (h : RdCA w B A n l) (hB : B ≤ B') : RdCA w B' A n l :=
 ⟨h.1, fun hn => by
  obtain ⟨b, o, e, hb, hc⟩ := h.2 hn
  refine ⟨b, o, e, by omega, fun j hj => ?_⟩
  obtain ⟨A', m, c, h1, h2⟩ := hc j hj
  exact ⟨A', m, c, h1, h2.more hB⟩⟩
theorem RdCA.to {w w' : World} {n : Nat} {A : Option Addr} {l : List CAct} (h : RdCA w w.heap.size A n l) (hb : Below w.heap.size w w') : RdCA w' w'.heap.size A n l := (h.below hb).more hb.size
def RdRL (w : World) (B : Nat) (A : Option Addr) (n : Nat) (l : List Rcd) : Prop :=
 l.length = n ∧ (0 < n → ∃ b o, A = some ⟨b, o, none⟩ ∧ b < B ∧ ∀ j, j < n → w.rangeAt b (o + j * 36) (rcL (l.getD j Rcd.zero)) ∧ (l.getD j Rcd.zero).In)
theorem RdRL.below {w w' : World} {B n : Nat} {A : Option Addr} {l : List Rcd} (h : RdRL w B A n l) (hb : Below B w w') : RdRL w' B A n l :=
 ⟨h.1, fun hn => by
  obtain ⟨b, o, e, hB, hc⟩ := h.2 hn
  exact ⟨b, o, e, hB, fun j hj => ⟨fun i v hv => (hb.cell (by exact hB)).trans ((hc j hj).1 i v hv), (hc j hj).2⟩⟩⟩
theorem RdRL.more {w : World} {B B' n : Nat} {A : Option Addr} {l : List Rcd} (h : RdRL w B A n l) (hB : B ≤ B') : RdRL w B' A n l :=
 ⟨h.1, fun hn => by
  obtain ⟨b, o, e, hb, hc⟩ := h.2 hn
  exact ⟨b, o, e, by omega, hc⟩⟩
theorem RdRL.to {w w' : World} {n : Nat} {A : Option Addr} {l : List Rcd} (h : RdRL w w.heap.size A n l) (hb : Below w.heap.size w w') : RdRL w' w'.heap.size A n l := (h.below hb).more hb.size
section
variable {H : Type} {enc : TypeId × Value → H} {W : World} {base : Nat} {held : Bool}
theorem trod_cact {n : Nat} {cs : List Value} {x : DataW H × List MemPlace} (h : DataW.trod enc Tryz.prog W base (fun _ => true) held n 37 cs = some x) (hw : ∀ y ∈ x.1.weights Tryz.prog 37, y ≤ reachBytes) :
  ∃ a A m c, cs = cactL a A m c ∧ CActOk W W.heap.size a A m c := by
 obtain ⟨xs, k, rfl, hxx, hl, hxl, hf⟩ := DataW.trod_struct Tryz.underlying37 h
 have hl3 : cs.length = 39 := by rw [hl]; kernel_rfl
 have e1 : Tryz.prog.cellsOf 3 = 1 := by kernel_rfl
 have e2 : Tryz.prog.cellsOf 34 = 36 := by kernel_rfl
 have e4 : Tryz.prog.cellsOf 35 = 1 := by kernel_rfl
 have h0 : DataW.trod enc Tryz.prog W base (fun _ => true) held k 3 ((cs.drop 0).take (Tryz.prog.cellsOf 3)) = xs[0]? := hf 0 _ rfl
 have h1 : DataW.trod enc Tryz.prog W base (fun _ => true) held k 3 ((cs.drop 1).take (Tryz.prog.cellsOf 3)) = xs[1]? := hf 1 _ rfl
 have h2 : DataW.trod enc Tryz.prog W base (fun _ => true) held k 34 ((cs.drop 2).take (Tryz.prog.cellsOf 34)) = xs[2]? := hf 2 _ rfl
 have h4 : DataW.trod enc Tryz.prog W base (fun _ => true) held k 35 ((cs.drop 38).take (Tryz.prog.cellsOf 35)) = xs[3]? := hf 3 _ rfl
 have hx3 : xs.length = 4 := hxl
 rw [List.getElem?_eq_getElem (by omega)] at h0 h1 h2 h4
 rw [e1] at h0 h1
 rw [e2] at h2
 rw [e4] at h4
 have hwt : ∀ y ∈ (xs[3]'(by omega)).1.weights Tryz.prog 35, y ≤ reachBytes := fun y hy => hw y (by
  rw [hxx]
  simp only [DataW.weights, Tryz.underlying37]
  exact DataW.weights_mem_each (j := 3) rfl (by rw [List.getElem?_map, List.getElem?_eq_getElem (by omega)]; rfl) y hy)
 obtain ⟨c0, c1, tl, rfl⟩ : ∃ c0 c1 tl, cs = c0 :: c1 :: tl := by
  match cs, hl3 with
  | c0 :: c1 :: tl, _ => exact ⟨c0, c1, tl, rfl⟩
 have htl : tl.length = 37 := by simpa using hl3
 simp only [List.drop_succ_cons, List.drop_zero, List.take_succ_cons, List.take_zero] at h0 h1 h2 h4
 obtain ⟨z0, g0, _, w0⟩ := DataW.trod_int Tryz.underlying3 h0
 obtain ⟨z1, g1, _, w1⟩ := DataW.trod_int Tryz.underlying3 h1
 simp only [List.cons.injEq, and_true] at g0 g1
 subst g0; subst g1
 obtain ⟨r, g2, rin⟩ := trod_rc h2
 obtain ⟨c4, e5⟩ : ∃ c4, tl.drop 36 = [c4] := by
  match hd : tl.drop 36, (show (tl.drop 36).length = 1 by simp; omega) with
  | [c4], _ => exact ⟨c4, rfl⟩
 have e6 : tl = rcL r ++ [c4] := by rw [← g2, ← e5, List.take_append_drop]
 rw [e5] at h4
 simp only [List.take_succ_cons, List.take_zero] at h4
 have hB : ∃ A m c bs, c4 = .slice A m c ∧ Rd W W.heap.size A m bs ∧ m ≤ c ∧ c ≤ 140737488351232 := by
  rcases open_ints Tryz.underlying35 Tryz.underlying5 (by kernel_rfl) h4 with ⟨hcs, _⟩ | ⟨x, l, c, zs, hcs, _, hl, hm, hz, hdx, hcell, hwz⟩
  ·simp only [List.cons.injEq, and_true] at hcs
   exact ⟨none, 0, 0, [], hcs, Rd.nil _ _ _, by decide, by decide⟩
  ·simp only [List.cons.injEq, and_true] at hcs
   have hR : IsRow .u8 W (some x) l c zs := .inr ⟨_, rfl, hl, hm, by simpa using hz, hcell, hwz⟩
   obtain ⟨r1, r2, r3⟩ := hR.rd
   have hz' : zs.length = c := by simpa using hz
   have hcc : c ≤ reachBytes := by
    have be : Tryz.prog.bytesOf 5 = 1 := by kernel_rfl
    have hdd := congrArg Prod.fst hdx
    simp only at hdd
    have := hwt c (by
     rw [hdd]
     simp only [DataW.weights, Tryz.underlying35, be]
     refine List.mem_cons.2 (.inl ?_)
     simp [lits]
     omega)
    exact this
   exact ⟨_, _, _, _, hcs, r1, r2, by unfold reachBytes at hcc; omega⟩
 obtain ⟨A, m, c, bs, rfl, hr, hmc, hcc⟩ := hB
 exact ⟨⟨z0, z1, r, bs⟩, A, m, c, by rw [e6]; rfl, ⟨wf_i64 w0, rin, wf_i64 w1, hr, hmc, hcc⟩⟩
theorem open_cact {r : Reach} {b0 : Nat} {v : Value} {d : DataW H} {ps : List MemPlace} (hval : Value.okWide Tryz.prog W r b0 37 v) (hd : DataW.Trod enc Tryz.prog W base (fun _ => true) held 37 v d ps)
  (hw : ∀ y ∈ d.weights Tryz.prog 37, y ≤ reachBytes) : ∃ a A m c, v = .agg (cactL a A m c).toArray ∧ CActOk W W.heap.size a A m c := by
 obtain ⟨cs, rfl, _⟩ := okWide_struct Tryz.underlying37 hval
 obtain ⟨fuel, hf⟩ := hd
 obtain ⟨a, A, m, c, hcs, hok⟩ := trod_cact hf hw
 refine ⟨a, A, m, c, ?_, hok⟩
 have h : cs.toList = cactL a A m c := by simpa [Value.cells] using hcs
 rw [← h]
theorem open_cacts {r : Reach} {b0 : Nat} {v : Value} {d : DataW H} {ps : List MemPlace} (hval : Value.okWide Tryz.prog W r b0 22 v) (hd : DataW.Trod enc Tryz.prog W base (fun _ => true) held 22 v d ps)
  (hw : ∀ y ∈ d.weights Tryz.prog 22, y ≤ reachBytes) :
  ∃ a len cap l, v = .slice a len cap ∧ RdCA W W.heap.size a len l ∧ len ≤ cap ∧ cap * 104 ≤ 140737488351232 := by
 obtain ⟨a, len, cap, rfl⟩ := okWide_slice Tryz.underlying22 hval
 obtain ⟨fuel, hf⟩ := hd
 have e3 : Tryz.prog.cellsOf 37 = 39 := by kernel_rfl
 rcases open_slice Tryz.underlying22 hf with ⟨hcs, _⟩ | ⟨x, l, c, m, n, D, Pl, hcs, hbx, hl, hm, hmm, hx, hi⟩
 ·simp [Value.cells] at hcs
  obtain ⟨rfl, rfl, rfl⟩ := hcs
  exact ⟨none, 0, 0, [], rfl, ⟨rfl, fun h => absurd h (Nat.lt_irrefl 0)⟩, by omega, by omega⟩
 ·simp [Value.cells] at hcs
  obtain ⟨rfl, rfl, rfl⟩ := hcs
  have hmc : m = cap := by simpa using hmm
  subst hmc
  rw [e3] at hi
  have hdd := congrArg Prod.fst hx
  simp only at hdd
  have b104 : Tryz.prog.bytesOf 37 = 104 := by kernel_rfl
  have hcap : m * 104 ≤ reachBytes := by
   have := hw (m * 104) (by
    rw [hdd]
    simp only [DataW.weights, Tryz.underlying22, b104]
    refine List.mem_cons.2 (.inl ?_)
    simp
    omega)
   exact this
  have hwD : ∀ i, i < m → ∀ y ∈ (D i).weights Tryz.prog 37, y ≤ reachBytes := fun i him y hy => hw y (by
   rw [hdd]
   simp only [DataW.weights, Tryz.underlying22]
   refine List.mem_cons_of_mem _ ?_
   by_cases h : i < len
   ·exact List.mem_append_left _ (mem_weightsAll (List.mem_map.2 ⟨i, List.mem_range.2 h, rfl⟩) hy)
   ·exact List.mem_append_right _ (mem_weightsAll (List.mem_map.2 ⟨i - len, List.mem_range.2 (by omega), by rw [show len + (i - len) = i from by omega]⟩) hy))
  have each : ∀ i, i < m → ∃ f A' m' c', (∀ j v, (cactL f A' m' c')[j]? = some v → W.cell? ((x.add (i * 39)).add j) = some v) ∧ CActOk W W.heap.size f A' m' c' := by
   intro i hi'
   obtain ⟨cs', h1, h2⟩ := hi i hi'
   obtain ⟨f, A', m', c', rfl, hok⟩ := trod_cact h2 (hwD i hi')
   obtain ⟨_, h4, h5⟩ := World.cells?_some h1
   refine ⟨f, A', m', c', fun j v hv => ?_, hok⟩
   have hj : j < 39 := by
    rcases Nat.lt_or_ge j 39 with g | g
    ·exact g
    ·rw [List.getElem?_eq_none (by rw [cactL_len hok.rin.hash]; exact g)] at hv; cases hv
   rw [h5 j hj]; exact hv
  have hch : ∃ F : Nat → CAct, ∀ i, i < m → ∃ A' m' c', (∀ j v, (cactL (F i) A' m' c')[j]? = some v → W.cell? ((x.add (i * 39)).add j) = some v) ∧ CActOk W W.heap.size (F i) A' m' c' := by
   refine ⟨fun i => if h : i < m then Classical.choose (each i h) else CAct.zero, fun i h => ?_⟩
   simp only [dif_pos h]
   exact Classical.choose_spec (each i h)
  obtain ⟨F, hF⟩ := hch
  refine ⟨some x, len, m, (List.range len).map F, rfl, ⟨by simp, fun h0 => ?_⟩, hl, by unfold reachBytes at hcap; omega⟩
  obtain ⟨b, o, s⟩ := x
  obtain ⟨A0, m0, c0, h00, _⟩ := hF 0 (by omega)
  have hc0 := h00 0 _ rfl
  obtain rfl : s = none := by simpa [Addr.add] using World.cell?_spot hc0
  refine ⟨b, o, rfl, ?_, fun j hj => ?_⟩
  ·rw [add_none, add_none] at hc0
   exact cell_block hc0
  ·obtain ⟨A', m', c', h1, h2⟩ := hF j (by omega)
   have e : ((List.range len).map F).getD j CAct.zero = F j := by simp [List.getD, hj]
   rw [e]
   refine ⟨A', m', c', fun i v hv => ?_, h2⟩
   have := h1 i v hv
   rwa [add_none, add_none] at this
theorem open_rcs {r : Reach} {b0 : Nat} {v : Value} {d : DataW H} {ps : List MemPlace} (hval : Value.okWide Tryz.prog W r b0 65 v) (hd : DataW.Trod enc Tryz.prog W base (fun _ => true) held 65 v d ps)
  (hw : ∀ y ∈ d.weights Tryz.prog 65, y ≤ reachBytes) :
  ∃ a len cap l, v = .slice a len cap ∧ RdRL W W.heap.size a len l ∧ len ≤ cap ∧ cap * 64 ≤ 140737488351232 := by
 obtain ⟨a, len, cap, rfl⟩ := okWide_slice Tryz.underlying65 hval
 obtain ⟨fuel, hf⟩ := hd
 have e3 : Tryz.prog.cellsOf 34 = 36 := by kernel_rfl
 rcases open_slice Tryz.underlying65 hf with ⟨hcs, _⟩ | ⟨x, l, c, m, n, D, Pl, hcs, hbx, hl, hm, hmm, hx, hi⟩
 ·simp [Value.cells] at hcs
  obtain ⟨rfl, rfl, rfl⟩ := hcs
  exact ⟨none, 0, 0, [], rfl, ⟨rfl, fun h => absurd h (Nat.lt_irrefl 0)⟩, by omega, by omega⟩
 ·simp [Value.cells] at hcs
  obtain ⟨rfl, rfl, rfl⟩ := hcs
  have hmc : m = cap := by simpa using hmm
  subst hmc
  rw [e3] at hi
  have hdd := congrArg Prod.fst hx
  simp only at hdd
  have b64 : Tryz.prog.bytesOf 34 = 64 := by kernel_rfl
  have hcap : m * 64 ≤ reachBytes := by
   have := hw (m * 64) (by
    rw [hdd]
    simp only [DataW.weights, Tryz.underlying65, b64]
    refine List.mem_cons.2 (.inl ?_)
    simp
    omega)
   exact this
  have each : ∀ i, i < m → ∃ f, (∀ j v, (rcL f)[j]? = some v → W.cell? ((x.add (i * 36)).add j) = some v) ∧ f.In := by
   intro i hi'
   obtain ⟨cs', h1, h2⟩ := hi i hi'
   obtain ⟨f, rfl, hok⟩ := trod_rc h2
   obtain ⟨_, h4, h5⟩ := World.cells?_some h1
   refine ⟨f, fun j v hv => ?_, hok⟩
   have hj : j < 36 := by
    rcases Nat.lt_or_ge j 36 with g | g
    ·exact g
    ·rw [List.getElem?_eq_none (by rw [rcL_len hok.hash]; exact g)] at hv; cases hv
   rw [h5 j hj]; exact hv
  have hch : ∃ F : Nat → Rcd, ∀ i, i < m → (∀ j v, (rcL (F i))[j]? = some v → W.cell? ((x.add (i * 36)).add j) = some v) ∧ (F i).In := by
   refine ⟨fun i => if h : i < m then Classical.choose (each i h) else Rcd.zero, fun i h => ?_⟩
   simp only [dif_pos h]
   exact Classical.choose_spec (each i h)
  obtain ⟨F, hF⟩ := hch
  refine ⟨some x, len, m, (List.range len).map F, rfl, ⟨by simp, fun h0 => ?_⟩, hl, by unfold reachBytes at hcap; omega⟩
  obtain ⟨b, o, s⟩ := x
  obtain ⟨h00, _⟩ := hF 0 (by omega)
  have hc0 := h00 0 _ rfl
  obtain rfl : s = none := by simpa [Addr.add] using World.cell?_spot hc0
  refine ⟨b, o, rfl, ?_, fun j hj => ?_⟩
  ·rw [add_none, add_none] at hc0
   exact cell_block hc0
  ·obtain ⟨h1, h2⟩ := hF j (by omega)
   have e : ((List.range len).map F).getD j Rcd.zero = F j := by simp [List.getD, hj]
   rw [e]
   refine ⟨fun i v hv => ?_, h2⟩
   have := h1 i v hv
   rwa [add_none, add_none] at this
end
end
section
open Go.RowKit
theorem wpList_eqB {ops : Array Oper} {rest : List Oper} {o : Oper} {a : Act} {w : World} {Q : Exit → Act → World → Prop} (hw : Region.wanted o (yielded ops a.tmps) = true) (x y : Operand) (ho : o.op = .binOp .eql 34 x y 34) (r s : Rcd) (hx : a.eval x = .agg (rcL r).toArray) (hy : a.eval y = .agg (rcL s).toArray) (hr : r.hash.length = 32) (hs : s.hash.length = 32) (b : Bool) (hb : decide (r = s) = b)
  (h : wpList Tryz.prog ops Q rest (a.put o.dst (.bool b)) w) : wpList Tryz.prog ops Q (o :: rest) a w :=
 wpList_step fun K hK => by rw [if_pos hw]; exact wp_eqRc x y ho r s hx hy hr hs (by rw [hb]; exact hK _ _ h)
theorem wpList_neB {ops : Array Oper} {rest : List Oper} {o : Oper} {a : Act} {w : World} {Q : Exit → Act → World → Prop} (hw : Region.wanted o (yielded ops a.tmps) = true) (x y : Operand) (ho : o.op = .binOp .neq 34 x y 34) (r s : Rcd) (hx : a.eval x = .agg (rcL r).toArray) (hy : a.eval y = .agg (rcL s).toArray) (hr : r.hash.length = 32) (hs : s.hash.length = 32) (b : Bool) (hb : (!decide (r = s)) = b)
  (h : wpList Tryz.prog ops Q rest (a.put o.dst (.bool b)) w) : wpList Tryz.prog ops Q (o :: rest) a w :=
 wpList_step fun K hK => by rw [if_pos hw]; exact wp_neRc x y ho r s hx hy hr hs (by rw [hb]; exact hK _ _ h)
theorem same_rc (r : Rcd) : (!decide (r = r)) = false := by simp
theorem yieldsIf_neB {ops : Array Oper} {S : World → Prop} {op : Oper} {a : Act} (hw : Region.wanted op (yielded ops a.tmps) = true) (x y : Operand) (ho : op.op = .binOp .neq 34 x y 34) (r s : Rcd) (hx : a.eval x = .agg (rcL r).toArray) (hy : a.eval y = .agg (rcL s).toArray) (hr : r.hash.length = 32) (hs : s.hash.length = 32) (b : Bool) (hb : (!decide (r = s)) = b) : YieldsIf Tryz.prog ops S op (.bool b) a :=
 .inl ⟨hw, fun w' hw' => by
  unfold execOp
  simp only [ho, hx, hy, Sem.run_bind, run_eqGuard_agg _ _ _ _ _ _ _ rc_guard, run_neq_struct, rc_eq r s hr hs, Result.andThen_ok, Sem.run_pure, hb]⟩
theorem yieldsIf_eqB {ops : Array Oper} {S : World → Prop} {op : Oper} {a : Act} (hw : Region.wanted op (yielded ops a.tmps) = true) (x y : Operand) (ho : op.op = .binOp .eql 34 x y 34) (r s : Rcd) (hx : a.eval x = .agg (rcL r).toArray) (hy : a.eval y = .agg (rcL s).toArray) (hr : r.hash.length = 32) (hs : s.hash.length = 32) (b : Bool) (hb : decide (r = s) = b) : YieldsIf Tryz.prog ops S op (.bool b) a :=
 .inl ⟨hw, fun w' hw' => by
  unfold execOp
  simp only [ho, hx, hy, Sem.run_bind, run_eqGuard_agg _ _ _ _ _ _ _ rc_guard, run_eql_struct, rc_eq r s hr hs, Result.andThen_ok, Sem.run_pure, hb]⟩
theorem wpAnyH_weak {P : Program} {md : Region.Mode} {ops : Array Oper} {Q : Exit → Act → World → Prop} {S S' : World → Prop} (hs : ∀ w, S' w → S w) :
  ∀ (fuel : Nat) (listed : Array Bool) (a : Act) (w : World), wpAnyH P md ops Q S' fuel listed a w → wpAnyH P md ops Q S fuel listed a w
 | 0, _, _, _, h => h
 | fuel + 1, _, _, _, h => ⟨h.1, fun i hi => wpOp_mono (fun a' w' h' => ⟨hs _ h'.1, wpAnyH_weak hs fuel _ a' w' h'.2⟩) (h.2 i hi)⟩
abbrev tw0 (w : World) : World := (w.alloc (.cells (rcL Rcd.zero).toArray 34)).alloc (.cells (rcL Rcd.zero).toArray 34)
abbrev tw1 (w : World) (x : Rcd) : World := (tw0 w).setRow w.heap.size (rcL x).toArray
abbrev tw2 (w : World) (x y : Rcd) : World := (tw1 w x).setRow (w.heap.size + 1) (rcL y).toArray
theorem tw_is (w : World) {x y : Rcd} (hx : x.hash.length = 32) (hy : y.hash.length = 32) :
  (tw0 w).heap[w.heap.size]? = some (.cells (rcL Rcd.zero).toArray 34 (0, 0)) ∧ (tw1 w x).heap[w.heap.size + 1]? = some (.cells (rcL Rcd.zero).toArray 34 (0, 0)) ∧
  RB (tw2 w x y) w.heap.size x ∧ RB (tw2 w x y) (w.heap.size + 1) y ∧ Below w.heap.size w (tw2 w x y) := by
 obtain ⟨w1, hw1⟩ : ∃ w1, w.alloc (.cells (rcL Rcd.zero).toArray 34) = w1 := ⟨_, rfl⟩
 have B1 : Below w.heap.size w w1 := by rw [← hw1]; exact (Below.refl _ _).alloc (Nat.le_refl _) _
 have e1 : w1.heap.size = w.heap.size + 1 := by rw [← hw1]; simp
 have hE : tw0 w = w1.alloc (.cells (rcL Rcd.zero).toArray 34) := by rw [← hw1]
 have B2 : Below w1.heap.size w1 (tw0 w) := by rw [hE]; exact (Below.refl _ _).alloc (Nat.le_refl _) _
 have D1 : RB w1 w.heap.size Rcd.zero := by rw [← hw1]; exact RB.new w rfl
 have D2 : RB (tw0 w) w1.heap.size Rcd.zero := by rw [hE]; exact RB.new w1 rfl
 rw [e1] at D2
 have D1' := D1.to B2
 have E1 : RB (tw1 w x) w.heap.size x := D1'.setRow hx
 have E2 : RB (tw1 w x) (w.heap.size + 1) Rcd.zero := D2.setOther (by omega)
 have F1 : RB (tw2 w x y) w.heap.size x := E1.setOther (by omega)
 have F2 : RB (tw2 w x y) (w.heap.size + 1) y := E2.setRow hy
 exact ⟨D1'.2, E2.2, F1, F2, below_setRow (below_setRow (B1.trans (B2.mono B1.size)) (Nat.le_refl _) _) (by omega) _⟩
theorem rc_same {x : Rcd} (hx : x.hash.length = 32) : (rcL Rcd.zero).toArray.size = (rcL x).toArray.size := by rw [rcL_size rfl, rcL_size hx]
def CGrRel (l : List CAct) (n i : Value) (wr : World) (w : World) : Prop :=
 ∃ k s : Nat, k ≤ l.length ∧ s ≤ 5000 ∧ k * 50 ≤ s ∧ n = .int .i64 (s : Int) ∧ i = .int .i64 (k : Int) ∧ w = wr ∧ ∀ j, j < k → (l.getD j CAct.zero).b.length ≤ 5000
def CFew (l : List CAct) : Prop := l.length ≤ 100 ∧ ∀ j, j < l.length → (l.getD j CAct.zero).b.length ≤ 5000
theorem lGreat16 (A : Option Addr) (n c : Nat) (l : List CAct) (w : World) (h : RdCA w w.heap.size A n l) (hn : n ≤ 140737488351232) :
  Calls Tryz.prog 9 #[.slice A n c] w fun e w' => ∃ g, e = .returned (.bool g) ∧ w = w' ∧ (g = false → CFew l) := by
 have H := qH h
 have HL := qH h.1
 clear h
 go_enter Tryz.func9, Tryz.ntmps9
 go_wp2_with fail
 go_loopw [3, 4] (fun s i wr => CGrRel l s i wr w) (fun _ i _ => n - (intOf i).toNat)
 case atStart => exact ⟨0, 0, Nat.zero_le _, Nat.zero_le _, Nat.le_refl _, rfl, rfl, rfl, fun j hj => absurd hj (Nat.not_lt_zero _)⟩
 case round =>
  obtain ⟨k, s, hk, hs, hks, rfl, rfl, rfl, hj⟩ := hrel
  rw [HL.out] at hk
  have HJ := qH hj
  have HS : Hid (s ≤ 5000) := hs
  have HKS : Hid (k * 50 ≤ s) := hks
  have HK : Hid (k ≤ n) := hk
  clear hj
  by_cases hlt : k < n
  ·have HLT : Hid (k < n) := hlt
   obtain ⟨b, o, rfl, hb, hc⟩ := H.out.2 (by omega)
   obtain ⟨A', m, cc, h1, h2⟩ := hc k hlt
   have c2 : w.cell? ⟨b, o + k * 39 + 38, none⟩ = some (.slice A' m cc) := h1 38 _ (cactL_sl h2.rin.hash A' m cc)
   have hm : m = (l.getD k CAct.zero).b.length := h2.rd.1.symm
   have hmc := h2.mc
   have hcc := h2.cc
   have hsI : (s : Int) < 5001 := by omega
   have hmI : (m : Int) < 140737488351233 := by omega
   have hkI : (k : Int) < (n : Int) := by omega
   have hnI : (n : Int) < 140737488351233 := by omega
   have HM := qH hm
   clear hc h1 h2 hm hs hks hk hmc hcc
   by_cases hbig : (s : Int) + m + 50 > 5000
   ·go_wp2_with fail
    go_ret
    exact ⟨true, rfl, rfl, fun h => by cases h⟩
   ·have hbig' : ¬ ((s : Int) + m + 50 > 5000) := hbig
    go_wp2_with fail
    go_roundw
    case rel =>
     refine ⟨k + 1, s + m + 50, by rw [HL.out]; exact HLT.out, by omega, by have := HKS.out; omega, by go_num, by go_num, rfl, fun j hj => ?_⟩
     by_cases e : j = k
     ·subst e; rw [← HM.out]; omega
     ·exact HJ.out j (by omega)
    case measure => have := HLT.out; simp [intOf]; omega
  ·obtain rfl : k = n := by have := HK.out; omega
   have hsI : (s : Int) < 5001 := by omega
   have hnI : (k : Int) < 140737488351233 := by omega
   clear hs hks hk
   go_wp2_with fail
   go_ret
   exact ⟨false, rfl, rfl, fun _ => ⟨by rw [HL.out]; have := HS.out; have := HKS.out; omega, fun j hj => HJ.out j (by rw [HL.out] at hj; exact hj)⟩⟩
end
end Go.Proofs.YtffdjnhhmfpkgaaGreat