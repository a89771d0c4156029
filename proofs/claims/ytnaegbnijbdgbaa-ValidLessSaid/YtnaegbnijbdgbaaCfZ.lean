/- Small words on rows of the call's own and on configurations, shared by the layers from 11 on. -/
import Derived.Test.YtnaegbnijbdgbaaCfW
import Derived.Test.YtnaegbnijbdgbaaBx
namespace Go.Proofs.Ytnaegbnijbdgbaa
open Go.RowKit
set_option linter.unusedVariables false
set_option linter.unusedSimpArgs false
def fld3 (vw vp vc : Value) : List Value := [vw, vp, vc]
def cfL (v : CV) : List Value := [.slice v.aw v.nw v.kw, .slice v.ap v.np v.kp, .slice v.ac v.nc v.kc]

theorem vtB : VT Try.prog 43 5 1 1 (.int .u8 0) := ⟨Try.underlying43, by kernel_rfl, rfl, by decide⟩
theorem bytes_one (bs : List UInt8) : ∀ u ∈ bs.map bval, u.oneCell' = true := by
  intro u hu
  obtain ⟨x, _, rfl⟩ := List.mem_map.1 hu
  rfl
theorem Rd.news {w : World} {B n : Nat} {A : Option Addr} {bs : List UInt8} (h : Rd w B A n bs) : (bs.map bval).length = n * 1 ∧ (0 < n → ∃ ad, A = some ad ∧ ∀ j u, (bs.map bval)[j]? = some u → w.cell? (ad.add j) = some u) := by
  refine ⟨by simp [h.1], fun hn => ?_⟩
  obtain ⟨b, o, e, _, hc⟩ := h.2 hn
  refine ⟨_, e, fun j u hu => ?_⟩
  rw [List.getElem?_map] at hu
  have hj : j < bs.length := by
    rcases Nat.lt_or_ge j bs.length with g | g
    · exact g
    · rw [List.getElem?_eq_none g] at hu; cases hu
  rw [List.getElem?_eq_getElem hj] at hu
  simp only [Option.map_some, Option.some.injEq] at hu
  rw [cell_none, hc j (by rw [← h.1]; exact hj), ← hu]
  simp [bval, nth, List.getD, List.getElem?_eq_getElem hj]
theorem cells_newV (w : World) (T : TypeId) (cs : List Value) : ∀ j u, cs[j]? = some u → (w.alloc (.cells cs.toArray T)).cell? ((⟨w.heap.size, 0, none⟩ : Addr).add j) = some u := fun j u h => by
  rw [cell_none, Nat.zero_add]
  exact (Bx.new w T cs).at h
theorem res_cf1 {fn : Func} {p : Tmp} (h : fn.results = #[.cell p 26]) (tmps : Array Value) (w : World) (g : Nat) (a b c : Value) (hp : tmps.getD p undef = .pointer (some ⟨g, 0, none⟩)) (hx : Bx w g 26 (fld3 a b c)) :
    (results fn tmps).run Try.prog w = .ok (.agg #[a, b, c]) w := by
  have hp' : tmps[p]?.getD undef = .pointer (some ⟨g, 0, none⟩) := by simpa using hp
  have c0 := hx.at (j := 0) rfl
  have c1 := hx.at (j := 1) rfl
  have c2 := hx.at (j := 2) rfl
  simp [results, h, hp', asAddr]
  go_simp
  try rfl
theorem two_boxes (v : CV) (w : World) : ∃ w2, ((w.alloc (.cells #[.slice v.aw v.nw v.kw, .slice v.ap v.np v.kp, .slice v.ac v.nc v.kc] 26)).alloc (.cells #[.slice none 0 0, .slice none 0 0, .slice none 0 0] 26)) = w2 ∧
    Below w.heap.size w w2 ∧ Bx w2 w.heap.size 26 (cfL v) ∧ Bx w2 (w.heap.size + 1) 26 [.slice none 0 0, .slice none 0 0, .slice none 0 0] ∧ w2.heap.size = w.heap.size + 2 := by
  refine ⟨_, rfl, (((Below.refl w.heap.size w).alloc (Nat.le_refl _) _).alloc (by simp) _), ?_, ?_, by simp⟩
  · have h := Bx.new w 26 (cfL v)
    exact h.to ((Below.refl _ _).alloc (Nat.le_refl _) _)
  · have h := Bx.new (w.alloc (.cells #[.slice v.aw v.nw v.kw, .slice v.ap v.np v.kp, .slice v.ac v.nc v.kc] 26)) 26 [.slice none 0 0, .slice none 0 0, .slice none 0 0]
    simpa using h
theorem own_moV {w : World} {B B' z : Nat} {T : TypeId} {v : Value} {n : Nat} {xs : List Value} (h : w.ownsRow B T z v n xs) (hB : B' ≤ B) : w.ownsRow B' T z v n xs := by
  refine ⟨h.1, ?_⟩
  rcases h.2 with h | ⟨g, cap, cur, e, hg, hh, h⟩
  · exact .inl h
  · exact .inr ⟨g, cap, cur, e, Nat.le_trans hB hg, hh, h⟩
/-- A configuration of the call's own, row by row. -/
structure OwX (w : World) (B : Nat) (v : CV) (c : Cf) (qs : List QP) : Prop where
  ww : w.ownsRow B 49 2 (.slice v.aw v.nw v.kw) v.nw (winsV c.ws)
  pp : OwnP w B (.slice v.ap v.np v.kp) qs
  hq : qs.map QP.p = c.ps
  cc : w.ownsRow B 51 5 (.slice v.ac v.nc v.kc) v.nc (chsV c.cs)
  offw : ∀ q ∈ qs, ∀ b, (Value.slice v.aw v.nw v.kw).ownBlock = some b → Off q.A q.m (· = b)
  offc : ∀ q ∈ qs, ∀ b, (Value.slice v.ac v.nc v.kc).ownBlock = some b → Off q.A q.m (· = b)
theorem OwX.cf {w : World} {B : Nat} {v : CV} {c : Cf} {qs : List QP} (h : OwX w B v c qs) : OwCf w B v c := OwCf.of_rows h.ww h.pp h.hq h.cc
theorem OwX.kept {R : Nat → Prop} {w w' : World} {B : Nat} {v : CV} {c : Cf} {qs : List QP} (h : OwX w B v c qs) (hk : Keep R w w') (hR : ∀ k, R k → k < B ∨ w.heap.size ≤ k) : OwX w' B v c qs :=
  ⟨own_tv h.ww hk hR, h.pp.to hk hR, h.hq, own_tv h.cc hk hR, h.offw, h.offc⟩
theorem OwX.to {w w' : World} {B : Nat} {v : CV} {c : Cf} {qs : List QP} (h : OwX w B v c qs) (hb : Below w.heap.size w w') : OwX w' B v c qs :=
  h.kept (R := fun _ => False) (Keep.of_below hb) (fun _ hh => hh.elim)
theorem OwX.mono {w : World} {B B' : Nat} {v : CV} {c : Cf} {qs : List QP} (h : OwX w B v c qs) (hB : B' ≤ B) : OwX w B' v c qs :=
  ⟨own_moV h.ww hB, ⟨own_moV h.pp.row hB, fun q hq => ⟨(h.pp.img q hq).own.mono hB, (h.pp.img q hq).mc, (h.pp.img q hq).cc⟩, h.pp.off⟩, h.hq, own_moV h.cc hB, h.offw, h.offc⟩
theorem own_ne {w : World} {B B' z z' : Nat} {T T' : TypeId} {v v' : Value} {n n' : Nat} {xs xs' : List Value} (h : w.ownsRow B T z v n xs) (h' : w.ownsRow B' T' z' v' n' xs') (hT : T ≠ T') {b : Nat} (e : v.ownBlock = some b) : v'.ownBlock ≠ some b := by
  intro e'
  rcases h.2 with ⟨rfl, _⟩ | ⟨g, cap, cur, rfl, _, hh, _⟩
  · cases e
  rcases h'.2 with ⟨rfl, _⟩ | ⟨g', cap', cur', rfl, _, hh', _⟩
  · cases e'
  simp only [Value.ownBlock, Option.some.injEq] at e e'
  subst e; subst e'
  rw [hh] at hh'
  injection hh' with hh'
  injection hh' with _ hh'
  exact hT hh'
end Go.Proofs.Ytnaegbnijbdgbaa
