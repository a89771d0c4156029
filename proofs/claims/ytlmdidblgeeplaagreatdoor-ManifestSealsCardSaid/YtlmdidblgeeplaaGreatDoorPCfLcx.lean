/- Several texts in one (a claim has 60 files at most): CfZ, CfX, VaM, VaN, CfLg, RegR, VaR, CfLc. -/
import Derived.Test.YtlmdidblgeeplaaGreatDoorTz
import Derived.Test.YtlmdidblgeeplaaGreatDoorPChPx
import Derived.Test.YtlmdidblgeeplaaGreatDoorPInvRx
import Derived.Test.YtlmdidblgeeplaaGreatDoorPCfSx
import Derived.Test.YtlmdidblgeeplaaGreatDoorPRegPy
import Derived.Test.YtlmdidblgeeplaaGreatDoorPCfTy
import Derived.Test.YtlmdidblgeeplaaGreatDoorPSchDx
import Derived.Test.YtlmdidblgeeplaaGreatDoorPChDx
import Derived.Deep.RegionHeld
import Derived.Deep.DeepCutAuto
import Derived.Deep.RegionLaw
namespace Go.Proofs.YtlmdidblgeeplaaGreatDoor
set_option maxRecDepth 1000000
set_option maxHeartbeats 8000000
set_option linter.unusedVariables false
set_option linter.unusedSimpArgs false
section
open Go.RowKit
def fld3 (vw vp vc : Value) : List Value := [vw, vp, vc]
def cfL (v : CV) : List Value := [.slice v.aw v.nw v.kw, .slice v.ap v.np v.kp, .slice v.ac v.nc v.kc]
theorem vtB : VT Tryz.prog 31 5 1 1 (.int .u8 0) := ⟨Tryz.underlying31, by kernel_rfl, rfl, by decide⟩
theorem bytes_one (bs : List UInt8) : ∀ u ∈ bs.map bval, u.oneCell' = true := by
 intro u hu
 obtain ⟨x, _, rfl⟩ := List.mem_map.1 hu
 rfl
theorem Rd.news {w : World} {B n : Nat} {A : Option Addr} {bs : List UInt8} (h : Rd w B A n bs) : (bs.map bval).length = n * 1 ∧ (0 < n → ∃ ad, A = some ad ∧ ∀ j u, (bs.map bval)[j]? = some u → w.cell? (ad.add j) = some u) := by
 refine ⟨by simp [h.1], fun hn => ?_⟩
 obtain ⟨b, o, e, _, hc⟩ := h.2 hn
 refine ⟨_, e, fun j u hu => ?_⟩
 rw [List.getElem?_map] at hu
 have hj : j < bs.length := by
  rcases Nat.lt_or_ge j bs.length with g | g
  ·exact g
  ·rw [List.getElem?_eq_none g] at hu; cases hu
 rw [List.getElem?_eq_getElem hj] at hu
 simp only [Option.map_some, Option.some.injEq] at hu
 rw [cell_none, hc j (by rw [← h.1]; exact hj), ← hu]
 simp [bval, nth, List.getD, List.getElem?_eq_getElem hj]
theorem cells_newV (w : World) (T : TypeId) (cs : List Value) : ∀ j u, cs[j]? = some u → (w.alloc (.cells cs.toArray T)).cell? ((⟨w.heap.size, 0, none⟩ : Addr).add j) = some u := fun j u h => by
 rw [cell_none, Nat.zero_add]
 exact (Bx.new w T cs).at h
theorem res_cf1 {fn : Func} {p : Tmp} (h : fn.results = #[.cell p 28]) (tmps : Array Value) (w : World) (g : Nat) (a b c : Value) (hp : tmps.getD p undef = .pointer (some ⟨g, 0, none⟩)) (hx : Bx w g 28 (fld3 a b c)) :
  (results fn tmps).run Tryz.prog w = .ok (.agg #[a, b, c]) w := by
 have hp' : tmps[p]?.getD undef = .pointer (some ⟨g, 0, none⟩) := by simpa using hp
 have c0 := hx.at (j := 0) rfl
 have c1 := hx.at (j := 1) rfl
 have c2 := hx.at (j := 2) rfl
 simp [results, h, hp', asAddr]
 go_simp
 try rfl
theorem two_boxes (v : CV) (w : World) : ∃ w2, ((w.alloc (.cells #[.slice v.aw v.nw v.kw, .slice v.ap v.np v.kp, .slice v.ac v.nc v.kc] 28)).alloc (.cells #[.slice none 0 0, .slice none 0 0, .slice none 0 0] 28)) = w2 ∧
  Below w.heap.size w w2 ∧ Bx w2 w.heap.size 28 (cfL v) ∧ Bx w2 (w.heap.size + 1) 28 [.slice none 0 0, .slice none 0 0, .slice none 0 0] ∧ w2.heap.size = w.heap.size + 2 := by
 refine ⟨_, rfl, (((Below.refl w.heap.size w).alloc (Nat.le_refl _) _).alloc (by simp) _), ?_, ?_, by simp⟩
 ·have h := Bx.new w 28 (cfL v)
  exact h.to ((Below.refl _ _).alloc (Nat.le_refl _) _)
 ·have h := Bx.new (w.alloc (.cells #[.slice v.aw v.nw v.kw, .slice v.ap v.np v.kp, .slice v.ac v.nc v.kc] 28)) 28 [.slice none 0 0, .slice none 0 0, .slice none 0 0]
  simpa using h
theorem own_moV {w : World} {B B' z : Nat} {T : TypeId} {v : Value} {n : Nat} {xs : List Value} (h : w.ownsRow B T z v n xs) (hB : B' ≤ B) : w.ownsRow B' T z v n xs := by
 refine ⟨h.1, ?_⟩
 rcases h.2 with h | ⟨g, cap, cur, e, hg, hh, h⟩
 ·exact .inl h
 ·exact .inr ⟨g, cap, cur, e, Nat.le_trans hB hg, hh, h⟩
structure OwX (w : World) (B : Nat) (v : CV) (c : Cf) (qs : List QP) : Prop where
 ww : w.ownsRow B 82 2 (.slice v.aw v.nw v.kw) v.nw (winsV c.ws)
 pp : OwnP w B (.slice v.ap v.np v.kp) qs
 hq : qs.map QP.p = c.ps
 cc : w.ownsRow B 130 5 (.slice v.ac v.nc v.kc) v.nc (chsV c.cs)
 offw : ∀ q ∈ qs, ∀ b, (Value.slice v.aw v.nw v.kw).ownBlock = some b → Off q.A q.m (· = b)
 offc : ∀ q ∈ qs, ∀ b, (Value.slice v.ac v.nc v.kc).ownBlock = some b → Off q.A q.m (· = b)
theorem OwX.cf {w : World} {B : Nat} {v : CV} {c : Cf} {qs : List QP} (h : OwX w B v c qs) : OwCf w B v c := OwCf.of_rows h.ww h.pp h.hq h.cc
theorem OwX.kept {R : Nat → Prop} {w w' : World} {B : Nat} {v : CV} {c : Cf} {qs : List QP} (h : OwX w B v c qs) (hk : Keep R w w') (hR : ∀ k, R k → k < B ∨ w.heap.size ≤ k) : OwX w' B v c qs :=
 ⟨own_tv h.ww hk hR, h.pp.to hk hR, h.hq, own_tv h.cc hk hR, h.offw, h.offc⟩
theorem OwX.to {w w' : World} {B : Nat} {v : CV} {c : Cf} {qs : List QP} (h : OwX w B v c qs) (hb : Below w.heap.size w w') : OwX w' B v c qs :=
 h.kept (R := fun _ => False) (Keep.of_below hb) (fun _ hh => hh.elim)
theorem OwX.mono {w : World} {B B' : Nat} {v : CV} {c : Cf} {qs : List QP} (h : OwX w B v c qs) (hB : B' ≤ B) : OwX w B' v c qs :=
 ⟨own_moV h.ww hB, ⟨own_moV h.pp.row hB, fun q hq => ⟨(h.pp.img q hq).own.mono hB, (h.pp.img q hq).mc, (h.pp.img q hq).cc⟩, h.pp.off⟩, h.hq, own_moV h.cc hB, h.offw, h.offc⟩
theorem own_ne {w : World} {B B' z z' : Nat} {T T' : TypeId} {v v' : Value} {n n' : Nat} {xs xs' : List Value} (h : w.ownsRow B T z v n xs) (h' : w.ownsRow B' T' z' v' n' xs') (hT : T ≠ T') {b : Nat} (e : v.ownBlock = some b) : v'.ownBlock ≠ some b := by
 intro e'
 rcases h.2 with ⟨rfl, _⟩ | ⟨g, cap, cur, rfl, _, hh, _⟩
 ·cases e
 rcases h'.2 with ⟨rfl, _⟩ | ⟨g', cap', cur', rfl, _, hh', _⟩
 ·cases e'
 simp only [Value.ownBlock, Option.some.injEq] at e e'
 subst e; subst e'
 rw [hh] at hh'
 injection hh' with hh'
 injection hh' with _ hh'
 exact hT hh'
end
section
open Go.RowKit
structure PSt (w0 : World) (T gr g : Nat) (gb : Option Nat) (w : World) (s : RS) (vw vp vc : Value) (lw : List Reg) (lp : List QP) (lc : List Ch) : Prop where
 ref : RefAt w gr gb s
 box : Bx w g 28 (fld3 vw vp vc)
 ow : w.ownsRow T 82 2 vw lw.length (winsV lw)
 op : OwnP w T vp lp
 oc : w.ownsRow T 130 5 vc lc.length (chsV lc)
 offc : ∀ q ∈ lp, ∀ b, vc.ownBlock = some b → Off q.A q.m (· = b)
 bel : Below w0.heap.size w0 w
 tw : T ≤ w.heap.size
 gt : g < T
 grt : gr < T
 gbt : ∀ b, gb = some b → b < T ∧ b ≠ g
 ne : g ≠ gr
 g0 : w0.heap.size ≤ g
 gr0 : w0.heap.size ≤ gr
section
variable {w0 : World} {T gr g : Nat} {gb : Option Nat} {w : World} {s : RS} {vw vp vc : Value} {lw : List Reg} {lp : List QP} {lc : List Ch}
theorem PSt.step {w' : World} {s' : RS} (h : PSt w0 T gr g gb w s vw vp vc lw lp lc) (hk : Keep (fun k => k = gr ∨ w.heap.size ≤ k) w w') (hr : RefAt w' gr gb s') : PSt w0 T gr g gb w' s' vw vp vc lw lp lc := by
 have hR : ∀ k, (fun k => k = gr ∨ w.heap.size ≤ k) k → k < T ∨ w.heap.size ≤ k := fun k hk => by rcases hk with rfl | hk; exact .inl h.grt; exact .inr hk
 refine ⟨hr, h.box.kept hk (fun hh => ?_), own_tv h.ow hk hR, h.op.to hk hR, own_tv h.oc hk hR, h.offc, hk.below h.bel h.bel.size (fun k hh => ?_), Nat.le_trans h.tw hk.size, h.gt, h.grt, h.gbt, h.ne, h.g0, h.gr0⟩
 ·rcases hh with hh | hh
  ·exact h.ne hh
  ·have := h.box.lt; omega
 ·have := h.gr0
  have := h.bel.size
  rcases hh with hh | hh <;> omega
theorem PSt.read {w' : World} {s' : RS} (h : PSt w0 T gr g gb w s vw vp vc lw lp lc) (hk : Keep (· = gr) w w') (hr : RefAt w' gr gb s') : PSt w0 T gr g gb w' s' vw vp vc lw lp lc := h.step (hk.more fun k hk => .inl hk) hr
theorem PSt.refKept {R : Nat → Prop} {w' : World} (h : PSt w0 T gr g gb w s vw vp vc lw lp lc) (hk : Keep R w w') (hR : ∀ k, R k → T ≤ k ∨ k = g) : RefAt w' gr gb s :=
 h.ref.kept hk (fun hh => by have := hR _ hh; have := h.grt; have := h.ne; omega) (fun b hb hh => by have := hR _ hh; have := h.gbt b hb; omega)
theorem PSt.putW {w1 : World} {v' : Value} {r : Reg} (h : PSt w0 T gr g gb w s vw vp vc lw [] lc) (hown : w1.ownsRow T 82 2 v' (lw.length + 1) (winsV lw ++ regL r)) (hk : Keep (fun k => vw.ownBlock = some k) w w1) :
  PSt w0 T gr g gb (w1.setCell ⟨g, 0, none⟩ v') s v' vp vc (lw ++ [r]) [] lc := by
 have hT : ∀ k, vw.ownBlock = some k → T ≤ k := fun k hk => (h.ow.lt k hk).1
 have hk2 : Keep (fun k => vw.ownBlock = some k ∨ k = g) w (w1.setCell ⟨g, 0, none⟩ v') := (hk.more fun k hk => .inl hk).setCell _ _ (.inr rfl)
 have hs : Keep (· = g) w1 (w1.setCell ⟨g, 0, none⟩ v') := (Keep.refl _ _).setCell _ _ rfl
 have hgt := h.gt
 refine ⟨h.refKept hk2 (fun k hk => by rcases hk with hk | hk; exact .inl (hT k hk); exact .inr hk), ?_, ?_, ?_, ?_, fun _ hq => absurd hq List.not_mem_nil, hk2.below h.bel h.bel.size (fun k hh => ?_), Nat.le_trans h.tw hk2.size, h.gt, h.grt, h.gbt, h.ne, h.g0, h.gr0⟩
 ·exact (h.box.kept hk (fun hh => by have := hT _ hh; omega)).set 0 v'
 ·rw [List.length_append, winsV_app, show winsV [r] = regL r from List.append_nil _]
  exact own_tv hown hs (fun k hk => .inl (by rw [hk]; exact h.gt))
 ·refine h.op.kept hk2 (fun b hb hh => ?_) (fun q hq => absurd hq List.not_mem_nil)
  rcases hh with hh | hh
  ·exact own_ne h.op.row h.ow (by decide) hb hh
  ·have := (h.op.row.lt b hb).1; omega
 ·refine own_kv h.oc hk2 (fun b hb hh => ?_)
  rcases hh with hh | hh
  ·exact own_ne h.oc h.ow (by decide) hb hh
  ·have := (h.oc.lt b hb).1; omega
 ·have := h.g0
  rcases hh with hh | hh
  ·have := hT k hh; omega
  ·omega
theorem PSt.putP {w1 : World} {v' : Value} {q : QP} (h : PSt w0 T gr g gb w s vw vp (.slice none 0 0) lw lp []) (hq : Img w T q) (hqo : ∀ b, vp.ownBlock = some b → Off q.A q.m (· = b)) (hown : w1.ownsRow T 58 5 v' (lp.length + 1) (partsV lp ++ q.cells)) (hk : Keep (fun k => vp.ownBlock = some k) w w1)
  (hv : ∀ b, v'.ownBlock = some b → vp.ownBlock = some b ∨ w.heap.size ≤ b) : PSt w0 T gr g gb (w1.setCell ⟨g, 1, none⟩ v') s vw v' (.slice none 0 0) lw (lp ++ [q]) [] := by
 have hT : ∀ k, vp.ownBlock = some k → T ≤ k := fun k hk => (h.op.row.lt k hk).1
 have hk2 : Keep (fun k => vp.ownBlock = some k ∨ k = g) w (w1.setCell ⟨g, 1, none⟩ v') := (hk.more fun k hk => .inl hk).setCell _ _ (.inr rfl)
 have hs : Keep (· = g) w1 (w1.setCell ⟨g, 1, none⟩ v') := (Keep.refl _ _).setCell _ _ rfl
 have hgt := h.gt
 refine ⟨h.refKept hk2 (fun k hk => by rcases hk with hk | hk; exact .inl (hT k hk); exact .inr hk), ?_, ?_, ?_, ?_, fun _ _ b hb => (by cases hb), hk2.below h.bel h.bel.size (fun k hh => ?_), Nat.le_trans h.tw hk2.size, h.gt, h.grt, h.gbt, h.ne, h.g0, h.gr0⟩
 ·exact (h.box.kept hk (fun hh => by have := hT _ hh; omega)).set 1 v'
 ·refine own_kv h.ow hk2 (fun b hb hh => ?_)
  rcases hh with hh | hh
  ·exact own_ne h.ow h.op.row (by decide) hb hh
  ·have := (h.ow.lt b hb).1; omega
 ·exact (h.op.push hq hqo hown hk hv).to hs (fun k hk => .inl (by rw [hk]; exact h.gt))
 ·exact World.ownsRow_nil _ _ _ _
 ·have := h.g0
  rcases hh with hh | hh
  ·have := hT k hh; omega
  ·omega
theorem PSt.putC {w1 : World} {v' : Value} {r : Ch} (h : PSt w0 T gr g gb w s vw vp vc lw lp lc) (hown : w1.ownsRow T 130 5 v' (lc.length + 1) (chsV lc ++ chL r)) (hk : Keep (fun k => vc.ownBlock = some k) w w1)
  (hv : ∀ b, v'.ownBlock = some b → vc.ownBlock = some b ∨ w.heap.size ≤ b) : PSt w0 T gr g gb (w1.setCell ⟨g, 2, none⟩ v') s vw vp v' lw lp (lc ++ [r]) := by
 have hT : ∀ k, vc.ownBlock = some k → T ≤ k := fun k hk => (h.oc.lt k hk).1
 have hk2 : Keep (fun k => vc.ownBlock = some k ∨ k = g) w (w1.setCell ⟨g, 2, none⟩ v') := (hk.more fun k hk => .inl hk).setCell _ _ (.inr rfl)
 have hs : Keep (· = g) w1 (w1.setCell ⟨g, 2, none⟩ v') := (Keep.refl _ _).setCell _ _ rfl
 have hgt := h.gt
 refine ⟨h.refKept hk2 (fun k hk => by rcases hk with hk | hk; exact .inl (hT k hk); exact .inr hk), ?_, ?_, ?_, ?_, fun q hq b hb => ?_, hk2.below h.bel h.bel.size (fun k hh => ?_), Nat.le_trans h.tw hk2.size, h.gt, h.grt, h.gbt, h.ne, h.g0, h.gr0⟩
 ·exact (h.box.kept hk (fun hh => by have := hT _ hh; omega)).set 2 v'
 ·refine own_kv h.ow hk2 (fun b hb hh => ?_)
  rcases hh with hh | hh
  ·exact own_ne h.ow h.oc (by decide) hb hh
  ·have := (h.ow.lt b hb).1; omega
 ·refine h.op.kept hk2 (fun b hb hh => ?_) (fun q hq hn b o e hh => ?_)
  ·rcases hh with hh | hh
   ·exact own_ne h.op.row h.oc (by decide) hb hh
   ·have := (h.op.row.lt b hb).1; omega
  ·rcases hh with hh | hh
   ·exact h.offc q hq b hh hn b o e rfl
   ·obtain ⟨b', o', e', hB, _⟩ := (h.op.img q hq).own.2 hn
    rw [e] at e'
    injection e' with e'; injection e' with e1 _
    omega
 ·rw [List.length_append, chsV_app, show chsV [r] = chL r from List.append_nil _]
  exact own_tv hown hs (fun k hk => .inl (by rw [hk]; exact h.gt))
 ·rcases hv b hb with hb | hb
  ·exact h.offc q hq b hb
  ·exact (h.op.img q hq).off_lt (fun k hk => .inr (by omega))
 ·have := h.g0
  rcases hh with hh | hh
  ·have := hT k hh; omega
  ·omega
theorem PSt.rd (h : PSt w0 T gr g gb w s vw vp vc lw lp lc) : ∃ v : CV, vw = .slice v.aw v.nw v.kw ∧ vp = .slice v.ap v.np v.kp ∧ vc = .slice v.ac v.nc v.kc ∧ v.nw = lw.length ∧ v.np = lp.length ∧ v.nc = lc.length ∧ OwCf w T v ⟨lw, lp.map QP.p, lc⟩ := by
 obtain ⟨aw, kw, rfl⟩ := own_slV h.ow
 obtain ⟨ap, kp, rfl⟩ := own_slV h.op.row
 obtain ⟨ac, kc, rfl⟩ := own_slV h.oc
 exact ⟨⟨aw, lw.length, kw, ap, lp.length, kp, ac, lc.length, kc⟩, rfl, rfl, rfl, rfl, rfl, rfl, OwCf.of_rows h.ow h.op rfl h.oc⟩
end
theorem PSt.out {w0 : World} {T gr g : Nat} {gb : Option Nat} {w w' : World} {s : RS} {lw : List Reg} {lp : List QP} {lc : List Ch} {v : CV} {R : Nat → Prop} (h : PSt w0 T gr g gb w s (.slice v.aw v.nw v.kw) (.slice v.ap v.np v.kp) (.slice v.ac v.nc v.kc) lw lp lc) (hk : Keep R w w') (hR : ∀ k, R k → k < T ∨ w.heap.size ≤ k) :
  OwCf w' T v ⟨lw, lp.map QP.p, lc⟩ := by
 have h1 := own_tv h.ow hk hR
 have h3 := own_tv h.oc hk hR
 rw [(own_capV h1).1] at h1
 rw [(own_capV h3).1] at h3
 exact OwCf.of_rows h1 (h.op.to hk hR) rfl h3
theorem res_cf {fn : Func} {p q : Tmp} (h : fn.results = #[.cell p 28, .tmp q]) (tmps : Array Value) (w : World) (g : Nat) (a b c u : Value) (hp : tmps.getD p undef = .pointer (some ⟨g, 0, none⟩)) (hq : tmps.getD q undef = u) (hx : Bx w g 28 (fld3 a b c)) :
  (results fn tmps).run Tryz.prog w = .ok (.tuple #[.agg #[a, b, c], u]) w := by
 have hp' : tmps[p]?.getD undef = .pointer (some ⟨g, 0, none⟩) := by simpa using hp
 have hq' : tmps[q]?.getD undef = u := by simpa using hq
 have c0 := hx.at (j := 0) rfl
 have c1 := hx.at (j := 1) rfl
 have c2 := hx.at (j := 2) rfl
 simp [results, h, hp', hq', asAddr]
 go_simp
 try rfl
def cfOut (bs : List UInt8) : Cf := if okC bs = true then gotC bs else ⟨[], [], []⟩
def cfErr (bs : List UInt8) : Int := if okC bs = true then 0 else 110
theorem cfOut_yes {bs : List UInt8} (h : okC bs = true) : cfOut bs = gotC bs ∧ cfErr bs = 0 := by unfold cfOut cfErr; rw [if_pos h, if_pos h]; exact ⟨rfl, rfl⟩
theorem cfOut_no {bs : List UInt8} (h : okC bs = false) : cfOut bs = ⟨[], [], []⟩ ∧ cfErr bs = 110 := by unfold cfOut cfErr; rw [h]; exact ⟨rfl, rfl⟩
theorem rdCf_nil (w : World) (B : Nat) : RdCf w B ⟨none, 0, 0, none, 0, 0, none, 0, 0⟩ ⟨[], [], []⟩ := ⟨RdG.nil _ _ _, RdP.nil _ _ _, ⟨rfl, fun h => absurd h (Nat.lt_irrefl 0)⟩, Nat.le_refl _, Nat.le_refl _, Nat.le_refl _⟩
theorem sp_nil (w : World) (B : Nat) : Sp w B ⟨none, 0, 0, none, 0, 0, none, 0, 0⟩ := ⟨fun h => absurd h (Nat.lt_irrefl 0), fun h => absurd h (Nat.lt_irrefl 0), fun h => absurd h (Nat.lt_irrefl 0)⟩
end
section
open Go.RowKit
def anyN (f : Nat → Bool) : Nat → Bool
 | 0 => false
 | n + 1 => anyN f n || f n
theorem anyN_iff {f : Nat → Bool} : ∀ {n : Nat}, anyN f n = true ↔ ∃ k, k < n ∧ f k = true
 | 0 => by simp [anyN]
 | n + 1 => by
  rw [anyN, Bool.or_eq_true, anyN_iff]
  constructor
  ·rintro (⟨k, hk, h⟩ | h)
   ·exact ⟨k, by omega, h⟩
   ·exact ⟨n, by omega, h⟩
  ·rintro ⟨k, hk, h⟩
   rcases Nat.lt_or_ge k n with g | g
   ·exact .inl ⟨k, g, h⟩
   ·obtain rfl : k = n := by omega
    exact .inr h
theorem anyN_no {f : Nat → Bool} {n : Nat} : anyN f n = false ↔ ∀ k, k < n → f k = false := by
 rw [← Bool.not_eq_true, anyN_iff]
 constructor
 ·intro h k hk
  cases e : f k
  ·rfl
  ·exact absurd ⟨k, hk, e⟩ h
 ·rintro h ⟨k, hk, e⟩
  rw [h k hk] at e; cases e
def hasP (c : Cf) (id : Int) : Bool := decide (0 ≤ findP c.ps id)
def regP (p : Pt) : Reg := (p.base, p.size)
def wrW (c : Cf) (i : Nat) : Bool := decide ((rat c.ws i).2 ≠ 0) && !hasP c (rat c.ws i).2
def wrP (c : Cf) (i : Nat) : Bool := decide ((ptAt c.ps i).id < 1) || (decide (6 < (ptAt c.ps i).id) || (decide (0 < i) && decide ((ptAt c.ps i).id ≤ (ptAt c.ps (i - 1)).id)))
def wrR (c : Cf) (i : Nat) : Bool := !mayR (regP (ptAt c.ps i)) || decide ((ptAt c.ps i).size < ((ptAt c.ps i).img.length : Int))
def wrO (c : Cf) (i k : Nat) : Bool := mayR (regP (ptAt c.ps i)) && (mayR (regP (ptAt c.ps k)) && !apartR (regP (ptAt c.ps i)) (regP (ptAt c.ps k)))
def wrC (c : Cf) (i : Nat) : Bool := !hasP c (chAt c.cs i).fr || !hasP c (chAt c.cs i).dst
noncomputable def fltW (c : Cf) : Bool := !mayW c.ws || anyN (wrW c) c.ws.length
noncomputable def fltP (c : Cf) : Bool := (decide (c.ps.length = 0) || decide (6 < c.ps.length)) || anyN (wrP c) c.ps.length
noncomputable def fltR (c : Cf) : Bool := anyN (wrR c) c.ps.length
noncomputable def fltO (c : Cf) : Bool := anyN (fun i => anyN (wrO c i) i) c.ps.length
noncomputable def fltC (c : Cf) : Bool := (decide (8 < c.cs.length) || decide (allE c.cs ≠ 0)) || anyN (wrC c) c.cs.length
def more (b : Bool) (e : Int) : List Int := if b = true then [e] else []
noncomputable def allV (c : Cf) : List Int := more (fltW c) 90 ++ more (fltP c) 120 ++ more (fltR c) 80 ++ more (fltO c) 121 ++ more (fltC c) 100
noncomputable def checkV (c : Cf) : Int := (allV c).headD 0
noncomputable def fitsV (c : Cf) : Bool := decide ((allV c).length = 0)
theorem more_len (b : Bool) (e : Int) : (more b e).length ≤ 1 := by unfold more; split <;> simp
theorem fitsV_iff {c : Cf} : fitsV c = true ↔ fltW c = false ∧ fltP c = false ∧ fltR c = false ∧ fltO c = false ∧ fltC c = false := by
 unfold fitsV allV more
 cases fltW c <;> cases fltP c <;> cases fltR c <;> cases fltO c <;> cases fltC c <;> simp
theorem fitsV_check {c : Cf} : checkV c = 0 ↔ fitsV c = true := by
 unfold fitsV checkV allV more
 cases fltW c <;> cases fltP c <;> cases fltR c <;> cases fltO c <;> cases fltC c <;> simp
end
section
open Go.RowKit
structure Val (c : Cf) : Prop where
 mayw : mayW c.ws = true
 win : ∀ i, i < c.ws.length → (rat c.ws i).2 ≠ 0 → hasP c (rat c.ws i).2 = true
 pos : 0 < c.ps.length
 six : c.ps.length ≤ 6
 ids : ∀ i, i < c.ps.length → 1 ≤ (ptAt c.ps i).id ∧ (ptAt c.ps i).id ≤ 6
 asc : ∀ i, 0 < i → i < c.ps.length → (ptAt c.ps (i - 1)).id < (ptAt c.ps i).id
 mayr : ∀ i, i < c.ps.length → mayR (regP (ptAt c.ps i)) = true
 img : ∀ i, i < c.ps.length → ((ptAt c.ps i).img.length : Int) ≤ (ptAt c.ps i).size
 apart : ∀ i, i < c.ps.length → ∀ k, k < i → apartR (regP (ptAt c.ps i)) (regP (ptAt c.ps k)) = true
 eight : c.cs.length ≤ 8
 ce : allE c.cs = 0
 chs : ∀ i, i < c.cs.length → hasP c (chAt c.cs i).fr = true ∧ hasP c (chAt c.cs i).dst = true
theorem val_of {c : Cf} (h : fitsV c = true) : Val c := by
 obtain ⟨h1, h2, h3, h4, h5⟩ := fitsV_iff.1 h
 unfold fltW at h1
 unfold fltP at h2
 unfold fltR at h3
 unfold fltO at h4
 unfold fltC at h5
 rw [Bool.or_eq_false_iff, anyN_no] at h1 h2 h5
 rw [anyN_no] at h3 h4
 rw [Bool.or_eq_false_iff, decide_eq_false_iff_not, decide_eq_false_iff_not] at h2 h5
 have hr : ∀ i, i < c.ps.length → mayR (regP (ptAt c.ps i)) = true ∧ ((ptAt c.ps i).img.length : Int) ≤ (ptAt c.ps i).size := fun i hi => by
  have := h3 i hi
  unfold wrR at this
  rw [Bool.or_eq_false_iff, decide_eq_false_iff_not] at this
  exact ⟨by simpa using this.1, by omega⟩
 have hp : ∀ i, i < c.ps.length → 1 ≤ (ptAt c.ps i).id ∧ (ptAt c.ps i).id ≤ 6 ∧ (0 < i → (ptAt c.ps (i - 1)).id < (ptAt c.ps i).id) := fun i hi => by
  have := h2.2 i hi
  unfold wrP at this
  rw [Bool.or_eq_false_iff, Bool.or_eq_false_iff, decide_eq_false_iff_not, decide_eq_false_iff_not, Bool.and_eq_false_iff, decide_eq_false_iff_not, decide_eq_false_iff_not] at this
  refine ⟨by omega, by omega, fun h0 => ?_⟩
  rcases this.2.2 with g | g <;> omega
 refine ⟨by simpa using h1.1, fun i hi hn => ?_, by omega, by omega, fun i hi => ⟨(hp i hi).1, (hp i hi).2.1⟩, fun i h0 hi => (hp i hi).2.2 h0, fun i hi => (hr i hi).1, fun i hi => (hr i hi).2, fun i hi k hk => ?_, by omega, ?_, fun i hi => ?_⟩
 ·have := h1.2 i hi
  unfold wrW at this
  rw [decide_eq_true hn, Bool.true_and] at this
  simpa using this
 ·have := anyN_no.1 (h4 i hi) k hk
  unfold wrO at this
  rw [(hr i hi).1, (hr k (by omega)).1, Bool.true_and, Bool.true_and] at this
  simpa using this
 ·have := h5.1.2
  simpa using this
 ·have := h5.2 i hi
  unfold wrC at this
  rw [Bool.or_eq_false_iff] at this
  exact ⟨by simpa using this.1, by simpa using this.2⟩
theorem Val.lt {c : Cf} (h : Val c) : ∀ {i j : Nat}, i < j → j < c.ps.length → (ptAt c.ps i).id < (ptAt c.ps j).id := by
 intro i j hij hj
 induction j with
 | zero => omega
 | succ j ih =>
  have h1 := h.asc (j + 1) (by omega) hj
  rw [Nat.add_sub_cancel] at h1
  rcases Nat.lt_or_ge i j with g | g
  ·have := ih g (by omega); omega
  ·obtain rfl : i = j := by omega
   exact h1
theorem Val.find {c : Cf} (h : Val c) {i : Nat} (hi : i < c.ps.length) : findP c.ps (ptAt c.ps i).id = (i : Int) :=
 findP_at hi (fun j hj e => by have := h.lt hj hi; omega) rfl
theorem fits_of {c : Cf} (h : Val c) : fitsV c = true := by
 refine fitsV_iff.2 ⟨?_, ?_, ?_, ?_, ?_⟩
 ·unfold fltW
  rw [h.mayw, Bool.not_true, Bool.false_or, anyN_no]
  intro i hi
  unfold wrW
  by_cases h0 : (rat c.ws i).2 = 0
  ·simp [h0]
  ·rw [h.win i hi h0]; simp
 ·unfold fltP
  have h1 := h.pos
  have h2 := h.six
  rw [Bool.or_eq_false_iff, Bool.or_eq_false_iff, decide_eq_false_iff_not, decide_eq_false_iff_not, anyN_no]
  refine ⟨⟨by omega, by omega⟩, fun i hi => ?_⟩
  have h3 := h.ids i hi
  unfold wrP
  rw [Bool.or_eq_false_iff, Bool.or_eq_false_iff, decide_eq_false_iff_not, decide_eq_false_iff_not, Bool.and_eq_false_iff, decide_eq_false_iff_not, decide_eq_false_iff_not]
  refine ⟨by omega, by omega, ?_⟩
  rcases Nat.eq_zero_or_pos i with g | g
  ·exact .inl (by omega)
  ·exact .inr (by have := h.asc i g hi; omega)
 ·unfold fltR
  rw [anyN_no]
  intro i hi
  unfold wrR
  rw [h.mayr i hi, Bool.or_eq_false_iff, decide_eq_false_iff_not]
  exact ⟨rfl, by have := h.img i hi; omega⟩
 ·unfold fltO
  rw [anyN_no]
  intro i hi
  rw [anyN_no]
  intro k hk
  unfold wrO
  rw [h.apart i hi k hk]
  simp
 ·unfold fltC
  rw [Bool.or_eq_false_iff, Bool.or_eq_false_iff, decide_eq_false_iff_not, decide_eq_false_iff_not, anyN_no]
  refine ⟨⟨by have := h.eight; omega, fun hn => hn h.ce⟩, fun i hi => ?_⟩
  unfold wrC
  rw [(h.chs i hi).1, (h.chs i hi).2]
  rfl
end
section
open Go.RowKit
theorem wrap64_mid {x : Int} (h0 : 0 ≤ x) (h1 : x < 100000) : wrap64 x = x := by
 unfold wrap64; omega
theorem idx_ofC (a : Int) {n : Nat} (hn : 0 < n) (h : n ≤ 100000) : ∃ x : Nat, x < n ∧ wrap64 ((IntKind.u64.wrap a).tmod (n : Int)) = (x : Int) := by
 have hu : 0 ≤ IntKind.u64.wrap a := by rw [IntKind.wrap_u64]; omega
 rw [Int.tmod_eq_emod_of_nonneg hu]
 have h1 := Int.emod_nonneg (IntKind.u64.wrap a) (show (n : Int) ≠ 0 by omega)
 have h2 := Int.emod_lt_of_pos (IntKind.u64.wrap a) (show (0 : Int) < n by omega)
 obtain ⟨x, hx⟩ := Int.eq_ofNat_of_zero_le h1
 rw [hx] at h2 ⊢
 exact ⟨x, by omega, wrap64_mid (by omega) (by omega)⟩
theorem one_box {v : CV} {c : Cf} (w : World) (h : RdCf w w.heap.size v c) : ∃ w1, w.alloc (.cells #[.slice v.aw v.nw v.kw, .slice v.ap v.np v.kp, .slice v.ac v.nc v.kc] 28) = w1 ∧
  Below w.heap.size w w1 ∧ Bx w1 w.heap.size 28 (cfL v) ∧ RdCf w1 w1.heap.size v c := by
 have hb := (Below.refl w.heap.size w).alloc (Nat.le_refl _) (.cells #[.slice v.aw v.nw v.kw, .slice v.ap v.np v.kp, .slice v.ac v.nc v.kc] 28)
 exact ⟨_, rfl, hb, Bx.new w _ (cfL v), h.to hb⟩
theorem two_boxC {v v' : CV} {c c' : Cf} (w : World) (h : RdCf w w.heap.size v c) (h' : RdCf w w.heap.size v' c') : ∃ w2, (w.alloc (.cells #[.slice v.aw v.nw v.kw, .slice v.ap v.np v.kp, .slice v.ac v.nc v.kc] 28)).alloc (.cells #[.slice v'.aw v'.nw v'.kw, .slice v'.ap v'.np v'.kp, .slice v'.ac v'.nc v'.kc] 28) = w2 ∧
  Below w.heap.size w w2 ∧ Bx w2 w.heap.size 28 (cfL v) ∧ Bx w2 (w.heap.size + 1) 28 (cfL v') ∧ RdCf w2 w2.heap.size v c ∧ RdCf w2 w2.heap.size v' c' := by
 have hb := ((Below.refl w.heap.size w).alloc (Nat.le_refl _) (.cells #[.slice v.aw v.nw v.kw, .slice v.ap v.np v.kp, .slice v.ac v.nc v.kc] 28)).alloc (by simp) (.cells #[.slice v'.aw v'.nw v'.kw, .slice v'.ap v'.np v'.kp, .slice v'.ac v'.nc v'.kc] 28)
 refine ⟨_, rfl, hb, ?_, ?_, h.to hb, h'.to hb⟩
 ·exact (Bx.new w 28 (cfL v)).to ((Below.refl _ _).alloc (Nat.le_refl _) _)
 ·have h := Bx.new (w.alloc (.cells #[.slice v.aw v.nw v.kw, .slice v.ap v.np v.kp, .slice v.ac v.nc v.kc] 28)) 28 (cfL v')
  rw [show (w.alloc (.cells #[.slice v.aw v.nw v.kw, .slice v.ap v.np v.kp, .slice v.ac v.nc v.kc] 28)).heap.size = w.heap.size + 1 from by simp] at h
  exact h
theorem bounds_of {w : World} {B : Nat} {v : CV} {c : Cf} (h : RdCf w B v c) (hg : greatC c = false) : v.nw ≤ 1000 ∧ v.np ≤ 1000 ∧ v.nc ≤ 1000 ∧ ∀ p ∈ c.ps, p.img.length ≤ 100000 := by
 obtain ⟨h1, h2, h3, h4⟩ := greatC_no hg
 have e1 := h.ww.1
 have e2 := h.pp.1
 have e3 := h.cc.1
 exact ⟨by omega, by omega, by omega, fun p hp => by have := sumI_mem hp; omega⟩
theorem Rd.strC {w : World} {B n c : Nat} {A : Option Addr} {bs : List UInt8} {s : ByteArray} (h : Rd w B A n bs) (hs : strOfNums (numsOf bs) = s) : (convert 31 9 (.slice A n c)).run Tryz.prog w = .ok (.string s) w := by
 rw [← hs]
 exact h.conv c 31 5 9 Tryz.underlying31 Tryz.underlying5 Tryz.underlying9
theorem str_is (bs : List UInt8) : ∃ s : ByteArray, strOfNums (numsOf bs) = s ∧ s.toList = bs := ⟨_, rfl, by rw [Lib.strOfNums_toList, bytesOf_numsOf]⟩
end
section
open Go.RowKit
theorem rMayR (b s : Int) (w : World) :
  Calls Tryz.prog 174 #[.agg #[.int .i64 b, .int .i64 s]] w fun e w' => e = .returned (.bool (mayR (b, s))) ∧ Below w.heap.size w w' := by
 go_enter Tryz.func174, Tryz.ntmps174
 go_wp2
 all_goals (go_ret; refine ⟨ret_bool ?_, (Below.refl _ _).alloc (Nat.le_refl _) _⟩; rw [Bool.eq_iff_iff, mayR_iff]; simp only [bne_iff_ne, ne_eq, bne_eq_false_iff_eq, beq_iff_eq, decide_eq_true_eq, tmod4, Bool.false_eq_true, false_iff] at *; omega)
theorem rHas (b s t : Int) (w : World) (ht : (Lit.int .i64 t).wf = true) :
  Calls Tryz.prog 200 #[.agg #[.int .i64 b, .int .i64 s], .int .i64 t] w fun e w' => e = .returned (.bool (hasR (b, s) t)) ∧ Below w.heap.size w w' := by
 have BX := qH (Box.new w b s)
 have B := qH ((Below.refl w.heap.size w).alloc (Nat.le_refl _) (.cells #[.int .i64 b, .int .i64 s] 56))
 have HT := qH (wf_i64 ht)
 clear ht
 go_enter Tryz.func200, Tryz.ntmps200
 go_wp2_with fail
 refine (rMayR b s _).mono ?_
 rintro e w1 ⟨rfl, hb⟩
 replace BX := qH (BX.out.to hb)
 replace B := qH (B.out.trans (hb.mono B.out.size))
 clear hb
 obtain ⟨c0, c1, _⟩ := BX.out
 cases hm : mayR (b, s)
 ·have HE : Hid (hasR (b, s) t = false) := by show _ = _; unfold hasR; rw [hm]; rfl
  clear hm
  go_wp2_with fail
  go_ret
  exact ⟨by rw [HE.out]; rfl, B.out⟩
 ·have HM := qH hm
  have hm1 := mayR_iff.1 hm
  dsimp only at hm1
  clear hm
  by_cases hge : b ≤ t
  ·have hgI : t ≥ b := hge
   have hw : IntKind.i64.wrap (t - b) = t - b := by
    have := HT.out
    rw [IntKind.wrap_i64]; omega
   have HG := qH hge
   clear hge hm1
   go_wp2_with fail
   all_goals (go_ret; refine ⟨ret_bool ?_, B.out⟩; unfold hasR; rw [HM.out, decide_eq_true HG.out])
   all_goals (rw [Bool.eq_iff_iff]; simp only [Bool.true_and, decide_eq_true_eq, Bool.false_eq_true, false_iff, true_iff]; omega)
  ·have hgI : ¬ t ≥ b := hge
   have HF : Hid (hasR (b, s) t = false) := by show _ = _; unfold hasR; rw [decide_eq_false hge]; simp
   clear hge hm1
   go_wp2_with fail
   go_ret
   exact ⟨by rw [HF.out]; rfl, B.out⟩
theorem apart_of_steps {b s c r : Int} (h1 : mayR (b, s) = true) (h2 : mayR (c, r) = true) (h : ∀ k : Nat, 4 * (k : Int) < s → hasR (c, r) (b + 4 * (k : Int)) = false) : apartR (b, s) (c, r) = true := by
 refine apartR_iff.2 ⟨h1, h2, ?_⟩
 have m1 := mayR_iff.1 h1
 have m2 := mayR_iff.1 h2
 dsimp only at m1 m2 ⊢
 have no : ∀ x : Int, b ≤ x → x < b + s → x % 4 = 0 → ¬ (c ≤ x ∧ x < c + r) := fun x ha hb hc hd => by
  have := h ((x - b) / 4).toNat (by omega)
  rw [show b + 4 * (((x - b) / 4).toNat : Int) = x from by omega, hasR_iff.2 ⟨h2, hd⟩] at this
  cases this
 rcases Int.le_total b c with g | g
 ·have := no c
  omega
 ·have := no b
  omega
theorem not_apart_of {b s c r : Int} {k : Nat} (hk : 4 * (k : Int) < s) (h : hasR (c, r) (b + 4 * (k : Int)) = true) : apartR (b, s) (c, r) = false := by
 rw [Bool.eq_false_iff]
 intro ha
 obtain ⟨_, _, h3⟩ := apartR_iff.1 ha
 obtain ⟨_, h4⟩ := hasR_iff.1 h
 dsimp only at h3 h4
 omega
def StepR (g b s c r : Int) (gg : Nat) (wb : World) (i : Value) (wr : World) : Prop :=
 ∃ k : Nat, i = .int .i64 (b + 4 * (k : Int)) ∧ 4 * (k : Int) ≤ s ∧ Below wb.heap.size wb wr ∧ ∀ j : Nat, j < k → hasR (c, r) (b + 4 * (j : Int)) = false
theorem rApart (b s c r : Int) (w : World) :
  Calls Tryz.prog 175 #[.agg #[.int .i64 b, .int .i64 s], .agg #[.int .i64 c, .int .i64 r]] w fun e w' => e = .returned (.bool (apartR (b, s) (c, r))) ∧ Below w.heap.size w w' := by
 have BX := qH ((Box.new w b s).to ((Below.refl _ _).alloc (Nat.le_refl _) (.cells #[.int .i64 c, .int .i64 r] 56)))
 have BY := qH (Box.new (w.alloc (.cells #[.int .i64 b, .int .i64 s] 56)) c r)
 have B := qH (((Below.refl w.heap.size w).alloc (Nat.le_refl _) (.cells #[.int .i64 b, .int .i64 s] 56)).alloc (by simp) (.cells #[.int .i64 c, .int .i64 r] 56))
 rw [World.size_alloc] at BY
 go_enter Tryz.func175, Tryz.ntmps175
 go_wp2_with fail
 generalize (w.alloc (.cells #[.int .i64 b, .int .i64 s] 56)).alloc (.cells #[.int .i64 c, .int .i64 r] 56) = wb at *
 refine (rMayR b s wb).mono ?_
 rintro e w1 ⟨rfl, hb⟩
 replace BX := qH (BX.out.to hb)
 replace BY := qH (BY.out.to hb)
 replace B := qH (B.out.trans (hb.mono B.out.size))
 clear hb
 obtain ⟨x0, x1, _⟩ := BX.out
 obtain ⟨y0, y1, _⟩ := BY.out
 cases h1 : mayR (b, s)
 ·have HF : Hid (apartR (b, s) (c, r) = false) := by show _ = _; unfold apartR; rw [h1]; rfl
  clear h1
  go_wp2_with fail
  go_ret
  exact ⟨by rw [HF.out]; rfl, B.out⟩
 have H1 := qH h1
 clear h1
 go_wp2_with fail
 refine (rMayR c r w1).mono ?_
 clear x0 x1 y0 y1
 rintro e w2 ⟨rfl, hb⟩
 replace BX := qH (BX.out.to hb)
 replace BY := qH (BY.out.to hb)
 replace B := qH (B.out.trans (hb.mono B.out.size))
 clear hb
 obtain ⟨x0, x1, _⟩ := BX.out
 obtain ⟨y0, y1, _⟩ := BY.out
 cases h2 : mayR (c, r)
 ·have HF : Hid (apartR (b, s) (c, r) = false) := by show _ = _; unfold apartR; rw [h2]; simp
  clear h2
  go_wp2_with fail
  go_ret
  exact ⟨by rw [HF.out]; rfl, B.out⟩
 have H2 := qH h2
 have HM := qH (mayR_iff.1 H1.out)
 clear h2
 go_wp2_with fail
 clear x0 x1 y0 y1
 go_loopw [5] (fun i wr => StepR b b s c r 0 w2 i wr) (fun i _ => (b + s - intOf i).toNat)
 case atStart => exact ⟨0, by simp, by have := HM.out; (try dsimp only at this); omega, Below.refl _ _, fun j hj => absurd hj (Nat.not_lt_zero _)⟩
 case round =>
  obtain ⟨k, rfl, hk, hb, hno⟩ := hrel
  have hm := HM.out
  (try dsimp only at hm)
  obtain ⟨x0, x1, _⟩ := BX.out.to hb
  obtain ⟨y0, y1, _⟩ := BY.out.to hb
  have BB := qH hb
  have HNO := qH hno
  clear hb hno
  have hw : IntKind.i64.wrap (b + s) = b + s := by rw [IntKind.wrap_i64]; omega
  have hw4 : IntKind.i64.wrap (b + 4 * (k : Int) + 4) = b + 4 * (k : Int) + 4 := by rw [IntKind.wrap_i64]; omega
  have HWF : Hid ((Lit.int .i64 (b + 4 * (k : Int))).wf = true) := by
   show _ = _
   have e1 : IntKind.i64.min = -9223372036854775808 := rfl
   have e2 : IntKind.i64.max = 9223372036854775807 := rfl
   simp only [Lit.wf, Bool.and_eq_true, decide_eq_true_eq, e1, e2]; omega
  by_cases hlt : 4 * (k : Int) < s
  ·have hltI : b + 4 * (k : Int) < b + s := by omega
   have HLT := qH hlt
   have HM2 := qH hm
   clear hm hk hlt
   go_wp2_with fail
   refine (rHas c r (b + 4 * (k : Int)) wr HWF.out).mono ?_
   rintro e w3 ⟨rfl, hb⟩
   clear x0 x1 y0 y1
   replace BB := qH (BB.out.trans (hb.mono BB.out.size))
   clear hb
   cases hq : hasR (c, r) (b + 4 * (k : Int))
   ·have HQ := qH hq
    clear hq
    go_wp2_with fail
    go_roundw
    case rel =>
     refine ⟨k + 1, by congr 1; push_cast; omega, by have := HLT.out; have := HM2.out; push_cast; omega, BB.out, fun j hj => ?_⟩
     rcases Nat.lt_or_ge j k with g | g
     ·exact HNO.out j g
     ·obtain rfl : j = k := by omega
      exact HQ.out
    case measure => have := HLT.out; simp [intOf]; omega
   ·have HF := qH (not_apart_of HLT.out hq)
    clear hq
    go_wp2_with fail
    go_ret
    exact ⟨by rw [HF.out]; rfl, B.out.trans (BB.out.mono B.out.size)⟩
  ·have hltI : ¬ b + 4 * (k : Int) < b + s := by omega
   have HF : Hid (apartR (b, s) (c, r) = true) := apart_of_steps H1.out H2.out fun j hj => HNO.out j (by omega)
   clear hm hk hlt
   go_wp2_with fail
   go_ret
   exact ⟨by rw [HF.out]; rfl, B.out.trans (BB.out.mono B.out.size)⟩
end
section
open Go.RowKit
theorem vtI : VT Tryz.prog 145 3 1 8 (.int .i64 0) := ⟨Tryz.underlying145, by kernel_rfl, rfl, by decide⟩
theorem one_int (x : Int) : ∀ u ∈ [Value.int .i64 x], u.oneCell' = true := by
 intro u hu
 rw [List.mem_singleton] at hu
 subst hu
 rfl
theorem more_no (e : Int) : more false e = [] := rfl
theorem more_yes (e : Int) : more true e = [e] := rfl
theorem any_step {b0 b b' : Bool} {f : Nat → Bool} {k : Nat} (h : b = (b0 || anyN f k)) (h' : b' = (b || f k)) : b' = (b0 || anyN f (k + 1)) := by
 rw [anyN, ← Bool.or_assoc, ← h]; exact h'
structure VSt (w1 wx : World) (s : Value) (l : List Int) : Prop where
 row : wx.ownsRow w1.heap.size 3 1 s l.length (l.map iv)
 bel : Below w1.heap.size w1 wx
theorem VSt.step {w1 wx w' : World} {s : Value} {l : List Int} (h : VSt w1 wx s l) (hb : Below wx.heap.size wx w') : VSt w1 w' s l := ⟨own_bv h.row hb, h.bel.trans (hb.mono h.bel.size)⟩
theorem VSt.drew {w1 wx : World} {s : Value} {l : List Int} (h : VSt w1 wx s l) : VSt w1 wx.drew s l := h.step (Below.refl _ _).drew
theorem rHasP (v : CV) (c : Cf) (id : Int) (w : World) (h : RdCf w w.heap.size v c) (hp : v.np ≤ 1000) :
  Calls Tryz.prog 173 #[.agg #[.slice v.aw v.nw v.kw, .slice v.ap v.np v.kp, .slice v.ac v.nc v.kc], .int .i64 id] w fun x w' => x = .returned (.bool (hasP c id)) ∧ Below w.heap.size w w' := by
 have hb1 := (Below.refl w.heap.size w).alloc (Nat.le_refl _) (.cells #[.slice v.aw v.nw v.kw, .slice v.ap v.np v.kp, .slice v.ac v.nc v.kc] 28)
 have hx : Bx (w.alloc (.cells #[.slice v.aw v.nw v.kw, .slice v.ap v.np v.kp, .slice v.ac v.nc v.kc] 28)) w.heap.size 28 (cfL v) := Bx.new w _ (cfL v)
 have R := qH (h.to hb1)
 have B := qH hb1
 have X := qH hx
 have HP := qH hp
 clear h hp hb1 hx
 go_enter Tryz.func173, Tryz.ntmps173
 go_upto_region 1 with (fail)
 generalize w.alloc (.cells #[.slice v.aw v.nw v.kw, .slice v.ap v.np v.kp, .slice v.ac v.nc v.kc] 28) = w1 at *
 have p1 := X.out.at (j := 0) rfl
 have p2 := X.out.at (j := 1) rfl
 have p3 := X.out.at (j := 2) rfl
 go_wp2_with fail
 refine (rPartOf v c id w1 R.out HP.out).mono ?_
 rintro e w2 ⟨rfl, hb⟩
 replace B := qH (B.out.trans (hb.mono B.out.size))
 obtain ⟨z, hz⟩ : ∃ z, findP c.ps id = z := ⟨_, rfl⟩
 have HF : Hid (decide (0 ≤ z) = hasP c id) := by (show _ = _); unfold hasP; rw [hz]
 rw [hz]
 clear hz hb p1 p2 p3
 go_wp2_with fail
 go_ret
 exact ⟨ret_bool HF.out, B.out⟩
end
section
open Go.RowKit
theorem cpb_ne {w : World} {T z g : Nat} {U V : TypeId} {v : Value} {n : Nat} {xs cs : List Value} (h : w.ownsRow T U z v n xs) (hb : Bx w g V cs) (hU : U ≠ V) : ¬ v.ownBlock = some g := fun e => by
 rcases h.2 with ⟨rfl, _⟩ | ⟨g', cap, cur, rfl, _, hh, _⟩
 ·cases e
 simp only [Value.ownBlock, Option.some.injEq] at e
 subst e
 have hb' : w.heap[g']? = _ := hb
 rw [hh] at hb'
 injection hb' with hb'
 injection hb' with _ hb'
 exact hU hb'
structure CSt (w2 wx wr : World) (g3 : Nat) (vw vp vc : Value) (qs : List QP) : Prop where
 box : Bx wr g3 28 [vw, vp, vc]
 op : OwnP wr wx.heap.size vp qs
 kp : Keep (fun k => k = g3 ∨ wx.heap.size ≤ k) wx wr
 bel : Below w2.heap.size w2 wr
 gx : g3 < wx.heap.size
 g2 : w2.heap.size ≤ g3
theorem CSt.step {w2 wx wr w' : World} {g3 : Nat} {vw vp vc : Value} {qs : List QP} (h : CSt w2 wx wr g3 vw vp vc qs) (hb : Below wr.heap.size wr w') : CSt w2 wx w' g3 vw vp vc qs :=
 ⟨h.box.to hb, h.op.to (R := fun _ => False) (Keep.of_below hb) (fun _ hh => hh.elim), h.kp.trans (Keep.of_below hb), h.bel.trans (hb.mono h.bel.size), h.gx, h.g2⟩
theorem CSt.push {w2 wx wr w' : World} {g3 : Nat} {vw vp vc vp' : Value} {qs : List QP} {q : QP} (h : CSt w2 wx wr g3 vw vp vc qs) (hq : Img wr wx.heap.size q) (hqo : ∀ b, vp.ownBlock = some b → Off q.A q.m (· = b)) (hown : w'.ownsRow wx.heap.size 58 5 vp' (qs.length + 1) (partsV qs ++ q.cells))
  (hk : Keep (fun k => vp.ownBlock = some k) wr w') (hv : ∀ b, vp'.ownBlock = some b → vp.ownBlock = some b ∨ wr.heap.size ≤ b) : CSt w2 wx (w'.setCell ⟨g3, 1, none⟩ vp') g3 vw vp' vc (qs ++ [q]) := by
 have hT : ∀ k, vp.ownBlock = some k → wx.heap.size ≤ k := fun k hk => (h.op.row.lt k hk).1
 have hgx := h.gx
 have hs : Keep (· = g3) w' (w'.setCell ⟨g3, 1, none⟩ vp') := (Keep.refl _ _).setCell _ _ rfl
 have hk2 : Keep (fun k => k = g3 ∨ wx.heap.size ≤ k) wr (w'.setCell ⟨g3, 1, none⟩ vp') := (hk.more fun k hk => .inr (hT k hk)).setCell _ _ (.inl rfl)
 refine ⟨(h.box.kept hk (fun hh => by have := hT _ hh; omega)).set 1 vp', (h.op.push hq hqo hown hk hv).to hs (fun k hk => .inl (by have : k = g3 := hk; omega)), h.kp.trans hk2, hk2.below h.bel h.bel.size (fun k hh => ?_), h.gx, h.g2⟩
 have := h.g2
 rcases hh with hh | hh <;> omega
theorem RdG.newsTo {w w' : World} {n : Nat} {A : Option Addr} {l : List Reg} (h : RdG w w.heap.size A n l) (hb : Below w.heap.size w w') : (winsV l).length = n * 2 ∧ (0 < n → ∃ ad, A = some ad ∧ ∀ j u, (winsV l)[j]? = some u → w'.cell? (ad.add j) = some u) := (h.to hb).news
theorem RdC.newsTo {w w' : World} {n : Nat} {A : Option Addr} {l : List Ch} (h : RdC w w.heap.size A n l) (hb : Below w.heap.size w w') : (chsV l).length = n * 5 ∧ (0 < n → ∃ ad, A = some ad ∧ ∀ j u, (chsV l)[j]? = some u → w'.cell? (ad.add j) = some u) := (h.to hb).news
theorem lCopiedX (v : CV) (c : Cf) (w : World) (h : RdCf w w.heap.size v c) (hw : v.nw ≤ 1000) (hp : v.np ≤ 1000) (hc : v.nc ≤ 1000) (hi : ∀ p ∈ c.ps, p.img.length ≤ 100000) :
  Calls Tryz.prog 26 #[.agg #[.slice v.aw v.nw v.kw, .slice v.ap v.np v.kp, .slice v.ac v.nc v.kc]] w fun x w' => ∃ (v' : CV) (qs : List QP), x = .returned v'.val ∧ OwX w' w.heap.size v' c qs ∧ Below w.heap.size w w' := by
 obtain ⟨w2, hw2, hb2, hx, hz, hs2⟩ := two_boxes v w
 have R := qH (h.to hb2)
 have X := qH hx
 have Z := qH hz
 have BW := qH hb2
 have S2 := qH hs2
 have HW2 := qH hw2
 have HNW := qH hw
 have HNP := qH hp
 have HNC := qH hc
 have HIM := qH hi
 clear hi h hw hp hc hw2 hb2 hx hz hs2
 go_enter Tryz.func26, Tryz.ntmps26
 go_upto_region 1 with (fail)
 rw [show (w.alloc (.cells #[.slice v.aw v.nw v.kw, .slice v.ap v.np v.kp, .slice v.ac v.nc v.kc] 28)).alloc (.cells #[.slice none 0 0, .slice none 0 0, .slice none 0 0] 28) = w2 from HW2.out]
 clear HW2
 rename_i K9 hK9
 have REST : Hid (∀ (g3 g0 g4 T c3 c7 : Nat) (A3 A7 : Option Addr) (wx : World), w2.heap.size ≤ T → T ≤ g3 → Bx wx g3 28 [.slice A3 v.nw c3, .slice none 0 0, .slice A7 v.nc c7] → wx.ownsRow T 82 2 (.slice A3 v.nw c3) v.nw (winsV c.ws) → wx.ownsRow T 130 5 (.slice A7 v.nc c7) v.nc (chsV c.cs) → Below w2.heap.size w2 wx →
   K9 { tmps := #[.agg #[.slice v.aw v.nw v.kw, .slice v.ap v.np v.kp, .slice v.ac v.nc v.kc], .pointer (some ⟨w.heap.size, 0, none⟩), .pointer (some ⟨w.heap.size + 1, 0, none⟩), .pointer (some ⟨g3, 0, none⟩), undef, undef, .slice (some ⟨g0, 0, none⟩) 0 0, .pointer (some ⟨w.heap.size, 0, none⟩), .slice v.aw v.nw v.kw, .slice A3 v.nw c3, .slice (some ⟨g4, 0, none⟩) 0 0, .pointer (some ⟨w.heap.size, 2, none⟩), .slice v.ac v.nc v.kc, .slice A7 v.nc c7, .agg #[.slice A3 v.nw c3, .slice none 0 0, .slice A7 v.nc c7], undef, undef, undef, undef, undef, undef, undef, undef, undef, undef, undef, undef, undef, undef, undef, undef, undef, undef, undef, undef, undef, undef, undef, undef], defers := [] } wx) := by
  intro g3 g0 g4 T c3 c7 A3 A7 wx hT hg3 hbx hO3 hO7 hbel
  have H0 : Hid (CSt w2 wx wx g3 (.slice A3 v.nw c3) (.slice none 0 0) (.slice A7 v.nc c7) []) := ⟨hbx, OwnP.nil _ _, Keep.refl _ _, hbel, hbx.lt, Nat.le_trans hT hg3⟩
  have O3 := qH hO3
  have O7 := qH hO7
  have HT := qH hT
  have NB3 := qH (cpb_ne hO3 hbx (by decide))
  have NB7 := qH (cpb_ne hO7 hbx (by decide))
  clear hT hg3 hbx hO3 hO7 hbel
  apply hK9
  clear hK9
  go_wp2_with fail
  go_loopw [4, 5] (fun s4 s5 wr => ∃ k : Nat, k ≤ v.np ∧ s4 = .int .i64 (k : Int) ∧ ∃ vp qs, CSt w2 wx wr g3 (.slice A3 v.nw c3) vp (.slice A7 v.nc c7) qs ∧ qs.map QP.p = c.ps.take k) (fun s4 _ _ => v.np - (intOf s4).toNat)
  case atStart => exact ⟨0, Nat.zero_le _, rfl, _, [], H0.out, rfl⟩
  case round =>
   clear H0
   obtain ⟨k, hk, rfl, vp, qs, hc, hq⟩ := hrel
   obtain ⟨Ap, cp, rfl⟩ := own_slV hc.op.row
   have H := qH hc
   have HQ := qH hq
   have HK := qH hk
   have x1 := (X.out.to H.out.bel).at (j := 1) rfl
   clear hc hq hk
   by_cases hlt : k < v.np
   ·have hltI : (k : Int) < (v.np : Int) := by omega
    have HLT : Hid (k < v.np) := hlt
    have hwk : IntKind.i64.wrap ((k : Int) + 1) = (k : Int) + 1 := by have := HNP.out; rw [IntKind.wrap_i64]; omega
    obtain ⟨bb, o, A', m, c', hA, y0, y1, y2, y3, y4, hrd, hmc, hcc, hm7⟩ := (R.out.pp.to H.out.bel).at_ hlt
    rw [hA] at x1
    have HM7 : Hid (m ≤ 100000) := by (show _ ≤ _); rw [← hrd.1, ptAt_lt (by rw [R.out.pp.1]; exact hlt)]; exact HIM.out _ (List.getElem_mem _)
    have HPT : Hid (c.ps.take (k + 1) = c.ps.take k ++ [ptAt c.ps k]) := by
     (show _ = _)
     have hl : k < c.ps.length := by rw [R.out.pp.1]; exact hlt
     rw [List.take_succ_eq_append_getElem hl, ptAt_lt hl]
    generalize hp : ptAt c.ps k = p at *
    replace hp := qH hp
    obtain ⟨id, base, size, keep, img⟩ := p
    dsimp only at y0 y1 y2 y3 hrd
    have BC1 := (Below.refl wr.heap.size wr).alloc (Nat.le_refl _) (.cells #[.int .i64 id, .int .i64 base, .int .i64 size, .bool keep, .slice A' m c'] 58)
    have X1 : Hid (Bx (wr.alloc (.cells #[.int .i64 id, .int .i64 base, .int .i64 size, .bool keep, .slice A' m c'] 58)) wr.heap.size 58 [.int .i64 id, .int .i64 base, .int .i64 size, .bool keep, .slice A' m c']) := Bx.new wr _ [.int .i64 id, .int .i64 base, .int .i64 size, .bool keep, .slice A' m c']
    have R1 := qH (hrd.to BC1)
    have HP : Hid ((⟨id, base, size, keep, img⟩ : Pt) = ⟨id, base, size, keep, img⟩) := rfl
    replace BC1 := qH BC1
    clear hrd hmc hcc hm7 hlt hA
    go_upto_region 6 with (fail)
    generalize wr.alloc (.cells #[.int .i64 id, .int .i64 base, .int .i64 size, .bool keep, .slice A' m c'] 58) = wa at *
    clear x1 y0 y1 y2 y3 y4
    have hbx := Bx.new wa 5 []
    have O1 := qH (own_nilV (B := wr.heap.size + 1) (z := 1) hbx (by have := X1.out.lt; omega))
    have hal := (Below.refl wa.heap.size wa).alloc (Nat.le_refl _) (.cells #[] 5)
    have X2 := qH (X1.out.to hal)
    have BC2 := qH (BC1.out.trans (hal.mono BC1.out.size))
    have NW := qH (R1.out.to hal).news
    have p4 := X2.out.at (j := 4) rfl
    have p4a := X1.out.at (j := 4) rfl
    clear hbx hal X1 BC1
    go_upto_region 7 with (at_builtin; refine wpList_pushV vtB rfl _ _ rfl rfl rfl O1.out NW.out.1 NW.out.2 (bytes_one _) (by have := X2.out.lt; omega) (by have := HM7.out; omega) ?_; intro v10 w10 hown10 hk10 hv10; rw [Nat.zero_add, List.nil_append] at hown10; obtain ⟨A10, c10, rfl⟩ := own_slV hown10; have xb10 := X2.out.kept hk10 (fun hh => by have := (O1.out.lt _ hh).1; omega); have z10 := xb10.at (j := 4) rfl; have f10 := xb10.fz 4)
    have BC3 := hk10.below BC2.out BC2.out.size (fun k hk => by have := (O1.out.lt _ hk).1; omega)
    have BC4 := qH (BC3.setCell (p := ⟨wr.heap.size, 4, none⟩) (Nat.le_refl _) (.slice A10 m c10))
    have X4 := qH (xb10.set 4 (.slice A10 m c10))
    have O4 := qH (own_tv hown10 ((Keep.refl (· = wr.heap.size) _).setCell ⟨wr.heap.size, 4, none⟩ (.slice A10 m c10) rfl) (fun k hk => .inl (by have : k = wr.heap.size := hk; omega)))
    clear hown10 hk10 hv10 xb10 z10 f10 BC3 BC2 X2 O1 NW R1 p4 p4a
    generalize w10.setCell ⟨wr.heap.size, 4, none⟩ (.slice A10 m c10) = w11 at *
    have H4 := qH (H.out.step BC4.out)
    have HI : Hid (Img w11 wx.heap.size ⟨⟨id, base, size, keep, img⟩, A10, m, c10⟩) := by
     have hc := own_capV O4.out
     exact ⟨(OwR.of_own O4.out).mono (by have := H.out.kp.size; omega), hc.2.1, hc.2.2, Nat.le_trans HM7.out (by decide)⟩
    have HIO : Hid (∀ b, (Value.slice Ap qs.length cp).ownBlock = some b → Off A10 m (· = b)) := fun b hb => (OwR.of_own O4.out).off (fun k hk => by have := (H.out.op.row.lt b hb).2; have : k = b := hk; omega)
    have q0 := X4.out.at (j := 0) rfl
    have q1 := X4.out.at (j := 1) rfl
    have q2 := X4.out.at (j := 2) rfl
    have q3 := X4.out.at (j := 3) rfl
    have q4 := X4.out.at (j := 4) rfl
    have b1 := H4.out.box.at (j := 1) rfl
    have hal := (Below.refl w11.heap.size w11).alloc (Nat.le_refl _) (.cells #[.int .i64 id, .int .i64 base, .int .i64 size, .bool keep, .slice A10 m c10] 58)
    have H5 := qH (H4.out.step hal)
    have HI2 := qH (HI.out.kept (R := fun _ => False) (Keep.of_below hal) (fun _ _ _ _ hh => hh))
    have HNW2 := qH (cells_newV w11 58 (QP.cells ⟨⟨id, base, size, keep, img⟩, A10, m, c10⟩))
    have HQL : Hid (qs.length ≤ 1000) := by (show _ ≤ _); have e := congrArg List.length HQ.out; rw [List.length_map, List.length_take] at e; have := HLT.out; have := HNP.out; omega
    clear hal BC4 X4 O4 HI H4
    go_wp2_with (at_builtin; refine wpList_pushV vtP rfl _ _ rfl rfl rfl H5.out.op.row (m := 1) (news := QP.cells ⟨⟨id, base, size, keep, img⟩, A10, m, c10⟩) rfl (fun _ => ⟨_, rfl, HNW2.out⟩) (by have := partsV_one [⟨⟨id, base, size, keep, img⟩, A10, m, c10⟩]; simpa [partsV] using this) H5.out.kp.size (by have := HQL.out; omega) ?_; intro v12 w12 hown12 hk12 hv12; obtain ⟨A12, c12, rfl⟩ := own_slV hown12; have xb12 := H5.out.box.kept hk12 (fun hh => by have := (H5.out.op.row.lt _ hh).1; have := H5.out.gx; omega); have z12 := xb12.at (j := 1) rfl; have f12 := xb12.fz 1)
    have H12 := qH (H5.out.push HI2.out HIO.out hown12 hk12 hv12)
    go_roundw
    case rel => exact ⟨k + 1, HLT.out, by go_num, _, _, H12.out, by rw [List.map_append, HQ.out, HPT.out]; rfl⟩
    case measure => simp [intOf]; omega
   ·obtain rfl : k = v.np := by have := HK.out; omega
    clear hlt
    have Z1 := Z.out.to H.out.bel
    have b0 := H.out.box.at (j := 0) rfl
    have b1 := H.out.box.at (j := 1) rfl
    have b2 := H.out.box.at (j := 2) rfl
    have z0 := Z1.at (j := 0) rfl
    have z1 := Z1.at (j := 1) rfl
    have z2 := Z1.at (j := 2) rfl
    have f0 := Z1.fz 0
    have f1 := Z1.fz 1
    have f2 := Z1.fz 2
    have HZ1 := qH Z1
    clear Z1
    go_wp2_with fail
    have P9 := HZ1.out.sets [.slice A3 v.nw c3, .slice Ap qs.length cp, .slice A7 v.nc c7] rfl
    have B9 := below_sets (Nat.le_succ w.heap.size) [.slice A3 v.nw c3, .slice Ap qs.length cp, .slice A7 v.nc c7] 0 (BW.out.trans (H.out.bel.mono BW.out.size))
    have hK := Keep.sets (R := (· = w.heap.size + 1)) rfl [.slice A3 v.nw c3, .slice Ap qs.length cp, .slice A7 v.nc c7] 0 (Keep.refl _ wr)
    have hql : qs.length = v.np := by
     have e := congrArg List.length HQ.out
     rw [List.length_map, List.length_take, R.out.pp.1] at e
     omega
    have hs2 := S2.out
    have hgx := H.out.gx
    have hg2 := H.out.g2
    have OC : OwX (setsC wr (w.heap.size + 1) 0 [.slice A3 v.nw c3, .slice Ap qs.length cp, .slice A7 v.nc c7]) w2.heap.size ⟨A3, v.nw, c3, Ap, qs.length, cp, A7, v.nc, c7⟩ c qs := by
     have hR : ∀ k, (· = w.heap.size + 1) k → k < w2.heap.size ∨ wr.heap.size ≤ k := fun k hk => .inl (by (show k < _); have : k = w.heap.size + 1 := hk; omega)
     have o3 := own_kv O3.out H.out.kp (fun b hb hh => by
      rcases hh with rfl | hh
      ·exact NB3.out hb
      ·have := (O3.out.lt b hb).2; omega)
     have o7 := own_kv O7.out H.out.kp (fun b hb hh => by
      rcases hh with rfl | hh
      ·exact NB7.out hb
      ·have := (O7.out.lt b hb).2; omega)
     have op := H.out.op.to hK (fun k hk => .inl (by have : k = w.heap.size + 1 := hk; omega))
     refine ⟨own_tv (own_moV o3 HT.out) hK hR, ⟨own_moV op.row (by omega), fun q hq => ⟨(op.img q hq).own.mono (by omega), (op.img q hq).mc, (op.img q hq).cc⟩, op.off⟩, ?_, own_tv (own_moV o7 HT.out) hK hR, fun q hq b hb => (op.img q hq).own.off (fun k hk => by have : k = b := hk; have := (O3.out.lt b hb).2; omega), fun q hq b hb => (op.img q hq).own.off (fun k hk => by have : k = b := hk; have := (O7.out.lt b hb).2; omega)⟩
     rw [HQ.out, List.take_of_length_le (Nat.le_of_eq R.out.pp.1)]
    have OC2 := OC.mono (show w.heap.size ≤ w2.heap.size by omega)
    change bodyPost _ _ _ _ _ (setsC wr (w.heap.size + 1) 0 [.slice A3 v.nw c3, .slice Ap qs.length cp, .slice A7 v.nc c7])
    clear hK OC
    generalize setsC wr (w.heap.size + 1) 0 [.slice A3 v.nw c3, .slice Ap qs.length cp, .slice A7 v.nc c7] = w9 at *
    exact bodyPost_ret (res_cf1 rfl _ _ (w.heap.size + 1) _ _ _ rfl P9) rfl ⟨⟨A3, v.nw, c3, Ap, qs.length, cp, A7, v.nc, c7⟩, qs, rfl, OC2, B9⟩
 obtain ⟨wd, hwd⟩ : ∃ wd, w2.drew = wd := ⟨_, rfl⟩
 have SK : Hid (∀ w', Below wd.heap.size wd w' → w'.cell? ⟨w.heap.size, 0, none⟩ = some (.slice v.aw v.nw v.kw) ∧ w'.cell? ⟨w.heap.size, 2, none⟩ = some (.slice v.ac v.nc v.kc)) := fun W hW => by
  have hx : Bx wd w.heap.size 28 (cfL v) := by rw [← hwd]; exact X.out
  exact ⟨(hx.to hW).at (j := 0) rfl, (hx.to hW).at (j := 2) rfl⟩
 have RW : Hid (RdG wd wd.heap.size v.aw v.nw c.ws) := by (show RdG _ _ _ _ _); rw [← hwd]; exact R.out.ww
 have RC : Hid (RdC wd wd.heap.size v.ac v.nc c.cs) := by (show RdC _ _ _ _ _); rw [← hwd]; exact R.out.cc
 have B2 : Hid (Below w2.heap.size w2 wd) := by (show Below _ _ _); rw [← hwd]; exact (Below.refl _ w2).drew
 have BB : Hid (Below wd.heap.size wd wd) := Below.refl _ _
 obtain ⟨T, hT⟩ : ∃ T, wd.heap.size = T := ⟨_, rfl⟩
 have HT := qH hT
 clear hT
 refine wp_region_held_drew (S := (fun w' => w'.cell? ⟨w.heap.size, 0, none⟩ = some (.slice v.aw v.nw v.kw) ∧ w'.cell? ⟨w.heap.size, 2, none⟩ = some (.slice v.ac v.nc v.kc))) (by kernel_rfl) ((by rw [hwd]; exact SK.out _ (Below.refl _ _))) (fun hHeld => ?_)
 rw [hwd] at hHeld ⊢
 clear hwd
 refine tk 1 ?_
 simp only [pR]
 refine tk 2 ?_
 simp only [pR]
 refine tk 5 ?_
 simp only [pR]
 refine tk 6 ?_
 simp only [pR]
 refine wpAnyH_ready (rs := [0, 4, 9]) (by kernel_rfl) (by simp) ?_
 refine AllReadyH.cons rfl (fun K hK => ?_) (AllReadyH.cons rfl (fun K hK => ?_) (AllReadyH.cons rfl (fun K hK => ?_) AllReadyH.nil))
 ·skip
  go_simp
  refine hK.out _ _ (SK.out _ (BB.out.alloc BB.out.size (.cells #[] 82))) (fun hHeld => ?_)
  clear hK K
  have hal := (Below.refl wd.heap.size wd).alloc (Nat.le_refl _) (.cells #[] 82)
  have O0 := qH (own_nilV (B := T) (z := 2) (Bx.new wd 82 []) (Nat.le_trans (Nat.le_of_eq HT.out.symm) BB.out.size))
  replace BB := qH (BB.out.trans (hal.mono BB.out.size))
  clear hal
  obtain ⟨g0, hg0⟩ : ∃ g, wd.heap.size = g := ⟨_, rfl⟩
  rw [hg0] at O0 ⊢
  clear hg0
  have e9 : ([] : List Value).toArray = #[] := rfl
  rw [e9] at *
  clear e9
  generalize wd.alloc (.cells #[] 82) = wn1 at *
  refine wpAnyH_ready (rs := [3, 4, 9]) (by kernel_rfl) (by simp) ?_
  refine AllReadyH.cons rfl (fun K hK => ?_) (AllReadyH.cons rfl (fun K hK => ?_) (AllReadyH.cons rfl (fun K hK => ?_) AllReadyH.nil))
  ·have NW := qH (RW.out.newsTo BB.out)
   refine (step_pushV vtW rfl _ _ rfl rfl rfl O0.out NW.out.1 NW.out.2 (winsV_one _) (Nat.le_trans (Nat.le_of_eq HT.out.symm) BB.out.size) (by have := HNW.out; omega) ?_)
   intro v3 wn2 hown hk hv
   rw [Nat.zero_add, List.nil_append] at hown
   obtain ⟨A3, c3, rfl⟩ := own_slV hown
   have BK := hk.below BB.out BB.out.size (fun k hk => Nat.le_trans (Nat.le_of_eq HT.out) (O0.out.lt k hk).1)
   refine hK.out _ _ (SK.out _ BK) (fun hHeld => ?_)
   clear hK K
   simp only [pR]
   have O3 := qH hown
   replace BB := qH BK
   clear hown hk hv BK NW O0
   refine wpAnyH_ready (rs := [4, 9]) (by kernel_rfl) (by simp) ?_
   refine AllReadyH.cons rfl (fun K hK => ?_) (AllReadyH.cons rfl (fun K hK => ?_) AllReadyH.nil)
   ·skip
    go_simp
    refine hK.out _ _ (SK.out _ (BB.out.alloc BB.out.size (.cells #[] 130))) (fun hHeld => ?_)
    clear hK K
    have hal := (Below.refl wn2.heap.size wn2).alloc (Nat.le_refl _) (.cells #[] 130)
    have O4 := qH (own_nilV (B := T) (z := 5) (Bx.new wn2 130 []) (Nat.le_trans (Nat.le_of_eq HT.out.symm) BB.out.size))
    replace O3 := qH (own_bv O3.out hal)
    replace BB := qH (BB.out.trans (hal.mono BB.out.size))
    clear hal
    obtain ⟨g4, hg4⟩ : ∃ g, wn2.heap.size = g := ⟨_, rfl⟩
    rw [hg4] at O4 ⊢
    clear hg4
    have e9 : ([] : List Value).toArray = #[] := rfl
    rw [e9] at *
    clear e9
    generalize wn2.alloc (.cells #[] 130) = wn3 at *
    refine wpAnyH_ready (rs := [7, 9]) (by kernel_rfl) (by simp) ?_
    refine AllReadyH.cons rfl (fun K hK => ?_) (AllReadyH.cons rfl (fun K hK => ?_) AllReadyH.nil)
    ·have NW := qH (RC.out.newsTo BB.out)
     refine (step_pushV vtC rfl _ _ rfl rfl rfl O4.out NW.out.1 NW.out.2 (chsV_one _) (Nat.le_trans (Nat.le_of_eq HT.out.symm) BB.out.size) (by have := HNC.out; omega) ?_)
     intro v7 wn4 hown hk hv
     rw [Nat.zero_add, List.nil_append] at hown
     obtain ⟨A7, c7, rfl⟩ := own_slV hown
     have BK := hk.below BB.out BB.out.size (fun k hk => Nat.le_trans (Nat.le_of_eq HT.out) (O4.out.lt k hk).1)
     refine hK.out _ _ (SK.out _ BK) (fun hHeld => ?_)
     clear hK K
     simp only [pR]
     have O7 := qH hown
     replace O3 := qH (own_kv O3.out hk (fun b hb hh => own_ne O3.out O4.out (by decide) hb hh))
     replace BB := qH BK
     clear hown hk hv BK NW O4
     refine tk 8 ?_
     simp only [pR]
     refine rd1 9 (fun K hK => ?_)
     go_simp
     refine hK.out _ _ (SK.out _ (BB.out.alloc BB.out.size (.cells #[.slice none 0 0, .slice none 0 0, .slice none 0 0] 28))) (fun hHeld => ?_)
     clear hK K
     have hal := (Below.refl wn4.heap.size wn4).alloc (Nat.le_refl _) (.cells #[.slice none 0 0, .slice none 0 0, .slice none 0 0] 28)
     have Z3 : Hid (Bx (wn4.alloc (.cells #[.slice none 0 0, .slice none 0 0, .slice none 0 0] 28)) wn4.heap.size 28 [.slice none 0 0, .slice none 0 0, .slice none 0 0]) := Bx.new wn4 _ [.slice none 0 0, .slice none 0 0, .slice none 0 0]
     replace O3 := qH (own_bv O3.out hal)
     replace O7 := qH (own_bv O7.out hal)
     have HG3 : Hid (T ≤ wn4.heap.size) := Nat.le_trans (Nat.le_of_eq HT.out.symm) BB.out.size
     replace BB := qH (BB.out.trans (hal.mono BB.out.size))
     clear hal
     obtain ⟨g3, hg3⟩ : ∃ g, wn4.heap.size = g := ⟨_, rfl⟩
     rw [hg3] at Z3 HG3 ⊢
     clear hg3
     generalize wn4.alloc (.cells #[.slice none 0 0, .slice none 0 0, .slice none 0 0] 28) = wn5 at *
     have z0 := Z3.out.at (j := 0) rfl
     have z1 := Z3.out.at (j := 1) rfl
     have z2 := Z3.out.at (j := 2) rfl
     have f0 := Z3.out.fz 0
     have f1 := Z3.out.fz 1
     have f2 := Z3.out.fz 2
     have hK := Keep.sets (R := (· = g3)) rfl [.slice A3 v.nw c3, .slice none 0 0, .slice A7 v.nc c7] 0 (Keep.refl _ wn5)
     have BS := below_sets (Nat.le_trans (Nat.le_of_eq HT.out) HG3.out) [.slice A3 v.nw c3, .slice none 0 0, .slice A7 v.nc c7] 0 BB.out
     have N3 := cpb_ne O3.out Z3.out (by decide)
     have N7 := cpb_ne O7.out Z3.out (by decide)
     have P3 := Z3.out.sets [.slice A3 v.nw c3, .slice none 0 0, .slice A7 v.nc c7] rfl
     have O3' := own_kv O3.out hK (fun b hb hh => N3 (hh ▸ hb))
     have O7' := own_kv O7.out hK (fun b hb hh => N7 (hh ▸ hb))
     refine rd1 10 (fun K hK => ?_)
     go_simp
     refine hK.out _ _ (SK.out _ BS) (fun hHeld => ?_)
     clear hK K
     refine wpAnyH_done (by kernel_rfl) ?_ _
     exact REST.out g3 _ _ T c3 c7 A3 A7 _ (by have := B2.out.size; have := HT.out; omega) HG3.out P3 O3' O7' (B2.out.trans (BS.mono B2.out.size))
    ·skip
     go_simp
     refine hK.out _ _ (SK.out _ (BB.out.alloc BB.out.size (.cells #[.slice none 0 0, .slice none 0 0, .slice none 0 0] 28))) (fun hHeld => ?_)
     clear hK K
     have hal := (Below.refl wn3.heap.size wn3).alloc (Nat.le_refl _) (.cells #[.slice none 0 0, .slice none 0 0, .slice none 0 0] 28)
     have Z3 : Hid (Bx (wn3.alloc (.cells #[.slice none 0 0, .slice none 0 0, .slice none 0 0] 28)) wn3.heap.size 28 [.slice none 0 0, .slice none 0 0, .slice none 0 0]) := Bx.new wn3 _ [.slice none 0 0, .slice none 0 0, .slice none 0 0]
     replace O4 := qH (own_bv O4.out hal)
     replace O3 := qH (own_bv O3.out hal)
     have HG3 : Hid (T ≤ wn3.heap.size) := Nat.le_trans (Nat.le_of_eq HT.out.symm) BB.out.size
     replace BB := qH (BB.out.trans (hal.mono BB.out.size))
     clear hal
     obtain ⟨g3, hg3⟩ : ∃ g, wn3.heap.size = g := ⟨_, rfl⟩
     rw [hg3] at Z3 HG3 ⊢
     clear hg3
     generalize wn3.alloc (.cells #[.slice none 0 0, .slice none 0 0, .slice none 0 0] 28) = wn7 at *
     have NW := qH (RC.out.newsTo BB.out)
     refine rd1 7 (fun K hK => ?_)
     refine (step_pushV vtC rfl _ _ rfl rfl rfl O4.out NW.out.1 NW.out.2 (chsV_one _) (Nat.le_trans (Nat.le_of_eq HT.out.symm) BB.out.size) (by have := HNC.out; omega) ?_)
     intro v7 wn8 hown hk hv
     rw [Nat.zero_add, List.nil_append] at hown
     obtain ⟨A7, c7, rfl⟩ := own_slV hown
     have BK := hk.below BB.out BB.out.size (fun k hk => Nat.le_trans (Nat.le_of_eq HT.out) (O4.out.lt k hk).1)
     refine hK.out _ _ (SK.out _ BK) (fun hHeld => ?_)
     clear hK K
     simp only [pR]
     have O7 := qH hown
     replace O3 := qH (own_kv O3.out hk (fun b hb hh => own_ne O3.out O4.out (by decide) hb hh))
     replace Z3 := qH (Z3.out.kept hk (cpb_ne O4.out Z3.out (by decide)))
     replace BB := qH BK
     clear hown hk hv BK NW O4
     refine tk 8 ?_
     simp only [pR]
     have z0 := Z3.out.at (j := 0) rfl
     have z1 := Z3.out.at (j := 1) rfl
     have z2 := Z3.out.at (j := 2) rfl
     have f0 := Z3.out.fz 0
     have f1 := Z3.out.fz 1
     have f2 := Z3.out.fz 2
     have hK := Keep.sets (R := (· = g3)) rfl [.slice A3 v.nw c3, .slice none 0 0, .slice A7 v.nc c7] 0 (Keep.refl _ wn8)
     have BS := below_sets (Nat.le_trans (Nat.le_of_eq HT.out) HG3.out) [.slice A3 v.nw c3, .slice none 0 0, .slice A7 v.nc c7] 0 BB.out
     have N3 := cpb_ne O3.out Z3.out (by decide)
     have N7 := cpb_ne O7.out Z3.out (by decide)
     have P3 := Z3.out.sets [.slice A3 v.nw c3, .slice none 0 0, .slice A7 v.nc c7] rfl
     have O3' := own_kv O3.out hK (fun b hb hh => N3 (hh ▸ hb))
     have O7' := own_kv O7.out hK (fun b hb hh => N7 (hh ▸ hb))
     refine rd1 10 (fun K hK => ?_)
     go_simp
     refine hK.out _ _ (SK.out _ BS) (fun hHeld => ?_)
     clear hK K
     refine wpAnyH_done (by kernel_rfl) ?_ _
     exact REST.out g3 _ _ T c3 c7 A3 A7 _ (by have := B2.out.size; have := HT.out; omega) HG3.out P3 O3' O7' (B2.out.trans (BS.mono B2.out.size))
   ·skip
    go_simp
    refine hK.out _ _ (SK.out _ (BB.out.alloc BB.out.size (.cells #[.slice none 0 0, .slice none 0 0, .slice none 0 0] 28))) (fun hHeld => ?_)
    clear hK K
    have hal := (Below.refl wn2.heap.size wn2).alloc (Nat.le_refl _) (.cells #[.slice none 0 0, .slice none 0 0, .slice none 0 0] 28)
    have Z3 : Hid (Bx (wn2.alloc (.cells #[.slice none 0 0, .slice none 0 0, .slice none 0 0] 28)) wn2.heap.size 28 [.slice none 0 0, .slice none 0 0, .slice none 0 0]) := Bx.new wn2 _ [.slice none 0 0, .slice none 0 0, .slice none 0 0]
    replace O3 := qH (own_bv O3.out hal)
    have HG3 : Hid (T ≤ wn2.heap.size) := Nat.le_trans (Nat.le_of_eq HT.out.symm) BB.out.size
    replace BB := qH (BB.out.trans (hal.mono BB.out.size))
    clear hal
    obtain ⟨g3, hg3⟩ : ∃ g, wn2.heap.size = g := ⟨_, rfl⟩
    rw [hg3] at Z3 HG3 ⊢
    clear hg3
    generalize wn2.alloc (.cells #[.slice none 0 0, .slice none 0 0, .slice none 0 0] 28) = wn10 at *
    refine rd1 4 (fun K hK => ?_)
    go_simp
    refine hK.out _ _ (SK.out _ (BB.out.alloc BB.out.size (.cells #[] 130))) (fun hHeld => ?_)
    clear hK K
    have hal := (Below.refl wn10.heap.size wn10).alloc (Nat.le_refl _) (.cells #[] 130)
    have O4 := qH (own_nilV (B := T) (z := 5) (Bx.new wn10 130 []) (Nat.le_trans (Nat.le_of_eq HT.out.symm) BB.out.size))
    replace O3 := qH (own_bv O3.out hal)
    replace Z3 := qH (Z3.out.to hal)
    replace BB := qH (BB.out.trans (hal.mono BB.out.size))
    clear hal
    obtain ⟨g4, hg4⟩ : ∃ g, wn10.heap.size = g := ⟨_, rfl⟩
    rw [hg4] at O4 ⊢
    clear hg4
    have e9 : ([] : List Value).toArray = #[] := rfl
    rw [e9] at *
    clear e9
    generalize wn10.alloc (.cells #[] 130) = wn11 at *
    have NW := qH (RC.out.newsTo BB.out)
    refine rd1 7 (fun K hK => ?_)
    refine (step_pushV vtC rfl _ _ rfl rfl rfl O4.out NW.out.1 NW.out.2 (chsV_one _) (Nat.le_trans (Nat.le_of_eq HT.out.symm) BB.out.size) (by have := HNC.out; omega) ?_)
    intro v7 wn12 hown hk hv
    rw [Nat.zero_add, List.nil_append] at hown
    obtain ⟨A7, c7, rfl⟩ := own_slV hown
    have BK := hk.below BB.out BB.out.size (fun k hk => Nat.le_trans (Nat.le_of_eq HT.out) (O4.out.lt k hk).1)
    refine hK.out _ _ (SK.out _ BK) (fun hHeld => ?_)
    clear hK K
    simp only [pR]
    have O7 := qH hown
    replace O3 := qH (own_kv O3.out hk (fun b hb hh => own_ne O3.out O4.out (by decide) hb hh))
    replace Z3 := qH (Z3.out.kept hk (cpb_ne O4.out Z3.out (by decide)))
    replace BB := qH BK
    clear hown hk hv BK NW O4
    refine tk 8 ?_
    simp only [pR]
    have z0 := Z3.out.at (j := 0) rfl
    have z1 := Z3.out.at (j := 1) rfl
    have z2 := Z3.out.at (j := 2) rfl
    have f0 := Z3.out.fz 0
    have f1 := Z3.out.fz 1
    have f2 := Z3.out.fz 2
    have hK := Keep.sets (R := (· = g3)) rfl [.slice A3 v.nw c3, .slice none 0 0, .slice A7 v.nc c7] 0 (Keep.refl _ wn12)
    have BS := below_sets (Nat.le_trans (Nat.le_of_eq HT.out) HG3.out) [.slice A3 v.nw c3, .slice none 0 0, .slice A7 v.nc c7] 0 BB.out
    have N3 := cpb_ne O3.out Z3.out (by decide)
    have N7 := cpb_ne O7.out Z3.out (by decide)
    have P3 := Z3.out.sets [.slice A3 v.nw c3, .slice none 0 0, .slice A7 v.nc c7] rfl
    have O3' := own_kv O3.out hK (fun b hb hh => N3 (hh ▸ hb))
    have O7' := own_kv O7.out hK (fun b hb hh => N7 (hh ▸ hb))
    refine rd1 10 (fun K hK => ?_)
    go_simp
    refine hK.out _ _ (SK.out _ BS) (fun hHeld => ?_)
    clear hK K
    refine wpAnyH_done (by kernel_rfl) ?_ _
    exact REST.out g3 _ _ T c3 c7 A3 A7 _ (by have := B2.out.size; have := HT.out; omega) HG3.out P3 O3' O7' (B2.out.trans (BS.mono B2.out.size))
  ·skip
   go_simp
   refine hK.out _ _ (SK.out _ (BB.out.alloc BB.out.size (.cells #[] 130))) (fun hHeld => ?_)
   clear hK K
   have hal := (Below.refl wn1.heap.size wn1).alloc (Nat.le_refl _) (.cells #[] 130)
   have O4 := qH (own_nilV (B := T) (z := 5) (Bx.new wn1 130 []) (Nat.le_trans (Nat.le_of_eq HT.out.symm) BB.out.size))
   replace O0 := qH (own_bv O0.out hal)
   replace BB := qH (BB.out.trans (hal.mono BB.out.size))
   clear hal
   obtain ⟨g4, hg4⟩ : ∃ g, wn1.heap.size = g := ⟨_, rfl⟩
   rw [hg4] at O4 ⊢
   clear hg4
   have e9 : ([] : List Value).toArray = #[] := rfl
   rw [e9] at *
   clear e9
   generalize wn1.alloc (.cells #[] 130) = wn14 at *
   refine wpAnyH_ready (rs := [3, 9]) (by kernel_rfl) (by simp) ?_
   refine AllReadyH.cons rfl (fun K hK => ?_) (AllReadyH.cons rfl (fun K hK => ?_) AllReadyH.nil)
   ·have NW := qH (RW.out.newsTo BB.out)
    refine (step_pushV vtW rfl _ _ rfl rfl rfl O0.out NW.out.1 NW.out.2 (winsV_one _) (Nat.le_trans (Nat.le_of_eq HT.out.symm) BB.out.size) (by have := HNW.out; omega) ?_)
    intro v3 wn15 hown hk hv
    rw [Nat.zero_add, List.nil_append] at hown
    obtain ⟨A3, c3, rfl⟩ := own_slV hown
    have BK := hk.below BB.out BB.out.size (fun k hk => Nat.le_trans (Nat.le_of_eq HT.out) (O0.out.lt k hk).1)
    refine hK.out _ _ (SK.out _ BK) (fun hHeld => ?_)
    clear hK K
    simp only [pR]
    have O3 := qH hown
    replace O4 := qH (own_kv O4.out hk (fun b hb hh => own_ne O4.out O0.out (by decide) hb hh))
    replace BB := qH BK
    clear hown hk hv BK NW O0
    refine wpAnyH_ready (rs := [7, 9]) (by kernel_rfl) (by simp) ?_
    refine AllReadyH.cons rfl (fun K hK => ?_) (AllReadyH.cons rfl (fun K hK => ?_) AllReadyH.nil)
    ·have NW := qH (RC.out.newsTo BB.out)
     refine (step_pushV vtC rfl _ _ rfl rfl rfl O4.out NW.out.1 NW.out.2 (chsV_one _) (Nat.le_trans (Nat.le_of_eq HT.out.symm) BB.out.size) (by have := HNC.out; omega) ?_)
     intro v7 wn16 hown hk hv
     rw [Nat.zero_add, List.nil_append] at hown
     obtain ⟨A7, c7, rfl⟩ := own_slV hown
     have BK := hk.below BB.out BB.out.size (fun k hk => Nat.le_trans (Nat.le_of_eq HT.out) (O4.out.lt k hk).1)
     refine hK.out _ _ (SK.out _ BK) (fun hHeld => ?_)
     clear hK K
     simp only [pR]
     have O7 := qH hown
     replace O3 := qH (own_kv O3.out hk (fun b hb hh => own_ne O3.out O4.out (by decide) hb hh))
     replace BB := qH BK
     clear hown hk hv BK NW O4
     refine tk 8 ?_
     simp only [pR]
     refine rd1 9 (fun K hK => ?_)
     go_simp
     refine hK.out _ _ (SK.out _ (BB.out.alloc BB.out.size (.cells #[.slice none 0 0, .slice none 0 0, .slice none 0 0] 28))) (fun hHeld => ?_)
     clear hK K
     have hal := (Below.refl wn16.heap.size wn16).alloc (Nat.le_refl _) (.cells #[.slice none 0 0, .slice none 0 0, .slice none 0 0] 28)
     have Z3 : Hid (Bx (wn16.alloc (.cells #[.slice none 0 0, .slice none 0 0, .slice none 0 0] 28)) wn16.heap.size 28 [.slice none 0 0, .slice none 0 0, .slice none 0 0]) := Bx.new wn16 _ [.slice none 0 0, .slice none 0 0, .slice none 0 0]
     replace O3 := qH (own_bv O3.out hal)
     replace O7 := qH (own_bv O7.out hal)
     have HG3 : Hid (T ≤ wn16.heap.size) := Nat.le_trans (Nat.le_of_eq HT.out.symm) BB.out.size
     replace BB := qH (BB.out.trans (hal.mono BB.out.size))
     clear hal
     obtain ⟨g3, hg3⟩ : ∃ g, wn16.heap.size = g := ⟨_, rfl⟩
     rw [hg3] at Z3 HG3 ⊢
     clear hg3
     generalize wn16.alloc (.cells #[.slice none 0 0, .slice none 0 0, .slice none 0 0] 28) = wn17 at *
     have z0 := Z3.out.at (j := 0) rfl
     have z1 := Z3.out.at (j := 1) rfl
     have z2 := Z3.out.at (j := 2) rfl
     have f0 := Z3.out.fz 0
     have f1 := Z3.out.fz 1
     have f2 := Z3.out.fz 2
     have hK := Keep.sets (R := (· = g3)) rfl [.slice A3 v.nw c3, .slice none 0 0, .slice A7 v.nc c7] 0 (Keep.refl _ wn17)
     have BS := below_sets (Nat.le_trans (Nat.le_of_eq HT.out) HG3.out) [.slice A3 v.nw c3, .slice none 0 0, .slice A7 v.nc c7] 0 BB.out
     have N3 := cpb_ne O3.out Z3.out (by decide)
     have N7 := cpb_ne O7.out Z3.out (by decide)
     have P3 := Z3.out.sets [.slice A3 v.nw c3, .slice none 0 0, .slice A7 v.nc c7] rfl
     have O3' := own_kv O3.out hK (fun b hb hh => N3 (hh ▸ hb))
     have O7' := own_kv O7.out hK (fun b hb hh => N7 (hh ▸ hb))
     refine rd1 10 (fun K hK => ?_)
     go_simp
     refine hK.out _ _ (SK.out _ BS) (fun hHeld => ?_)
     clear hK K
     refine wpAnyH_done (by kernel_rfl) ?_ _
     exact REST.out g3 _ _ T c3 c7 A3 A7 _ (by have := B2.out.size; have := HT.out; omega) HG3.out P3 O3' O7' (B2.out.trans (BS.mono B2.out.size))
    ·skip
     go_simp
     refine hK.out _ _ (SK.out _ (BB.out.alloc BB.out.size (.cells #[.slice none 0 0, .slice none 0 0, .slice none 0 0] 28))) (fun hHeld => ?_)
     clear hK K
     have hal := (Below.refl wn15.heap.size wn15).alloc (Nat.le_refl _) (.cells #[.slice none 0 0, .slice none 0 0, .slice none 0 0] 28)
     have Z3 : Hid (Bx (wn15.alloc (.cells #[.slice none 0 0, .slice none 0 0, .slice none 0 0] 28)) wn15.heap.size 28 [.slice none 0 0, .slice none 0 0, .slice none 0 0]) := Bx.new wn15 _ [.slice none 0 0, .slice none 0 0, .slice none 0 0]
     replace O4 := qH (own_bv O4.out hal)
     replace O3 := qH (own_bv O3.out hal)
     have HG3 : Hid (T ≤ wn15.heap.size) := Nat.le_trans (Nat.le_of_eq HT.out.symm) BB.out.size
     replace BB := qH (BB.out.trans (hal.mono BB.out.size))
     clear hal
     obtain ⟨g3, hg3⟩ : ∃ g, wn15.heap.size = g := ⟨_, rfl⟩
     rw [hg3] at Z3 HG3 ⊢
     clear hg3
     generalize wn15.alloc (.cells #[.slice none 0 0, .slice none 0 0, .slice none 0 0] 28) = wn19 at *
     have NW := qH (RC.out.newsTo BB.out)
     refine rd1 7 (fun K hK => ?_)
     refine (step_pushV vtC rfl _ _ rfl rfl rfl O4.out NW.out.1 NW.out.2 (chsV_one _) (Nat.le_trans (Nat.le_of_eq HT.out.symm) BB.out.size) (by have := HNC.out; omega) ?_)
     intro v7 wn20 hown hk hv
     rw [Nat.zero_add, List.nil_append] at hown
     obtain ⟨A7, c7, rfl⟩ := own_slV hown
     have BK := hk.below BB.out BB.out.size (fun k hk => Nat.le_trans (Nat.le_of_eq HT.out) (O4.out.lt k hk).1)
     refine hK.out _ _ (SK.out _ BK) (fun hHeld => ?_)
     clear hK K
     simp only [pR]
     have O7 := qH hown
     replace O3 := qH (own_kv O3.out hk (fun b hb hh => own_ne O3.out O4.out (by decide) hb hh))
     replace Z3 := qH (Z3.out.kept hk (cpb_ne O4.out Z3.out (by decide)))
     replace BB := qH BK
     clear hown hk hv BK NW O4
     refine tk 8 ?_
     simp only [pR]
     have z0 := Z3.out.at (j := 0) rfl
     have z1 := Z3.out.at (j := 1) rfl
     have z2 := Z3.out.at (j := 2) rfl
     have f0 := Z3.out.fz 0
     have f1 := Z3.out.fz 1
     have f2 := Z3.out.fz 2
     have hK := Keep.sets (R := (· = g3)) rfl [.slice A3 v.nw c3, .slice none 0 0, .slice A7 v.nc c7] 0 (Keep.refl _ wn20)
     have BS := below_sets (Nat.le_trans (Nat.le_of_eq HT.out) HG3.out) [.slice A3 v.nw c3, .slice none 0 0, .slice A7 v.nc c7] 0 BB.out
     have N3 := cpb_ne O3.out Z3.out (by decide)
     have N7 := cpb_ne O7.out Z3.out (by decide)
     have P3 := Z3.out.sets [.slice A3 v.nw c3, .slice none 0 0, .slice A7 v.nc c7] rfl
     have O3' := own_kv O3.out hK (fun b hb hh => N3 (hh ▸ hb))
     have O7' := own_kv O7.out hK (fun b hb hh => N7 (hh ▸ hb))
     refine rd1 10 (fun K hK => ?_)
     go_simp
     refine hK.out _ _ (SK.out _ BS) (fun hHeld => ?_)
     clear hK K
     refine wpAnyH_done (by kernel_rfl) ?_ _
     exact REST.out g3 _ _ T c3 c7 A3 A7 _ (by have := B2.out.size; have := HT.out; omega) HG3.out P3 O3' O7' (B2.out.trans (BS.mono B2.out.size))
   ·skip
    go_simp
    refine hK.out _ _ (SK.out _ (BB.out.alloc BB.out.size (.cells #[.slice none 0 0, .slice none 0 0, .slice none 0 0] 28))) (fun hHeld => ?_)
    clear hK K
    have hal := (Below.refl wn14.heap.size wn14).alloc (Nat.le_refl _) (.cells #[.slice none 0 0, .slice none 0 0, .slice none 0 0] 28)
    have Z3 : Hid (Bx (wn14.alloc (.cells #[.slice none 0 0, .slice none 0 0, .slice none 0 0] 28)) wn14.heap.size 28 [.slice none 0 0, .slice none 0 0, .slice none 0 0]) := Bx.new wn14 _ [.slice none 0 0, .slice none 0 0, .slice none 0 0]
    replace O0 := qH (own_bv O0.out hal)
    replace O4 := qH (own_bv O4.out hal)
    have HG3 : Hid (T ≤ wn14.heap.size) := Nat.le_trans (Nat.le_of_eq HT.out.symm) BB.out.size
    replace BB := qH (BB.out.trans (hal.mono BB.out.size))
    clear hal
    obtain ⟨g3, hg3⟩ : ∃ g, wn14.heap.size = g := ⟨_, rfl⟩
    rw [hg3] at Z3 HG3 ⊢
    clear hg3
    generalize wn14.alloc (.cells #[.slice none 0 0, .slice none 0 0, .slice none 0 0] 28) = wn22 at *
    have NW := qH (RW.out.newsTo BB.out)
    refine rd1 3 (fun K hK => ?_)
    refine (step_pushV vtW rfl _ _ rfl rfl rfl O0.out NW.out.1 NW.out.2 (winsV_one _) (Nat.le_trans (Nat.le_of_eq HT.out.symm) BB.out.size) (by have := HNW.out; omega) ?_)
    intro v3 wn23 hown hk hv
    rw [Nat.zero_add, List.nil_append] at hown
    obtain ⟨A3, c3, rfl⟩ := own_slV hown
    have BK := hk.below BB.out BB.out.size (fun k hk => Nat.le_trans (Nat.le_of_eq HT.out) (O0.out.lt k hk).1)
    refine hK.out _ _ (SK.out _ BK) (fun hHeld => ?_)
    clear hK K
    simp only [pR]
    have O3 := qH hown
    replace O4 := qH (own_kv O4.out hk (fun b hb hh => own_ne O4.out O0.out (by decide) hb hh))
    replace Z3 := qH (Z3.out.kept hk (cpb_ne O0.out Z3.out (by decide)))
    replace BB := qH BK
    clear hown hk hv BK NW O0
    have NW := qH (RC.out.newsTo BB.out)
    refine rd1 7 (fun K hK => ?_)
    refine (step_pushV vtC rfl _ _ rfl rfl rfl O4.out NW.out.1 NW.out.2 (chsV_one _) (Nat.le_trans (Nat.le_of_eq HT.out.symm) BB.out.size) (by have := HNC.out; omega) ?_)
    intro v7 wn24 hown hk hv
    rw [Nat.zero_add, List.nil_append] at hown
    obtain ⟨A7, c7, rfl⟩ := own_slV hown
    have BK := hk.below BB.out BB.out.size (fun k hk => Nat.le_trans (Nat.le_of_eq HT.out) (O4.out.lt k hk).1)
    refine hK.out _ _ (SK.out _ BK) (fun hHeld => ?_)
    clear hK K
    simp only [pR]
    have O7 := qH hown
    replace O3 := qH (own_kv O3.out hk (fun b hb hh => own_ne O3.out O4.out (by decide) hb hh))
    replace Z3 := qH (Z3.out.kept hk (cpb_ne O4.out Z3.out (by decide)))
    replace BB := qH BK
    clear hown hk hv BK NW O4
    refine tk 8 ?_
    simp only [pR]
    have z0 := Z3.out.at (j := 0) rfl
    have z1 := Z3.out.at (j := 1) rfl
    have z2 := Z3.out.at (j := 2) rfl
    have f0 := Z3.out.fz 0
    have f1 := Z3.out.fz 1
    have f2 := Z3.out.fz 2
    have hK := Keep.sets (R := (· = g3)) rfl [.slice A3 v.nw c3, .slice none 0 0, .slice A7 v.nc c7] 0 (Keep.refl _ wn24)
    have BS := below_sets (Nat.le_trans (Nat.le_of_eq HT.out) HG3.out) [.slice A3 v.nw c3, .slice none 0 0, .slice A7 v.nc c7] 0 BB.out
    have N3 := cpb_ne O3.out Z3.out (by decide)
    have N7 := cpb_ne O7.out Z3.out (by decide)
    have P3 := Z3.out.sets [.slice A3 v.nw c3, .slice none 0 0, .slice A7 v.nc c7] rfl
    have O3' := own_kv O3.out hK (fun b hb hh => N3 (hh ▸ hb))
    have O7' := own_kv O7.out hK (fun b hb hh => N7 (hh ▸ hb))
    refine rd1 10 (fun K hK => ?_)
    go_simp
    refine hK.out _ _ (SK.out _ BS) (fun hHeld => ?_)
    clear hK K
    refine wpAnyH_done (by kernel_rfl) ?_ _
    exact REST.out g3 _ _ T c3 c7 A3 A7 _ (by have := B2.out.size; have := HT.out; omega) HG3.out P3 O3' O7' (B2.out.trans (BS.mono B2.out.size))
  ·skip
   go_simp
   refine hK.out _ _ (SK.out _ (BB.out.alloc BB.out.size (.cells #[.slice none 0 0, .slice none 0 0, .slice none 0 0] 28))) (fun hHeld => ?_)
   clear hK K
   have hal := (Below.refl wn1.heap.size wn1).alloc (Nat.le_refl _) (.cells #[.slice none 0 0, .slice none 0 0, .slice none 0 0] 28)
   have Z3 : Hid (Bx (wn1.alloc (.cells #[.slice none 0 0, .slice none 0 0, .slice none 0 0] 28)) wn1.heap.size 28 [.slice none 0 0, .slice none 0 0, .slice none 0 0]) := Bx.new wn1 _ [.slice none 0 0, .slice none 0 0, .slice none 0 0]
   replace O0 := qH (own_bv O0.out hal)
   have HG3 : Hid (T ≤ wn1.heap.size) := Nat.le_trans (Nat.le_of_eq HT.out.symm) BB.out.size
   replace BB := qH (BB.out.trans (hal.mono BB.out.size))
   clear hal
   obtain ⟨g3, hg3⟩ : ∃ g, wn1.heap.size = g := ⟨_, rfl⟩
   rw [hg3] at Z3 HG3 ⊢
   clear hg3
   generalize wn1.alloc (.cells #[.slice none 0 0, .slice none 0 0, .slice none 0 0] 28) = wn26 at *
   refine wpAnyH_ready (rs := [3, 4]) (by kernel_rfl) (by simp) ?_
   refine AllReadyH.cons rfl (fun K hK => ?_) (AllReadyH.cons rfl (fun K hK => ?_) AllReadyH.nil)
   ·have NW := qH (RW.out.newsTo BB.out)
    refine (step_pushV vtW rfl _ _ rfl rfl rfl O0.out NW.out.1 NW.out.2 (winsV_one _) (Nat.le_trans (Nat.le_of_eq HT.out.symm) BB.out.size) (by have := HNW.out; omega) ?_)
    intro v3 wn27 hown hk hv
    rw [Nat.zero_add, List.nil_append] at hown
    obtain ⟨A3, c3, rfl⟩ := own_slV hown
    have BK := hk.below BB.out BB.out.size (fun k hk => Nat.le_trans (Nat.le_of_eq HT.out) (O0.out.lt k hk).1)
    refine hK.out _ _ (SK.out _ BK) (fun hHeld => ?_)
    clear hK K
    simp only [pR]
    have O3 := qH hown
    replace Z3 := qH (Z3.out.kept hk (cpb_ne O0.out Z3.out (by decide)))
    replace BB := qH BK
    clear hown hk hv BK NW O0
    refine rd1 4 (fun K hK => ?_)
    go_simp
    refine hK.out _ _ (SK.out _ (BB.out.alloc BB.out.size (.cells #[] 130))) (fun hHeld => ?_)
    clear hK K
    have hal := (Below.refl wn27.heap.size wn27).alloc (Nat.le_refl _) (.cells #[] 130)
    have O4 := qH (own_nilV (B := T) (z := 5) (Bx.new wn27 130 []) (Nat.le_trans (Nat.le_of_eq HT.out.symm) BB.out.size))
    replace O3 := qH (own_bv O3.out hal)
    replace Z3 := qH (Z3.out.to hal)
    replace BB := qH (BB.out.trans (hal.mono BB.out.size))
    clear hal
    obtain ⟨g4, hg4⟩ : ∃ g, wn27.heap.size = g := ⟨_, rfl⟩
    rw [hg4] at O4 ⊢
    clear hg4
    have e9 : ([] : List Value).toArray = #[] := rfl
    rw [e9] at *
    clear e9
    generalize wn27.alloc (.cells #[] 130) = wn28 at *
    have NW := qH (RC.out.newsTo BB.out)
    refine rd1 7 (fun K hK => ?_)
    refine (step_pushV vtC rfl _ _ rfl rfl rfl O4.out NW.out.1 NW.out.2 (chsV_one _) (Nat.le_trans (Nat.le_of_eq HT.out.symm) BB.out.size) (by have := HNC.out; omega) ?_)
    intro v7 wn29 hown hk hv
    rw [Nat.zero_add, List.nil_append] at hown
    obtain ⟨A7, c7, rfl⟩ := own_slV hown
    have BK := hk.below BB.out BB.out.size (fun k hk => Nat.le_trans (Nat.le_of_eq HT.out) (O4.out.lt k hk).1)
    refine hK.out _ _ (SK.out _ BK) (fun hHeld => ?_)
    clear hK K
    simp only [pR]
    have O7 := qH hown
    replace O3 := qH (own_kv O3.out hk (fun b hb hh => own_ne O3.out O4.out (by decide) hb hh))
    replace Z3 := qH (Z3.out.kept hk (cpb_ne O4.out Z3.out (by decide)))
    replace BB := qH BK
    clear hown hk hv BK NW O4
    refine tk 8 ?_
    simp only [pR]
    have z0 := Z3.out.at (j := 0) rfl
    have z1 := Z3.out.at (j := 1) rfl
    have z2 := Z3.out.at (j := 2) rfl
    have f0 := Z3.out.fz 0
    have f1 := Z3.out.fz 1
    have f2 := Z3.out.fz 2
    have hK := Keep.sets (R := (· = g3)) rfl [.slice A3 v.nw c3, .slice none 0 0, .slice A7 v.nc c7] 0 (Keep.refl _ wn29)
    have BS := below_sets (Nat.le_trans (Nat.le_of_eq HT.out) HG3.out) [.slice A3 v.nw c3, .slice none 0 0, .slice A7 v.nc c7] 0 BB.out
    have N3 := cpb_ne O3.out Z3.out (by decide)
    have N7 := cpb_ne O7.out Z3.out (by decide)
    have P3 := Z3.out.sets [.slice A3 v.nw c3, .slice none 0 0, .slice A7 v.nc c7] rfl
    have O3' := own_kv O3.out hK (fun b hb hh => N3 (hh ▸ hb))
    have O7' := own_kv O7.out hK (fun b hb hh => N7 (hh ▸ hb))
    refine rd1 10 (fun K hK => ?_)
    go_simp
    refine hK.out _ _ (SK.out _ BS) (fun hHeld => ?_)
    clear hK K
    refine wpAnyH_done (by kernel_rfl) ?_ _
    exact REST.out g3 _ _ T c3 c7 A3 A7 _ (by have := B2.out.size; have := HT.out; omega) HG3.out P3 O3' O7' (B2.out.trans (BS.mono B2.out.size))
   ·skip
    go_simp
    refine hK.out _ _ (SK.out _ (BB.out.alloc BB.out.size (.cells #[] 130))) (fun hHeld => ?_)
    clear hK K
    have hal := (Below.refl wn26.heap.size wn26).alloc (Nat.le_refl _) (.cells #[] 130)
    have O4 := qH (own_nilV (B := T) (z := 5) (Bx.new wn26 130 []) (Nat.le_trans (Nat.le_of_eq HT.out.symm) BB.out.size))
    replace O0 := qH (own_bv O0.out hal)
    replace Z3 := qH (Z3.out.to hal)
    replace BB := qH (BB.out.trans (hal.mono BB.out.size))
    clear hal
    obtain ⟨g4, hg4⟩ : ∃ g, wn26.heap.size = g := ⟨_, rfl⟩
    rw [hg4] at O4 ⊢
    clear hg4
    have e9 : ([] : List Value).toArray = #[] := rfl
    rw [e9] at *
    clear e9
    generalize wn26.alloc (.cells #[] 130) = wn31 at *
    have NW := qH (RW.out.newsTo BB.out)
    refine rd1 3 (fun K hK => ?_)
    refine (step_pushV vtW rfl _ _ rfl rfl rfl O0.out NW.out.1 NW.out.2 (winsV_one _) (Nat.le_trans (Nat.le_of_eq HT.out.symm) BB.out.size) (by have := HNW.out; omega) ?_)
    intro v3 wn32 hown hk hv
    rw [Nat.zero_add, List.nil_append] at hown
    obtain ⟨A3, c3, rfl⟩ := own_slV hown
    have BK := hk.below BB.out BB.out.size (fun k hk => Nat.le_trans (Nat.le_of_eq HT.out) (O0.out.lt k hk).1)
    refine hK.out _ _ (SK.out _ BK) (fun hHeld => ?_)
    clear hK K
    simp only [pR]
    have O3 := qH hown
    replace O4 := qH (own_kv O4.out hk (fun b hb hh => own_ne O4.out O0.out (by decide) hb hh))
    replace Z3 := qH (Z3.out.kept hk (cpb_ne O0.out Z3.out (by decide)))
    replace BB := qH BK
    clear hown hk hv BK NW O0
    have NW := qH (RC.out.newsTo BB.out)
    refine rd1 7 (fun K hK => ?_)
    refine (step_pushV vtC rfl _ _ rfl rfl rfl O4.out NW.out.1 NW.out.2 (chsV_one _) (Nat.le_trans (Nat.le_of_eq HT.out.symm) BB.out.size) (by have := HNC.out; omega) ?_)
    intro v7 wn33 hown hk hv
    rw [Nat.zero_add, List.nil_append] at hown
    obtain ⟨A7, c7, rfl⟩ := own_slV hown
    have BK := hk.below BB.out BB.out.size (fun k hk => Nat.le_trans (Nat.le_of_eq HT.out) (O4.out.lt k hk).1)
    refine hK.out _ _ (SK.out _ BK) (fun hHeld => ?_)
    clear hK K
    simp only [pR]
    have O7 := qH hown
    replace O3 := qH (own_kv O3.out hk (fun b hb hh => own_ne O3.out O4.out (by decide) hb hh))
    replace Z3 := qH (Z3.out.kept hk (cpb_ne O4.out Z3.out (by decide)))
    replace BB := qH BK
    clear hown hk hv BK NW O4
    refine tk 8 ?_
    simp only [pR]
    have z0 := Z3.out.at (j := 0) rfl
    have z1 := Z3.out.at (j := 1) rfl
    have z2 := Z3.out.at (j := 2) rfl
    have f0 := Z3.out.fz 0
    have f1 := Z3.out.fz 1
    have f2 := Z3.out.fz 2
    have hK := Keep.sets (R := (· = g3)) rfl [.slice A3 v.nw c3, .slice none 0 0, .slice A7 v.nc c7] 0 (Keep.refl _ wn33)
    have BS := below_sets (Nat.le_trans (Nat.le_of_eq HT.out) HG3.out) [.slice A3 v.nw c3, .slice none 0 0, .slice A7 v.nc c7] 0 BB.out
    have N3 := cpb_ne O3.out Z3.out (by decide)
    have N7 := cpb_ne O7.out Z3.out (by decide)
    have P3 := Z3.out.sets [.slice A3 v.nw c3, .slice none 0 0, .slice A7 v.nc c7] rfl
    have O3' := own_kv O3.out hK (fun b hb hh => N3 (hh ▸ hb))
    have O7' := own_kv O7.out hK (fun b hb hh => N7 (hh ▸ hb))
    refine rd1 10 (fun K hK => ?_)
    go_simp
    refine hK.out _ _ (SK.out _ BS) (fun hHeld => ?_)
    clear hK K
    refine wpAnyH_done (by kernel_rfl) ?_ _
    exact REST.out g3 _ _ T c3 c7 A3 A7 _ (by have := B2.out.size; have := HT.out; omega) HG3.out P3 O3' O7' (B2.out.trans (BS.mono B2.out.size))
 ·skip
  go_simp
  refine hK.out _ _ (SK.out _ (BB.out.alloc BB.out.size (.cells #[] 130))) (fun hHeld => ?_)
  clear hK K
  have hal := (Below.refl wd.heap.size wd).alloc (Nat.le_refl _) (.cells #[] 130)
  have O4 := qH (own_nilV (B := T) (z := 5) (Bx.new wd 130 []) (Nat.le_trans (Nat.le_of_eq HT.out.symm) BB.out.size))
  replace BB := qH (BB.out.trans (hal.mono BB.out.size))
  clear hal
  obtain ⟨g4, hg4⟩ : ∃ g, wd.heap.size = g := ⟨_, rfl⟩
  rw [hg4] at O4 ⊢
  clear hg4
  have e9 : ([] : List Value).toArray = #[] := rfl
  rw [e9] at *
  clear e9
  generalize wd.alloc (.cells #[] 130) = wn35 at *
  refine wpAnyH_ready (rs := [0, 9]) (by kernel_rfl) (by simp) ?_
  refine AllReadyH.cons rfl (fun K hK => ?_) (AllReadyH.cons rfl (fun K hK => ?_) AllReadyH.nil)
  ·skip
   go_simp
   refine hK.out _ _ (SK.out _ (BB.out.alloc BB.out.size (.cells #[] 82))) (fun hHeld => ?_)
   clear hK K
   have hal := (Below.refl wn35.heap.size wn35).alloc (Nat.le_refl _) (.cells #[] 82)
   have O0 := qH (own_nilV (B := T) (z := 2) (Bx.new wn35 82 []) (Nat.le_trans (Nat.le_of_eq HT.out.symm) BB.out.size))
   replace O4 := qH (own_bv O4.out hal)
   replace BB := qH (BB.out.trans (hal.mono BB.out.size))
   clear hal
   obtain ⟨g0, hg0⟩ : ∃ g, wn35.heap.size = g := ⟨_, rfl⟩
   rw [hg0] at O0 ⊢
   clear hg0
   have e9 : ([] : List Value).toArray = #[] := rfl
   rw [e9] at *
   clear e9
   generalize wn35.alloc (.cells #[] 82) = wn36 at *
   refine wpAnyH_ready (rs := [3, 9]) (by kernel_rfl) (by simp) ?_
   refine AllReadyH.cons rfl (fun K hK => ?_) (AllReadyH.cons rfl (fun K hK => ?_) AllReadyH.nil)
   ·have NW := qH (RW.out.newsTo BB.out)
    refine (step_pushV vtW rfl _ _ rfl rfl rfl O0.out NW.out.1 NW.out.2 (winsV_one _) (Nat.le_trans (Nat.le_of_eq HT.out.symm) BB.out.size) (by have := HNW.out; omega) ?_)
    intro v3 wn37 hown hk hv
    rw [Nat.zero_add, List.nil_append] at hown
    obtain ⟨A3, c3, rfl⟩ := own_slV hown
    have BK := hk.below BB.out BB.out.size (fun k hk => Nat.le_trans (Nat.le_of_eq HT.out) (O0.out.lt k hk).1)
    refine hK.out _ _ (SK.out _ BK) (fun hHeld => ?_)
    clear hK K
    simp only [pR]
    have O3 := qH hown
    replace O4 := qH (own_kv O4.out hk (fun b hb hh => own_ne O4.out O0.out (by decide) hb hh))
    replace BB := qH BK
    clear hown hk hv BK NW O0
    refine wpAnyH_ready (rs := [7, 9]) (by kernel_rfl) (by simp) ?_
    refine AllReadyH.cons rfl (fun K hK => ?_) (AllReadyH.cons rfl (fun K hK => ?_) AllReadyH.nil)
    ·have NW := qH (RC.out.newsTo BB.out)
     refine (step_pushV vtC rfl _ _ rfl rfl rfl O4.out NW.out.1 NW.out.2 (chsV_one _) (Nat.le_trans (Nat.le_of_eq HT.out.symm) BB.out.size) (by have := HNC.out; omega) ?_)
     intro v7 wn38 hown hk hv
     rw [Nat.zero_add, List.nil_append] at hown
     obtain ⟨A7, c7, rfl⟩ := own_slV hown
     have BK := hk.below BB.out BB.out.size (fun k hk => Nat.le_trans (Nat.le_of_eq HT.out) (O4.out.lt k hk).1)
     refine hK.out _ _ (SK.out _ BK) (fun hHeld => ?_)
     clear hK K
     simp only [pR]
     have O7 := qH hown
     replace O3 := qH (own_kv O3.out hk (fun b hb hh => own_ne O3.out O4.out (by decide) hb hh))
     replace BB := qH BK
     clear hown hk hv BK NW O4
     refine tk 8 ?_
     simp only [pR]
     refine rd1 9 (fun K hK => ?_)
     go_simp
     refine hK.out _ _ (SK.out _ (BB.out.alloc BB.out.size (.cells #[.slice none 0 0, .slice none 0 0, .slice none 0 0] 28))) (fun hHeld => ?_)
     clear hK K
     have hal := (Below.refl wn38.heap.size wn38).alloc (Nat.le_refl _) (.cells #[.slice none 0 0, .slice none 0 0, .slice none 0 0] 28)
     have Z3 : Hid (Bx (wn38.alloc (.cells #[.slice none 0 0, .slice none 0 0, .slice none 0 0] 28)) wn38.heap.size 28 [.slice none 0 0, .slice none 0 0, .slice none 0 0]) := Bx.new wn38 _ [.slice none 0 0, .slice none 0 0, .slice none 0 0]
     replace O3 := qH (own_bv O3.out hal)
     replace O7 := qH (own_bv O7.out hal)
     have HG3 : Hid (T ≤ wn38.heap.size) := Nat.le_trans (Nat.le_of_eq HT.out.symm) BB.out.size
     replace BB := qH (BB.out.trans (hal.mono BB.out.size))
     clear hal
     obtain ⟨g3, hg3⟩ : ∃ g, wn38.heap.size = g := ⟨_, rfl⟩
     rw [hg3] at Z3 HG3 ⊢
     clear hg3
     generalize wn38.alloc (.cells #[.slice none 0 0, .slice none 0 0, .slice none 0 0] 28) = wn39 at *
     have z0 := Z3.out.at (j := 0) rfl
     have z1 := Z3.out.at (j := 1) rfl
     have z2 := Z3.out.at (j := 2) rfl
     have f0 := Z3.out.fz 0
     have f1 := Z3.out.fz 1
     have f2 := Z3.out.fz 2
     have hK := Keep.sets (R := (· = g3)) rfl [.slice A3 v.nw c3, .slice none 0 0, .slice A7 v.nc c7] 0 (Keep.refl _ wn39)
     have BS := below_sets (Nat.le_trans (Nat.le_of_eq HT.out) HG3.out) [.slice A3 v.nw c3, .slice none 0 0, .slice A7 v.nc c7] 0 BB.out
     have N3 := cpb_ne O3.out Z3.out (by decide)
     have N7 := cpb_ne O7.out Z3.out (by decide)
     have P3 := Z3.out.sets [.slice A3 v.nw c3, .slice none 0 0, .slice A7 v.nc c7] rfl
     have O3' := own_kv O3.out hK (fun b hb hh => N3 (hh ▸ hb))
     have O7' := own_kv O7.out hK (fun b hb hh => N7 (hh ▸ hb))
     refine rd1 10 (fun K hK => ?_)
     go_simp
     refine hK.out _ _ (SK.out _ BS) (fun hHeld => ?_)
     clear hK K
     refine wpAnyH_done (by kernel_rfl) ?_ _
     exact REST.out g3 _ _ T c3 c7 A3 A7 _ (by have := B2.out.size; have := HT.out; omega) HG3.out P3 O3' O7' (B2.out.trans (BS.mono B2.out.size))
    ·skip
     go_simp
     refine hK.out _ _ (SK.out _ (BB.out.alloc BB.out.size (.cells #[.slice none 0 0, .slice none 0 0, .slice none 0 0] 28))) (fun hHeld => ?_)
     clear hK K
     have hal := (Below.refl wn37.heap.size wn37).alloc (Nat.le_refl _) (.cells #[.slice none 0 0, .slice none 0 0, .slice none 0 0] 28)
     have Z3 : Hid (Bx (wn37.alloc (.cells #[.slice none 0 0, .slice none 0 0, .slice none 0 0] 28)) wn37.heap.size 28 [.slice none 0 0, .slice none 0 0, .slice none 0 0]) := Bx.new wn37 _ [.slice none 0 0, .slice none 0 0, .slice none 0 0]
     replace O4 := qH (own_bv O4.out hal)
     replace O3 := qH (own_bv O3.out hal)
     have HG3 : Hid (T ≤ wn37.heap.size) := Nat.le_trans (Nat.le_of_eq HT.out.symm) BB.out.size
     replace BB := qH (BB.out.trans (hal.mono BB.out.size))
     clear hal
     obtain ⟨g3, hg3⟩ : ∃ g, wn37.heap.size = g := ⟨_, rfl⟩
     rw [hg3] at Z3 HG3 ⊢
     clear hg3
     generalize wn37.alloc (.cells #[.slice none 0 0, .slice none 0 0, .slice none 0 0] 28) = wn41 at *
     have NW := qH (RC.out.newsTo BB.out)
     refine rd1 7 (fun K hK => ?_)
     refine (step_pushV vtC rfl _ _ rfl rfl rfl O4.out NW.out.1 NW.out.2 (chsV_one _) (Nat.le_trans (Nat.le_of_eq HT.out.symm) BB.out.size) (by have := HNC.out; omega) ?_)
     intro v7 wn42 hown hk hv
     rw [Nat.zero_add, List.nil_append] at hown
     obtain ⟨A7, c7, rfl⟩ := own_slV hown
     have BK := hk.below BB.out BB.out.size (fun k hk => Nat.le_trans (Nat.le_of_eq HT.out) (O4.out.lt k hk).1)
     refine hK.out _ _ (SK.out _ BK) (fun hHeld => ?_)
     clear hK K
     simp only [pR]
     have O7 := qH hown
     replace O3 := qH (own_kv O3.out hk (fun b hb hh => own_ne O3.out O4.out (by decide) hb hh))
     replace Z3 := qH (Z3.out.kept hk (cpb_ne O4.out Z3.out (by decide)))
     replace BB := qH BK
     clear hown hk hv BK NW O4
     refine tk 8 ?_
     simp only [pR]
     have z0 := Z3.out.at (j := 0) rfl
     have z1 := Z3.out.at (j := 1) rfl
     have z2 := Z3.out.at (j := 2) rfl
     have f0 := Z3.out.fz 0
     have f1 := Z3.out.fz 1
     have f2 := Z3.out.fz 2
     have hK := Keep.sets (R := (· = g3)) rfl [.slice A3 v.nw c3, .slice none 0 0, .slice A7 v.nc c7] 0 (Keep.refl _ wn42)
     have BS := below_sets (Nat.le_trans (Nat.le_of_eq HT.out) HG3.out) [.slice A3 v.nw c3, .slice none 0 0, .slice A7 v.nc c7] 0 BB.out
     have N3 := cpb_ne O3.out Z3.out (by decide)
     have N7 := cpb_ne O7.out Z3.out (by decide)
     have P3 := Z3.out.sets [.slice A3 v.nw c3, .slice none 0 0, .slice A7 v.nc c7] rfl
     have O3' := own_kv O3.out hK (fun b hb hh => N3 (hh ▸ hb))
     have O7' := own_kv O7.out hK (fun b hb hh => N7 (hh ▸ hb))
     refine rd1 10 (fun K hK => ?_)
     go_simp
     refine hK.out _ _ (SK.out _ BS) (fun hHeld => ?_)
     clear hK K
     refine wpAnyH_done (by kernel_rfl) ?_ _
     exact REST.out g3 _ _ T c3 c7 A3 A7 _ (by have := B2.out.size; have := HT.out; omega) HG3.out P3 O3' O7' (B2.out.trans (BS.mono B2.out.size))
   ·skip
    go_simp
    refine hK.out _ _ (SK.out _ (BB.out.alloc BB.out.size (.cells #[.slice none 0 0, .slice none 0 0, .slice none 0 0] 28))) (fun hHeld => ?_)
    clear hK K
    have hal := (Below.refl wn36.heap.size wn36).alloc (Nat.le_refl _) (.cells #[.slice none 0 0, .slice none 0 0, .slice none 0 0] 28)
    have Z3 : Hid (Bx (wn36.alloc (.cells #[.slice none 0 0, .slice none 0 0, .slice none 0 0] 28)) wn36.heap.size 28 [.slice none 0 0, .slice none 0 0, .slice none 0 0]) := Bx.new wn36 _ [.slice none 0 0, .slice none 0 0, .slice none 0 0]
    replace O0 := qH (own_bv O0.out hal)
    replace O4 := qH (own_bv O4.out hal)
    have HG3 : Hid (T ≤ wn36.heap.size) := Nat.le_trans (Nat.le_of_eq HT.out.symm) BB.out.size
    replace BB := qH (BB.out.trans (hal.mono BB.out.size))
    clear hal
    obtain ⟨g3, hg3⟩ : ∃ g, wn36.heap.size = g := ⟨_, rfl⟩
    rw [hg3] at Z3 HG3 ⊢
    clear hg3
    generalize wn36.alloc (.cells #[.slice none 0 0, .slice none 0 0, .slice none 0 0] 28) = wn44 at *
    have NW := qH (RW.out.newsTo BB.out)
    refine rd1 3 (fun K hK => ?_)
    refine (step_pushV vtW rfl _ _ rfl rfl rfl O0.out NW.out.1 NW.out.2 (winsV_one _) (Nat.le_trans (Nat.le_of_eq HT.out.symm) BB.out.size) (by have := HNW.out; omega) ?_)
    intro v3 wn45 hown hk hv
    rw [Nat.zero_add, List.nil_append] at hown
    obtain ⟨A3, c3, rfl⟩ := own_slV hown
    have BK := hk.below BB.out BB.out.size (fun k hk => Nat.le_trans (Nat.le_of_eq HT.out) (O0.out.lt k hk).1)
    refine hK.out _ _ (SK.out _ BK) (fun hHeld => ?_)
    clear hK K
    simp only [pR]
    have O3 := qH hown
    replace O4 := qH (own_kv O4.out hk (fun b hb hh => own_ne O4.out O0.out (by decide) hb hh))
    replace Z3 := qH (Z3.out.kept hk (cpb_ne O0.out Z3.out (by decide)))
    replace BB := qH BK
    clear hown hk hv BK NW O0
    have NW := qH (RC.out.newsTo BB.out)
    refine rd1 7 (fun K hK => ?_)
    refine (step_pushV vtC rfl _ _ rfl rfl rfl O4.out NW.out.1 NW.out.2 (chsV_one _) (Nat.le_trans (Nat.le_of_eq HT.out.symm) BB.out.size) (by have := HNC.out; omega) ?_)
    intro v7 wn46 hown hk hv
    rw [Nat.zero_add, List.nil_append] at hown
    obtain ⟨A7, c7, rfl⟩ := own_slV hown
    have BK := hk.below BB.out BB.out.size (fun k hk => Nat.le_trans (Nat.le_of_eq HT.out) (O4.out.lt k hk).1)
    refine hK.out _ _ (SK.out _ BK) (fun hHeld => ?_)
    clear hK K
    simp only [pR]
    have O7 := qH hown
    replace O3 := qH (own_kv O3.out hk (fun b hb hh => own_ne O3.out O4.out (by decide) hb hh))
    replace Z3 := qH (Z3.out.kept hk (cpb_ne O4.out Z3.out (by decide)))
    replace BB := qH BK
    clear hown hk hv BK NW O4
    refine tk 8 ?_
    simp only [pR]
    have z0 := Z3.out.at (j := 0) rfl
    have z1 := Z3.out.at (j := 1) rfl
    have z2 := Z3.out.at (j := 2) rfl
    have f0 := Z3.out.fz 0
    have f1 := Z3.out.fz 1
    have f2 := Z3.out.fz 2
    have hK := Keep.sets (R := (· = g3)) rfl [.slice A3 v.nw c3, .slice none 0 0, .slice A7 v.nc c7] 0 (Keep.refl _ wn46)
    have BS := below_sets (Nat.le_trans (Nat.le_of_eq HT.out) HG3.out) [.slice A3 v.nw c3, .slice none 0 0, .slice A7 v.nc c7] 0 BB.out
    have N3 := cpb_ne O3.out Z3.out (by decide)
    have N7 := cpb_ne O7.out Z3.out (by decide)
    have P3 := Z3.out.sets [.slice A3 v.nw c3, .slice none 0 0, .slice A7 v.nc c7] rfl
    have O3' := own_kv O3.out hK (fun b hb hh => N3 (hh ▸ hb))
    have O7' := own_kv O7.out hK (fun b hb hh => N7 (hh ▸ hb))
    refine rd1 10 (fun K hK => ?_)
    go_simp
    refine hK.out _ _ (SK.out _ BS) (fun hHeld => ?_)
    clear hK K
    refine wpAnyH_done (by kernel_rfl) ?_ _
    exact REST.out g3 _ _ T c3 c7 A3 A7 _ (by have := B2.out.size; have := HT.out; omega) HG3.out P3 O3' O7' (B2.out.trans (BS.mono B2.out.size))
  ·skip
   go_simp
   refine hK.out _ _ (SK.out _ (BB.out.alloc BB.out.size (.cells #[.slice none 0 0, .slice none 0 0, .slice none 0 0] 28))) (fun hHeld => ?_)
   clear hK K
   have hal := (Below.refl wn35.heap.size wn35).alloc (Nat.le_refl _) (.cells #[.slice none 0 0, .slice none 0 0, .slice none 0 0] 28)
   have Z3 : Hid (Bx (wn35.alloc (.cells #[.slice none 0 0, .slice none 0 0, .slice none 0 0] 28)) wn35.heap.size 28 [.slice none 0 0, .slice none 0 0, .slice none 0 0]) := Bx.new wn35 _ [.slice none 0 0, .slice none 0 0, .slice none 0 0]
   replace O4 := qH (own_bv O4.out hal)
   have HG3 : Hid (T ≤ wn35.heap.size) := Nat.le_trans (Nat.le_of_eq HT.out.symm) BB.out.size
   replace BB := qH (BB.out.trans (hal.mono BB.out.size))
   clear hal
   obtain ⟨g3, hg3⟩ : ∃ g, wn35.heap.size = g := ⟨_, rfl⟩
   rw [hg3] at Z3 HG3 ⊢
   clear hg3
   generalize wn35.alloc (.cells #[.slice none 0 0, .slice none 0 0, .slice none 0 0] 28) = wn48 at *
   refine rd1 0 (fun K hK => ?_)
   go_simp
   refine hK.out _ _ (SK.out _ (BB.out.alloc BB.out.size (.cells #[] 82))) (fun hHeld => ?_)
   clear hK K
   have hal := (Below.refl wn48.heap.size wn48).alloc (Nat.le_refl _) (.cells #[] 82)
   have O0 := qH (own_nilV (B := T) (z := 2) (Bx.new wn48 82 []) (Nat.le_trans (Nat.le_of_eq HT.out.symm) BB.out.size))
   replace O4 := qH (own_bv O4.out hal)
   replace Z3 := qH (Z3.out.to hal)
   replace BB := qH (BB.out.trans (hal.mono BB.out.size))
   clear hal
   obtain ⟨g0, hg0⟩ : ∃ g, wn48.heap.size = g := ⟨_, rfl⟩
   rw [hg0] at O0 ⊢
   clear hg0
   have e9 : ([] : List Value).toArray = #[] := rfl
   rw [e9] at *
   clear e9
   generalize wn48.alloc (.cells #[] 82) = wn49 at *
   have NW := qH (RW.out.newsTo BB.out)
   refine rd1 3 (fun K hK => ?_)
   refine (step_pushV vtW rfl _ _ rfl rfl rfl O0.out NW.out.1 NW.out.2 (winsV_one _) (Nat.le_trans (Nat.le_of_eq HT.out.symm) BB.out.size) (by have := HNW.out; omega) ?_)
   intro v3 wn50 hown hk hv
   rw [Nat.zero_add, List.nil_append] at hown
   obtain ⟨A3, c3, rfl⟩ := own_slV hown
   have BK := hk.below BB.out BB.out.size (fun k hk => Nat.le_trans (Nat.le_of_eq HT.out) (O0.out.lt k hk).1)
   refine hK.out _ _ (SK.out _ BK) (fun hHeld => ?_)
   clear hK K
   simp only [pR]
   have O3 := qH hown
   replace O4 := qH (own_kv O4.out hk (fun b hb hh => own_ne O4.out O0.out (by decide) hb hh))
   replace Z3 := qH (Z3.out.kept hk (cpb_ne O0.out Z3.out (by decide)))
   replace BB := qH BK
   clear hown hk hv BK NW O0
   have NW := qH (RC.out.newsTo BB.out)
   refine rd1 7 (fun K hK => ?_)
   refine (step_pushV vtC rfl _ _ rfl rfl rfl O4.out NW.out.1 NW.out.2 (chsV_one _) (Nat.le_trans (Nat.le_of_eq HT.out.symm) BB.out.size) (by have := HNC.out; omega) ?_)
   intro v7 wn51 hown hk hv
   rw [Nat.zero_add, List.nil_append] at hown
   obtain ⟨A7, c7, rfl⟩ := own_slV hown
   have BK := hk.below BB.out BB.out.size (fun k hk => Nat.le_trans (Nat.le_of_eq HT.out) (O4.out.lt k hk).1)
   refine hK.out _ _ (SK.out _ BK) (fun hHeld => ?_)
   clear hK K
   simp only [pR]
   have O7 := qH hown
   replace O3 := qH (own_kv O3.out hk (fun b hb hh => own_ne O3.out O4.out (by decide) hb hh))
   replace Z3 := qH (Z3.out.kept hk (cpb_ne O4.out Z3.out (by decide)))
   replace BB := qH BK
   clear hown hk hv BK NW O4
   refine tk 8 ?_
   simp only [pR]
   have z0 := Z3.out.at (j := 0) rfl
   have z1 := Z3.out.at (j := 1) rfl
   have z2 := Z3.out.at (j := 2) rfl
   have f0 := Z3.out.fz 0
   have f1 := Z3.out.fz 1
   have f2 := Z3.out.fz 2
   have hK := Keep.sets (R := (· = g3)) rfl [.slice A3 v.nw c3, .slice none 0 0, .slice A7 v.nc c7] 0 (Keep.refl _ wn51)
   have BS := below_sets (Nat.le_trans (Nat.le_of_eq HT.out) HG3.out) [.slice A3 v.nw c3, .slice none 0 0, .slice A7 v.nc c7] 0 BB.out
   have N3 := cpb_ne O3.out Z3.out (by decide)
   have N7 := cpb_ne O7.out Z3.out (by decide)
   have P3 := Z3.out.sets [.slice A3 v.nw c3, .slice none 0 0, .slice A7 v.nc c7] rfl
   have O3' := own_kv O3.out hK (fun b hb hh => N3 (hh ▸ hb))
   have O7' := own_kv O7.out hK (fun b hb hh => N7 (hh ▸ hb))
   refine rd1 10 (fun K hK => ?_)
   go_simp
   refine hK.out _ _ (SK.out _ BS) (fun hHeld => ?_)
   clear hK K
   refine wpAnyH_done (by kernel_rfl) ?_ _
   exact REST.out g3 _ _ T c3 c7 A3 A7 _ (by have := B2.out.size; have := HT.out; omega) HG3.out P3 O3' O7' (B2.out.trans (BS.mono B2.out.size))
 ·skip
  go_simp
  refine hK.out _ _ (SK.out _ (BB.out.alloc BB.out.size (.cells #[.slice none 0 0, .slice none 0 0, .slice none 0 0] 28))) (fun hHeld => ?_)
  clear hK K
  have hal := (Below.refl wd.heap.size wd).alloc (Nat.le_refl _) (.cells #[.slice none 0 0, .slice none 0 0, .slice none 0 0] 28)
  have Z3 : Hid (Bx (wd.alloc (.cells #[.slice none 0 0, .slice none 0 0, .slice none 0 0] 28)) wd.heap.size 28 [.slice none 0 0, .slice none 0 0, .slice none 0 0]) := Bx.new wd _ [.slice none 0 0, .slice none 0 0, .slice none 0 0]
  have HG3 : Hid (T ≤ wd.heap.size) := Nat.le_trans (Nat.le_of_eq HT.out.symm) BB.out.size
  replace BB := qH (BB.out.trans (hal.mono BB.out.size))
  clear hal
  obtain ⟨g3, hg3⟩ : ∃ g, wd.heap.size = g := ⟨_, rfl⟩
  rw [hg3] at Z3 HG3 ⊢
  clear hg3
  generalize wd.alloc (.cells #[.slice none 0 0, .slice none 0 0, .slice none 0 0] 28) = wn53 at *
  refine wpAnyH_ready (rs := [0, 4]) (by kernel_rfl) (by simp) ?_
  refine AllReadyH.cons rfl (fun K hK => ?_) (AllReadyH.cons rfl (fun K hK => ?_) AllReadyH.nil)
  ·skip
   go_simp
   refine hK.out _ _ (SK.out _ (BB.out.alloc BB.out.size (.cells #[] 82))) (fun hHeld => ?_)
   clear hK K
   have hal := (Below.refl wn53.heap.size wn53).alloc (Nat.le_refl _) (.cells #[] 82)
   have O0 := qH (own_nilV (B := T) (z := 2) (Bx.new wn53 82 []) (Nat.le_trans (Nat.le_of_eq HT.out.symm) BB.out.size))
   replace Z3 := qH (Z3.out.to hal)
   replace BB := qH (BB.out.trans (hal.mono BB.out.size))
   clear hal
   obtain ⟨g0, hg0⟩ : ∃ g, wn53.heap.size = g := ⟨_, rfl⟩
   rw [hg0] at O0 ⊢
   clear hg0
   have e9 : ([] : List Value).toArray = #[] := rfl
   rw [e9] at *
   clear e9
   generalize wn53.alloc (.cells #[] 82) = wn54 at *
   refine wpAnyH_ready (rs := [3, 4]) (by kernel_rfl) (by simp) ?_
   refine AllReadyH.cons rfl (fun K hK => ?_) (AllReadyH.cons rfl (fun K hK => ?_) AllReadyH.nil)
   ·have NW := qH (RW.out.newsTo BB.out)
    refine (step_pushV vtW rfl _ _ rfl rfl rfl O0.out NW.out.1 NW.out.2 (winsV_one _) (Nat.le_trans (Nat.le_of_eq HT.out.symm) BB.out.size) (by have := HNW.out; omega) ?_)
    intro v3 wn55 hown hk hv
    rw [Nat.zero_add, List.nil_append] at hown
    obtain ⟨A3, c3, rfl⟩ := own_slV hown
    have BK := hk.below BB.out BB.out.size (fun k hk => Nat.le_trans (Nat.le_of_eq HT.out) (O0.out.lt k hk).1)
    refine hK.out _ _ (SK.out _ BK) (fun hHeld => ?_)
    clear hK K
    simp only [pR]
    have O3 := qH hown
    replace Z3 := qH (Z3.out.kept hk (cpb_ne O0.out Z3.out (by decide)))
    replace BB := qH BK
    clear hown hk hv BK NW O0
    refine rd1 4 (fun K hK => ?_)
    go_simp
    refine hK.out _ _ (SK.out _ (BB.out.alloc BB.out.size (.cells #[] 130))) (fun hHeld => ?_)
    clear hK K
    have hal := (Below.refl wn55.heap.size wn55).alloc (Nat.le_refl _) (.cells #[] 130)
    have O4 := qH (own_nilV (B := T) (z := 5) (Bx.new wn55 130 []) (Nat.le_trans (Nat.le_of_eq HT.out.symm) BB.out.size))
    replace O3 := qH (own_bv O3.out hal)
    replace Z3 := qH (Z3.out.to hal)
    replace BB := qH (BB.out.trans (hal.mono BB.out.size))
    clear hal
    obtain ⟨g4, hg4⟩ : ∃ g, wn55.heap.size = g := ⟨_, rfl⟩
    rw [hg4] at O4 ⊢
    clear hg4
    have e9 : ([] : List Value).toArray = #[] := rfl
    rw [e9] at *
    clear e9
    generalize wn55.alloc (.cells #[] 130) = wn56 at *
    have NW := qH (RC.out.newsTo BB.out)
    refine rd1 7 (fun K hK => ?_)
    refine (step_pushV vtC rfl _ _ rfl rfl rfl O4.out NW.out.1 NW.out.2 (chsV_one _) (Nat.le_trans (Nat.le_of_eq HT.out.symm) BB.out.size) (by have := HNC.out; omega) ?_)
    intro v7 wn57 hown hk hv
    rw [Nat.zero_add, List.nil_append] at hown
    obtain ⟨A7, c7, rfl⟩ := own_slV hown
    have BK := hk.below BB.out BB.out.size (fun k hk => Nat.le_trans (Nat.le_of_eq HT.out) (O4.out.lt k hk).1)
    refine hK.out _ _ (SK.out _ BK) (fun hHeld => ?_)
    clear hK K
    simp only [pR]
    have O7 := qH hown
    replace O3 := qH (own_kv O3.out hk (fun b hb hh => own_ne O3.out O4.out (by decide) hb hh))
    replace Z3 := qH (Z3.out.kept hk (cpb_ne O4.out Z3.out (by decide)))
    replace BB := qH BK
    clear hown hk hv BK NW O4
    refine tk 8 ?_
    simp only [pR]
    have z0 := Z3.out.at (j := 0) rfl
    have z1 := Z3.out.at (j := 1) rfl
    have z2 := Z3.out.at (j := 2) rfl
    have f0 := Z3.out.fz 0
    have f1 := Z3.out.fz 1
    have f2 := Z3.out.fz 2
    have hK := Keep.sets (R := (· = g3)) rfl [.slice A3 v.nw c3, .slice none 0 0, .slice A7 v.nc c7] 0 (Keep.refl _ wn57)
    have BS := below_sets (Nat.le_trans (Nat.le_of_eq HT.out) HG3.out) [.slice A3 v.nw c3, .slice none 0 0, .slice A7 v.nc c7] 0 BB.out
    have N3 := cpb_ne O3.out Z3.out (by decide)
    have N7 := cpb_ne O7.out Z3.out (by decide)
    have P3 := Z3.out.sets [.slice A3 v.nw c3, .slice none 0 0, .slice A7 v.nc c7] rfl
    have O3' := own_kv O3.out hK (fun b hb hh => N3 (hh ▸ hb))
    have O7' := own_kv O7.out hK (fun b hb hh => N7 (hh ▸ hb))
    refine rd1 10 (fun K hK => ?_)
    go_simp
    refine hK.out _ _ (SK.out _ BS) (fun hHeld => ?_)
    clear hK K
    refine wpAnyH_done (by kernel_rfl) ?_ _
    exact REST.out g3 _ _ T c3 c7 A3 A7 _ (by have := B2.out.size; have := HT.out; omega) HG3.out P3 O3' O7' (B2.out.trans (BS.mono B2.out.size))
   ·skip
    go_simp
    refine hK.out _ _ (SK.out _ (BB.out.alloc BB.out.size (.cells #[] 130))) (fun hHeld => ?_)
    clear hK K
    have hal := (Below.refl wn54.heap.size wn54).alloc (Nat.le_refl _) (.cells #[] 130)
    have O4 := qH (own_nilV (B := T) (z := 5) (Bx.new wn54 130 []) (Nat.le_trans (Nat.le_of_eq HT.out.symm) BB.out.size))
    replace O0 := qH (own_bv O0.out hal)
    replace Z3 := qH (Z3.out.to hal)
    replace BB := qH (BB.out.trans (hal.mono BB.out.size))
    clear hal
    obtain ⟨g4, hg4⟩ : ∃ g, wn54.heap.size = g := ⟨_, rfl⟩
    rw [hg4] at O4 ⊢
    clear hg4
    have e9 : ([] : List Value).toArray = #[] := rfl
    rw [e9] at *
    clear e9
    generalize wn54.alloc (.cells #[] 130) = wn59 at *
    have NW := qH (RW.out.newsTo BB.out)
    refine rd1 3 (fun K hK => ?_)
    refine (step_pushV vtW rfl _ _ rfl rfl rfl O0.out NW.out.1 NW.out.2 (winsV_one _) (Nat.le_trans (Nat.le_of_eq HT.out.symm) BB.out.size) (by have := HNW.out; omega) ?_)
    intro v3 wn60 hown hk hv
    rw [Nat.zero_add, List.nil_append] at hown
    obtain ⟨A3, c3, rfl⟩ := own_slV hown
    have BK := hk.below BB.out BB.out.size (fun k hk => Nat.le_trans (Nat.le_of_eq HT.out) (O0.out.lt k hk).1)
    refine hK.out _ _ (SK.out _ BK) (fun hHeld => ?_)
    clear hK K
    simp only [pR]
    have O3 := qH hown
    replace O4 := qH (own_kv O4.out hk (fun b hb hh => own_ne O4.out O0.out (by decide) hb hh))
    replace Z3 := qH (Z3.out.kept hk (cpb_ne O0.out Z3.out (by decide)))
    replace BB := qH BK
    clear hown hk hv BK NW O0
    have NW := qH (RC.out.newsTo BB.out)
    refine rd1 7 (fun K hK => ?_)
    refine (step_pushV vtC rfl _ _ rfl rfl rfl O4.out NW.out.1 NW.out.2 (chsV_one _) (Nat.le_trans (Nat.le_of_eq HT.out.symm) BB.out.size) (by have := HNC.out; omega) ?_)
    intro v7 wn61 hown hk hv
    rw [Nat.zero_add, List.nil_append] at hown
    obtain ⟨A7, c7, rfl⟩ := own_slV hown
    have BK := hk.below BB.out BB.out.size (fun k hk => Nat.le_trans (Nat.le_of_eq HT.out) (O4.out.lt k hk).1)
    refine hK.out _ _ (SK.out _ BK) (fun hHeld => ?_)
    clear hK K
    simp only [pR]
    have O7 := qH hown
    replace O3 := qH (own_kv O3.out hk (fun b hb hh => own_ne O3.out O4.out (by decide) hb hh))
    replace Z3 := qH (Z3.out.kept hk (cpb_ne O4.out Z3.out (by decide)))
    replace BB := qH BK
    clear hown hk hv BK NW O4
    refine tk 8 ?_
    simp only [pR]
    have z0 := Z3.out.at (j := 0) rfl
    have z1 := Z3.out.at (j := 1) rfl
    have z2 := Z3.out.at (j := 2) rfl
    have f0 := Z3.out.fz 0
    have f1 := Z3.out.fz 1
    have f2 := Z3.out.fz 2
    have hK := Keep.sets (R := (· = g3)) rfl [.slice A3 v.nw c3, .slice none 0 0, .slice A7 v.nc c7] 0 (Keep.refl _ wn61)
    have BS := below_sets (Nat.le_trans (Nat.le_of_eq HT.out) HG3.out) [.slice A3 v.nw c3, .slice none 0 0, .slice A7 v.nc c7] 0 BB.out
    have N3 := cpb_ne O3.out Z3.out (by decide)
    have N7 := cpb_ne O7.out Z3.out (by decide)
    have P3 := Z3.out.sets [.slice A3 v.nw c3, .slice none 0 0, .slice A7 v.nc c7] rfl
    have O3' := own_kv O3.out hK (fun b hb hh => N3 (hh ▸ hb))
    have O7' := own_kv O7.out hK (fun b hb hh => N7 (hh ▸ hb))
    refine rd1 10 (fun K hK => ?_)
    go_simp
    refine hK.out _ _ (SK.out _ BS) (fun hHeld => ?_)
    clear hK K
    refine wpAnyH_done (by kernel_rfl) ?_ _
    exact REST.out g3 _ _ T c3 c7 A3 A7 _ (by have := B2.out.size; have := HT.out; omega) HG3.out P3 O3' O7' (B2.out.trans (BS.mono B2.out.size))
  ·skip
   go_simp
   refine hK.out _ _ (SK.out _ (BB.out.alloc BB.out.size (.cells #[] 130))) (fun hHeld => ?_)
   clear hK K
   have hal := (Below.refl wn53.heap.size wn53).alloc (Nat.le_refl _) (.cells #[] 130)
   have O4 := qH (own_nilV (B := T) (z := 5) (Bx.new wn53 130 []) (Nat.le_trans (Nat.le_of_eq HT.out.symm) BB.out.size))
   replace Z3 := qH (Z3.out.to hal)
   replace BB := qH (BB.out.trans (hal.mono BB.out.size))
   clear hal
   obtain ⟨g4, hg4⟩ : ∃ g, wn53.heap.size = g := ⟨_, rfl⟩
   rw [hg4] at O4 ⊢
   clear hg4
   have e9 : ([] : List Value).toArray = #[] := rfl
   rw [e9] at *
   clear e9
   generalize wn53.alloc (.cells #[] 130) = wn63 at *
   refine rd1 0 (fun K hK => ?_)
   go_simp
   refine hK.out _ _ (SK.out _ (BB.out.alloc BB.out.size (.cells #[] 82))) (fun hHeld => ?_)
   clear hK K
   have hal := (Below.refl wn63.heap.size wn63).alloc (Nat.le_refl _) (.cells #[] 82)
   have O0 := qH (own_nilV (B := T) (z := 2) (Bx.new wn63 82 []) (Nat.le_trans (Nat.le_of_eq HT.out.symm) BB.out.size))
   replace O4 := qH (own_bv O4.out hal)
   replace Z3 := qH (Z3.out.to hal)
   replace BB := qH (BB.out.trans (hal.mono BB.out.size))
   clear hal
   obtain ⟨g0, hg0⟩ : ∃ g, wn63.heap.size = g := ⟨_, rfl⟩
   rw [hg0] at O0 ⊢
   clear hg0
   have e9 : ([] : List Value).toArray = #[] := rfl
   rw [e9] at *
   clear e9
   generalize wn63.alloc (.cells #[] 82) = wn64 at *
   have NW := qH (RW.out.newsTo BB.out)
   refine rd1 3 (fun K hK => ?_)
   refine (step_pushV vtW rfl _ _ rfl rfl rfl O0.out NW.out.1 NW.out.2 (winsV_one _) (Nat.le_trans (Nat.le_of_eq HT.out.symm) BB.out.size) (by have := HNW.out; omega) ?_)
   intro v3 wn65 hown hk hv
   rw [Nat.zero_add, List.nil_append] at hown
   obtain ⟨A3, c3, rfl⟩ := own_slV hown
   have BK := hk.below BB.out BB.out.size (fun k hk => Nat.le_trans (Nat.le_of_eq HT.out) (O0.out.lt k hk).1)
   refine hK.out _ _ (SK.out _ BK) (fun hHeld => ?_)
   clear hK K
   simp only [pR]
   have O3 := qH hown
   replace O4 := qH (own_kv O4.out hk (fun b hb hh => own_ne O4.out O0.out (by decide) hb hh))
   replace Z3 := qH (Z3.out.kept hk (cpb_ne O0.out Z3.out (by decide)))
   replace BB := qH BK
   clear hown hk hv BK NW O0
   have NW := qH (RC.out.newsTo BB.out)
   refine rd1 7 (fun K hK => ?_)
   refine (step_pushV vtC rfl _ _ rfl rfl rfl O4.out NW.out.1 NW.out.2 (chsV_one _) (Nat.le_trans (Nat.le_of_eq HT.out.symm) BB.out.size) (by have := HNC.out; omega) ?_)
   intro v7 wn66 hown hk hv
   rw [Nat.zero_add, List.nil_append] at hown
   obtain ⟨A7, c7, rfl⟩ := own_slV hown
   have BK := hk.below BB.out BB.out.size (fun k hk => Nat.le_trans (Nat.le_of_eq HT.out) (O4.out.lt k hk).1)
   refine hK.out _ _ (SK.out _ BK) (fun hHeld => ?_)
   clear hK K
   simp only [pR]
   have O7 := qH hown
   replace O3 := qH (own_kv O3.out hk (fun b hb hh => own_ne O3.out O4.out (by decide) hb hh))
   replace Z3 := qH (Z3.out.kept hk (cpb_ne O4.out Z3.out (by decide)))
   replace BB := qH BK
   clear hown hk hv BK NW O4
   refine tk 8 ?_
   simp only [pR]
   have z0 := Z3.out.at (j := 0) rfl
   have z1 := Z3.out.at (j := 1) rfl
   have z2 := Z3.out.at (j := 2) rfl
   have f0 := Z3.out.fz 0
   have f1 := Z3.out.fz 1
   have f2 := Z3.out.fz 2
   have hK := Keep.sets (R := (· = g3)) rfl [.slice A3 v.nw c3, .slice none 0 0, .slice A7 v.nc c7] 0 (Keep.refl _ wn66)
   have BS := below_sets (Nat.le_trans (Nat.le_of_eq HT.out) HG3.out) [.slice A3 v.nw c3, .slice none 0 0, .slice A7 v.nc c7] 0 BB.out
   have N3 := cpb_ne O3.out Z3.out (by decide)
   have N7 := cpb_ne O7.out Z3.out (by decide)
   have P3 := Z3.out.sets [.slice A3 v.nw c3, .slice none 0 0, .slice A7 v.nc c7] rfl
   have O3' := own_kv O3.out hK (fun b hb hh => N3 (hh ▸ hb))
   have O7' := own_kv O7.out hK (fun b hb hh => N7 (hh ▸ hb))
   refine rd1 10 (fun K hK => ?_)
   go_simp
   refine hK.out _ _ (SK.out _ BS) (fun hHeld => ?_)
   clear hK K
   refine wpAnyH_done (by kernel_rfl) ?_ _
   exact REST.out g3 _ _ T c3 c7 A3 A7 _ (by have := B2.out.size; have := HT.out; omega) HG3.out P3 O3' O7' (B2.out.trans (BS.mono B2.out.size))
end
end Go.Proofs.YtlmdidblgeeplaaGreatDoor