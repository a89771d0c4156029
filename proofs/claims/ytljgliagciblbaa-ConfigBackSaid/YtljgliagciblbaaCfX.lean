/- The document's Parse while it reads: its reader, the configuration's box, the three rows (PSt); what each step makes of it. -/
import Derived.Test.YtljgliagciblbaaCfW
import Derived.Test.YtljgliagciblbaaCfP
import Derived.Test.YtljgliagciblbaaBx
namespace Go.Proofs.Ytljgliagciblbaa
open Go.RowKit
set_option linter.unusedVariables false
set_option linter.unusedSimpArgs false

theorem vtB : VT Try.prog 29 5 1 1 (.int .u8 0) := ⟨Try.underlying29, by kernel_rfl, rfl, by decide⟩
theorem bytes_one (bs : List UInt8) : ∀ u ∈ bs.map bval, u.oneCell' = true := by
  intro u hu
  obtain ⟨x, _, rfl⟩ := List.mem_map.1 hu
  rfl
theorem Rd.news {w : World} {B n : Nat} {A : Option Addr} {bs : List UInt8} (h : Rd w B A n bs) : (bs.map bval).length = n * 1 ∧ (0 < n → ∃ ad, A = some ad ∧ ∀ j u, (bs.map bval)[j]? = some u → w.cell? (ad.add j) = some u) := by
  refine ⟨by simp [h.1], fun hn => ?_⟩
  obtain ⟨b, o, e, _, hc⟩ := h.2 hn
  refine ⟨_, e, fun j u hu => ?_⟩
  rw [List.getElem?_map] at hu
  have hj : j < bs.length := by
    rcases Nat.lt_or_ge j bs.length with g | g
    · exact g
    · rw [List.getElem?_eq_none g] at hu; cases hu
  rw [List.getElem?_eq_getElem hj] at hu
  simp only [Option.map_some, Option.some.injEq] at hu
  rw [cell_none, hc j (by rw [← h.1]; exact hj), ← hu]
  simp [bval, nth, List.getD, List.getElem?_eq_getElem hj]
theorem own_ne {w : World} {B B' z z' : Nat} {T T' : TypeId} {v v' : Value} {n n' : Nat} {xs xs' : List Value} (h : w.ownsRow B T z v n xs) (h' : w.ownsRow B' T' z' v' n' xs') (hT : T ≠ T') {b : Nat} (e : v.ownBlock = some b) : v'.ownBlock ≠ some b := by
  intro e'
  rcases h.2 with ⟨rfl, _⟩ | ⟨g, cap, cur, rfl, _, hh, _⟩
  · cases e
  rcases h'.2 with ⟨rfl, _⟩ | ⟨g', cap', cur', rfl, _, hh', _⟩
  · cases e'
  simp only [Value.ownBlock, Option.some.injEq] at e e'
  subst e; subst e'
  rw [hh] at hh'
  injection hh' with hh'
  injection hh' with _ hh'
  exact hT hh'
def fld3 (vw vp vc : Value) : List Value := [vw, vp, vc]
structure PSt (w0 : World) (T gr g : Nat) (gb : Option Nat) (w : World) (s : RS) (vw vp vc : Value) (lw : List Reg) (lp : List QP) (lc : List Ch) : Prop where
  ref : RefAt w gr gb s
  box : Bx w g 26 (fld3 vw vp vc)
  ow : w.ownsRow T 62 2 vw lw.length (winsV lw)
  op : OwnP w T vp lp
  oc : w.ownsRow T 50 5 vc lc.length (chsV lc)
  offc : ∀ q ∈ lp, ∀ b, vc.ownBlock = some b → Off q.A q.m (· = b)
  bel : Below w0.heap.size w0 w
  tw : T ≤ w.heap.size
  gt : g < T
  grt : gr < T
  gbt : ∀ b, gb = some b → b < T ∧ b ≠ g
  ne : g ≠ gr
  g0 : w0.heap.size ≤ g
  gr0 : w0.heap.size ≤ gr
section
variable {w0 : World} {T gr g : Nat} {gb : Option Nat} {w : World} {s : RS} {vw vp vc : Value} {lw : List Reg} {lp : List QP} {lc : List Ch}
theorem PSt.step {w' : World} {s' : RS} (h : PSt w0 T gr g gb w s vw vp vc lw lp lc) (hk : Keep (fun k => k = gr ∨ w.heap.size ≤ k) w w') (hr : RefAt w' gr gb s') : PSt w0 T gr g gb w' s' vw vp vc lw lp lc := by
  have hR : ∀ k, (fun k => k = gr ∨ w.heap.size ≤ k) k → k < T ∨ w.heap.size ≤ k := fun k hk => by rcases hk with rfl | hk; exact .inl h.grt; exact .inr hk
  refine ⟨hr, h.box.kept hk (fun hh => ?_), own_tv h.ow hk hR, h.op.to hk hR, own_tv h.oc hk hR, h.offc, hk.below h.bel h.bel.size (fun k hh => ?_), Nat.le_trans h.tw hk.size, h.gt, h.grt, h.gbt, h.ne, h.g0, h.gr0⟩
  · rcases hh with hh | hh
    · exact h.ne hh
    · have := h.box.lt; omega
  · have := h.gr0
    have := h.bel.size
    rcases hh with hh | hh <;> omega
theorem PSt.read {w' : World} {s' : RS} (h : PSt w0 T gr g gb w s vw vp vc lw lp lc) (hk : Keep (· = gr) w w') (hr : RefAt w' gr gb s') : PSt w0 T gr g gb w' s' vw vp vc lw lp lc := h.step (hk.more fun k hk => .inl hk) hr
theorem PSt.refKept {R : Nat → Prop} {w' : World} (h : PSt w0 T gr g gb w s vw vp vc lw lp lc) (hk : Keep R w w') (hR : ∀ k, R k → T ≤ k ∨ k = g) : RefAt w' gr gb s :=
  h.ref.kept hk (fun hh => by have := hR _ hh; have := h.grt; have := h.ne; omega) (fun b hb hh => by have := hR _ hh; have := h.gbt b hb; omega)
theorem PSt.putW {w1 : World} {v' : Value} {r : Reg} (h : PSt w0 T gr g gb w s vw vp vc lw [] lc) (hown : w1.ownsRow T 62 2 v' (lw.length + 1) (winsV lw ++ regL r)) (hk : Keep (fun k => vw.ownBlock = some k) w w1) :
    PSt w0 T gr g gb (w1.setCell ⟨g, 0, none⟩ v') s v' vp vc (lw ++ [r]) [] lc := by
  have hT : ∀ k, vw.ownBlock = some k → T ≤ k := fun k hk => (h.ow.lt k hk).1
  have hk2 : Keep (fun k => vw.ownBlock = some k ∨ k = g) w (w1.setCell ⟨g, 0, none⟩ v') := (hk.more fun k hk => .inl hk).setCell _ _ (.inr rfl)
  have hs : Keep (· = g) w1 (w1.setCell ⟨g, 0, none⟩ v') := (Keep.refl _ _).setCell _ _ rfl
  have hgt := h.gt
  refine ⟨h.refKept hk2 (fun k hk => by rcases hk with hk | hk; exact .inl (hT k hk); exact .inr hk), ?_, ?_, ?_, ?_, fun _ hq => absurd hq List.not_mem_nil, hk2.below h.bel h.bel.size (fun k hh => ?_), Nat.le_trans h.tw hk2.size, h.gt, h.grt, h.gbt, h.ne, h.g0, h.gr0⟩
  · exact (h.box.kept hk (fun hh => by have := hT _ hh; omega)).set 0 v'
  · rw [List.length_append, winsV_app, show winsV [r] = regL r from List.append_nil _]
    exact own_tv hown hs (fun k hk => .inl (by rw [hk]; exact h.gt))
  · refine h.op.kept hk2 (fun b hb hh => ?_) (fun q hq => absurd hq List.not_mem_nil)
    rcases hh with hh | hh
    · exact own_ne h.op.row h.ow (by decide) hb hh
    · have := (h.op.row.lt b hb).1; omega
  · refine own_kv h.oc hk2 (fun b hb hh => ?_)
    rcases hh with hh | hh
    · exact own_ne h.oc h.ow (by decide) hb hh
    · have := (h.oc.lt b hb).1; omega
  · have := h.g0
    rcases hh with hh | hh
    · have := hT k hh; omega
    · omega
theorem PSt.putP {w1 : World} {v' : Value} {q : QP} (h : PSt w0 T gr g gb w s vw vp (.slice none 0 0) lw lp []) (hq : Img w T q) (hqo : ∀ b, vp.ownBlock = some b → Off q.A q.m (· = b)) (hown : w1.ownsRow T 46 5 v' (lp.length + 1) (partsV lp ++ q.cells)) (hk : Keep (fun k => vp.ownBlock = some k) w w1)
    (hv : ∀ b, v'.ownBlock = some b → vp.ownBlock = some b ∨ w.heap.size ≤ b) : PSt w0 T gr g gb (w1.setCell ⟨g, 1, none⟩ v') s vw v' (.slice none 0 0) lw (lp ++ [q]) [] := by
  have hT : ∀ k, vp.ownBlock = some k → T ≤ k := fun k hk => (h.op.row.lt k hk).1
  have hk2 : Keep (fun k => vp.ownBlock = some k ∨ k = g) w (w1.setCell ⟨g, 1, none⟩ v') := (hk.more fun k hk => .inl hk).setCell _ _ (.inr rfl)
  have hs : Keep (· = g) w1 (w1.setCell ⟨g, 1, none⟩ v') := (Keep.refl _ _).setCell _ _ rfl
  have hgt := h.gt
  refine ⟨h.refKept hk2 (fun k hk => by rcases hk with hk | hk; exact .inl (hT k hk); exact .inr hk), ?_, ?_, ?_, ?_, fun _ _ b hb => (by cases hb), hk2.below h.bel h.bel.size (fun k hh => ?_), Nat.le_trans h.tw hk2.size, h.gt, h.grt, h.gbt, h.ne, h.g0, h.gr0⟩
  · exact (h.box.kept hk (fun hh => by have := hT _ hh; omega)).set 1 v'
  · refine own_kv h.ow hk2 (fun b hb hh => ?_)
    rcases hh with hh | hh
    · exact own_ne h.ow h.op.row (by decide) hb hh
    · have := (h.ow.lt b hb).1; omega
  · exact (h.op.push hq hqo hown hk hv).to hs (fun k hk => .inl (by rw [hk]; exact h.gt))
  · exact World.ownsRow_nil _ _ _ _
  · have := h.g0
    rcases hh with hh | hh
    · have := hT k hh; omega
    · omega
theorem PSt.putC {w1 : World} {v' : Value} {r : Ch} (h : PSt w0 T gr g gb w s vw vp vc lw lp lc) (hown : w1.ownsRow T 50 5 v' (lc.length + 1) (chsV lc ++ chL r)) (hk : Keep (fun k => vc.ownBlock = some k) w w1)
    (hv : ∀ b, v'.ownBlock = some b → vc.ownBlock = some b ∨ w.heap.size ≤ b) : PSt w0 T gr g gb (w1.setCell ⟨g, 2, none⟩ v') s vw vp v' lw lp (lc ++ [r]) := by
  have hT : ∀ k, vc.ownBlock = some k → T ≤ k := fun k hk => (h.oc.lt k hk).1
  have hk2 : Keep (fun k => vc.ownBlock = some k ∨ k = g) w (w1.setCell ⟨g, 2, none⟩ v') := (hk.more fun k hk => .inl hk).setCell _ _ (.inr rfl)
  have hs : Keep (· = g) w1 (w1.setCell ⟨g, 2, none⟩ v') := (Keep.refl _ _).setCell _ _ rfl
  have hgt := h.gt
  refine ⟨h.refKept hk2 (fun k hk => by rcases hk with hk | hk; exact .inl (hT k hk); exact .inr hk), ?_, ?_, ?_, ?_, fun q hq b hb => ?_, hk2.below h.bel h.bel.size (fun k hh => ?_), Nat.le_trans h.tw hk2.size, h.gt, h.grt, h.gbt, h.ne, h.g0, h.gr0⟩
  · exact (h.box.kept hk (fun hh => by have := hT _ hh; omega)).set 2 v'
  · refine own_kv h.ow hk2 (fun b hb hh => ?_)
    rcases hh with hh | hh
    · exact own_ne h.ow h.oc (by decide) hb hh
    · have := (h.ow.lt b hb).1; omega
  · refine h.op.kept hk2 (fun b hb hh => ?_) (fun q hq hn b o e hh => ?_)
    · rcases hh with hh | hh
      · exact own_ne h.op.row h.oc (by decide) hb hh
      · have := (h.op.row.lt b hb).1; omega
    · rcases hh with hh | hh
      · exact h.offc q hq b hh hn b o e rfl
      · obtain ⟨b', o', e', hB, _⟩ := (h.op.img q hq).own.2 hn
        rw [e] at e'
        injection e' with e'; injection e' with e1 _
        omega
  · rw [List.length_append, chsV_app, show chsV [r] = chL r from List.append_nil _]
    exact own_tv hown hs (fun k hk => .inl (by rw [hk]; exact h.gt))
  · rcases hv b hb with hb | hb
    · exact h.offc q hq b hb
    · exact (h.op.img q hq).off_lt (fun k hk => .inr (by omega))
  · have := h.g0
    rcases hh with hh | hh
    · have := hT k hh; omega
    · omega
/-- What was read is a configuration. -/
theorem PSt.rd (h : PSt w0 T gr g gb w s vw vp vc lw lp lc) : ∃ v : CV, vw = .slice v.aw v.nw v.kw ∧ vp = .slice v.ap v.np v.kp ∧ vc = .slice v.ac v.nc v.kc ∧ v.nw = lw.length ∧ v.np = lp.length ∧ v.nc = lc.length ∧ OwCf w T v ⟨lw, lp.map QP.p, lc⟩ := by
  obtain ⟨aw, kw, rfl⟩ := own_slV h.ow
  obtain ⟨ap, kp, rfl⟩ := own_slV h.op.row
  obtain ⟨ac, kc, rfl⟩ := own_slV h.oc
  exact ⟨⟨aw, lw.length, kw, ap, lp.length, kp, ac, lc.length, kc⟩, rfl, rfl, rfl, rfl, rfl, rfl, OwCf.of_rows h.ow h.op rfl h.oc⟩
end

theorem PSt.out {w0 : World} {T gr g : Nat} {gb : Option Nat} {w w' : World} {s : RS} {lw : List Reg} {lp : List QP} {lc : List Ch} {v : CV} {R : Nat → Prop} (h : PSt w0 T gr g gb w s (.slice v.aw v.nw v.kw) (.slice v.ap v.np v.kp) (.slice v.ac v.nc v.kc) lw lp lc) (hk : Keep R w w') (hR : ∀ k, R k → k < T ∨ w.heap.size ≤ k) :
    OwCf w' T v ⟨lw, lp.map QP.p, lc⟩ := by
  have h1 := own_tv h.ow hk hR
  have h3 := own_tv h.oc hk hR
  rw [(own_capV h1).1] at h1
  rw [(own_capV h3).1] at h3
  exact OwCf.of_rows h1 (h.op.to hk hR) rfl h3
/-- Three values stored into a configuration's block, and what is handed back. -/
theorem res_cf {fn : Func} {p q : Tmp} (h : fn.results = #[.cell p 26, .tmp q]) (tmps : Array Value) (w : World) (g : Nat) (a b c u : Value) (hp : tmps.getD p undef = .pointer (some ⟨g, 0, none⟩)) (hq : tmps.getD q undef = u) (hx : Bx w g 26 (fld3 a b c)) :
    (results fn tmps).run Try.prog w = .ok (.tuple #[.agg #[a, b, c], u]) w := by
  have hp' : tmps[p]?.getD undef = .pointer (some ⟨g, 0, none⟩) := by simpa using hp
  have hq' : tmps[q]?.getD undef = u := by simpa using hq
  have c0 := hx.at (j := 0) rfl
  have c1 := hx.at (j := 1) rfl
  have c2 := hx.at (j := 2) rfl
  simp [results, h, hp', hq', asAddr]
  go_simp
  try rfl
def cfOut (bs : List UInt8) : Cf := if okC bs = true then gotC bs else ⟨[], [], []⟩
def cfErr (bs : List UInt8) : Int := if okC bs = true then 0 else 110
theorem cfOut_yes {bs : List UInt8} (h : okC bs = true) : cfOut bs = gotC bs ∧ cfErr bs = 0 := by unfold cfOut cfErr; rw [if_pos h, if_pos h]; exact ⟨rfl, rfl⟩
theorem cfOut_no {bs : List UInt8} (h : okC bs = false) : cfOut bs = ⟨[], [], []⟩ ∧ cfErr bs = 110 := by unfold cfOut cfErr; rw [h]; exact ⟨rfl, rfl⟩
theorem rdCf_nil (w : World) (B : Nat) : RdCf w B ⟨none, 0, 0, none, 0, 0, none, 0, 0⟩ ⟨[], [], []⟩ := ⟨RdG.nil _ _ _, RdP.nil _ _ _, ⟨rfl, fun h => absurd h (Nat.lt_irrefl 0)⟩, Nat.le_refl _, Nat.le_refl _, Nat.le_refl _⟩
theorem sp_nil (w : World) (B : Nat) : Sp w B ⟨none, 0, 0, none, 0, 0, none, 0, 0⟩ := ⟨fun h => absurd h (Nat.lt_irrefl 0), fun h => absurd h (Nat.lt_irrefl 0), fun h => absurd h (Nat.lt_irrefl 0)⟩
end Go.Proofs.Ytljgliagciblbaa
