/- The program's config: copied, Part, Channel. -/
import Derived.Test.YtljgliagciblbaaCfA
namespace Go.Proofs.Ytljgliagciblbaa
open Go.RowKit
set_option linter.unusedVariables false
set_option linter.unusedSimpArgs false

theorem findP_idx (l : List Pt) (id : Int) : findP l id = idxB (fun k => (ptAt l k).id == id) l.length := by
  rcases idxB_cases (fun k => (ptAt l k).id == id) l.length with ⟨k, hk, hb, hp, e⟩ | ⟨hn, e⟩
  · rw [e]
    exact findP_at hk (fun j hj => by simpa using hb j hj) (by simpa using hp)
  · rw [e]
    exact findP_none (fun j hj => by simpa using hn j hj)
theorem findC_idx (l : List Ch) (id : Int) : findC l id = idxB (fun k => (chAt l k).id == id) l.length := by
  rcases idxB_cases (fun k => (chAt l k).id == id) l.length with ⟨k, hk, hb, hp, e⟩ | ⟨hn, e⟩
  · rw [e]
    exact findC_at hk (fun j hj => by simpa using hb j hj) (by simpa using hp)
  · rw [e]
    exact findC_none (fun j hj => by simpa using hn j hj)
theorem res_pt {fn : Func} {p : Tmp} (h : fn.results = #[.cell p 46]) (tmps : Array Value) (w : World) (g : Nat) (a b c d e : Value) (hp : tmps.getD p undef = .pointer (some ⟨g, 0, none⟩)) (hx : Bx w g 46 [a, b, c, d, e]) :
    (results fn tmps).run Try.prog w = .ok (.agg #[a, b, c, d, e]) w := by
  have hp' : tmps[p]?.getD undef = .pointer (some ⟨g, 0, none⟩) := by simpa using hp
  have c0 := hx.at (j := 0) rfl
  have c1 := hx.at (j := 1) rfl
  have c2 := hx.at (j := 2) rfl
  have c3 := hx.at (j := 3) rfl
  have c4 := hx.at (j := 4) rfl
  simp [results, h, hp', asAddr]
  go_simp
  try rfl
theorem res_ptB {fn : Func} {p q : Tmp} (h : fn.results = #[.cell p 46, .tmp q]) (tmps : Array Value) (w : World) (g : Nat) (a b c d e u : Value) (hp : tmps.getD p undef = .pointer (some ⟨g, 0, none⟩)) (hq : tmps.getD q undef = u) (hx : Bx w g 46 [a, b, c, d, e]) :
    (results fn tmps).run Try.prog w = .ok (.tuple #[.agg #[a, b, c, d, e], u]) w := by
  have hp' : tmps[p]?.getD undef = .pointer (some ⟨g, 0, none⟩) := by simpa using hp
  have hq' : tmps[q]?.getD undef = u := by simpa using hq
  have c0 := hx.at (j := 0) rfl
  have c1 := hx.at (j := 1) rfl
  have c2 := hx.at (j := 2) rfl
  have c3 := hx.at (j := 3) rfl
  have c4 := hx.at (j := 4) rfl
  simp [results, h, hp', hq', asAddr]
  go_simp
  try rfl
theorem res_chB {fn : Func} {p q : Tmp} (h : fn.results = #[.cell p 50, .tmp q]) (tmps : Array Value) (w : World) (g : Nat) (a b c d e u : Value) (hp : tmps.getD p undef = .pointer (some ⟨g, 0, none⟩)) (hq : tmps.getD q undef = u) (hx : Bx w g 50 [a, b, c, d, e]) :
    (results fn tmps).run Try.prog w = .ok (.tuple #[.agg #[a, b, c, d, e], u]) w := by
  have hp' : tmps[p]?.getD undef = .pointer (some ⟨g, 0, none⟩) := by simpa using hp
  have hq' : tmps[q]?.getD undef = u := by simpa using hq
  have c0 := hx.at (j := 0) rfl
  have c1 := hx.at (j := 1) rfl
  have c2 := hx.at (j := 2) rfl
  have c3 := hx.at (j := 3) rfl
  have c4 := hx.at (j := 4) rfl
  simp [results, h, hp', hq', asAddr]
  go_simp
  try rfl
/-- A partition of the callee's making, and what else is handed back. -/
def RetPt (w : World) (p : Pt) (f : Value → Value) (x : Ending) (w' : World) : Prop :=
  ∃ A m c, x = .returned (f (.agg #[.int .i64 p.id, .int .i64 p.base, .int .i64 p.size, .bool p.keep, .slice A m c])) ∧ OwR w' w.heap.size A m p.img ∧ m ≤ c ∧ c ≤ 9223372036854775807 ∧ Below w.heap.size w w'
set_option maxRecDepth 1000000 in
set_option maxHeartbeats 1000000 in
theorem wCopied (p : Pt) (A : Option Addr) (m c : Nat) (w : World) (h : Rd w w.heap.size A m p.img) (hm : m ≤ 140737488355328) :
    Calls Try.prog 63 #[.agg #[.int .i64 p.id, .int .i64 p.base, .int .i64 p.size, .bool p.keep, .slice A m c]] w (RetPt w p id) := by
  obtain ⟨i, b, s, k, im⟩ := p
  have B1 := (Below.refl w.heap.size w).alloc (Nat.le_refl _) (.cells #[.int .i64 i, .int .i64 b, .int .i64 s, .bool k, .slice A m c] 46)
  have P1 : Bx (w.alloc (.cells #[.int .i64 i, .int .i64 b, .int .i64 s, .bool k, .slice A m c] 46)) w.heap.size 46 [.int .i64 i, .int .i64 b, .int .i64 s, .bool k, .slice A m c] := Bx.new w _ [.int .i64 i, .int .i64 b, .int .i64 s, .bool k, .slice A m c]
  generalize hw1 : (w.alloc (.cells #[.int .i64 i, .int .i64 b, .int .i64 s, .bool k, .slice A m c] 46)) = w1 at *
  have S1 : w1.heap.size = w.heap.size + 1 := by rw [← hw1]; simp
  have B2 := B1.alloc B1.size (.cells #[.int .i64 0, .int .i64 0, .int .i64 0, .bool false, .slice none 0 0] 46)
  have P2 : Bx (w1.alloc (.cells #[.int .i64 0, .int .i64 0, .int .i64 0, .bool false, .slice none 0 0] 46)) w1.heap.size 46 [.int .i64 0, .int .i64 0, .int .i64 0, .bool false, .slice none 0 0] := Bx.new w1 _ [.int .i64 0, .int .i64 0, .int .i64 0, .bool false, .slice none 0 0]
  have P12 := P1.to ((Below.refl _ _).alloc (Nat.le_refl _) (.cells #[.int .i64 0, .int .i64 0, .int .i64 0, .bool false, .slice none 0 0] 46))
  rw [S1] at P2
  have S2 : Hid ((w1.alloc (.cells #[.int .i64 0, .int .i64 0, .int .i64 0, .bool false, .slice none 0 0] 46)).heap.size = w.heap.size + 2) := by (show _ = _); simp [S1]
  have P := Lib.hid P12
  have X := Lib.hid P2
  have R := Lib.hid (h.to B2)
  have BW := Lib.hid B2
  have HW1 := Lib.hid hw1
  have HM := Lib.hid hm
  clear h hm B1 P1 S1 B2 P2 P12 hw1
  go_enter Try.func63, Try.ntmps63
  go_upto_region 1 with (fail)
  rw [HW1.out]
  generalize (w1.alloc (.cells #[.int .i64 0, .int .i64 0, .int .i64 0, .bool false, .slice none 0 0] 46)) = w2 at *
  clear HW1
  have x4 := P.out.at (j := 4) rfl
  go_wp2_with fail
  refine (bClone A m c im w2 R.out HM.out).mono ?_
  rintro e w3 ⟨A3, m3, c3, rfl, ho, hc1, hc2, hb⟩
  have O := Lib.hid ho
  have HC1 := Lib.hid hc1
  have HC2 := Lib.hid hc2
  replace P := Lib.hid (P.out.to hb)
  replace X := Lib.hid (X.out.to hb)
  replace HSZ := Lib.hid BW.out.size
  replace BW := Lib.hid (BW.out.trans (hb.mono BW.out.size))
  have y4 := P.out.at (j := 4) rfl
  have f4 := P.out.fz 4
  clear hb ho hc1 hc2 x4
  go_upto_region 2 with (fail)
  have Q := Lib.hid (P.out.set 4 (.slice A3 m3 c3))
  have XQ := Lib.hid (X.out.other ⟨w.heap.size, 4, none⟩ (.slice A3 m3 c3) (by simp))
  have BQ := Lib.hid (BW.out.setCell (p := ⟨w.heap.size, 4, none⟩) (Nat.le_refl _) (.slice A3 m3 c3))
  have OQ := Lib.hid (O.out.kept (R := (· = w.heap.size)) ((Keep.refl _ w3).setCell ⟨w.heap.size, 4, none⟩ (.slice A3 m3 c3) rfl) (O.out.off (fun k hk => by have := S2.out; omega)))
  generalize w3.setCell ⟨w.heap.size, 4, none⟩ (.slice A3 m3 c3) = w4 at *
  clear P X BW O y4 f4
  have q0 := Q.out.at (j := 0) rfl
  have q1 := Q.out.at (j := 1) rfl
  have q2 := Q.out.at (j := 2) rfl
  have q3 := Q.out.at (j := 3) rfl
  have q4 := Q.out.at (j := 4) rfl
  have z0 := XQ.out.at (j := 0) rfl
  have z1 := XQ.out.at (j := 1) rfl
  have z2 := XQ.out.at (j := 2) rfl
  have z3 := XQ.out.at (j := 3) rfl
  have z4 := XQ.out.at (j := 4) rfl
  have f0 := XQ.out.fz 0
  have f1 := XQ.out.fz 1
  have f2 := XQ.out.fz 2
  have f3 := XQ.out.fz 3
  have f4 := XQ.out.fz 4
  go_wp2_with fail
  change bodyPost _ _ _ _ _ (setsC w4 (w.heap.size + 1) 0 [.int .i64 i, .int .i64 b, .int .i64 s, .bool k, .slice A3 m3 c3])
  have P9 := XQ.out.sets [.int .i64 i, .int .i64 b, .int .i64 s, .bool k, .slice A3 m3 c3] rfl
  have B9 := below_sets (Nat.le_succ w.heap.size) [.int .i64 i, .int .i64 b, .int .i64 s, .bool k, .slice A3 m3 c3] 0 BQ.out
  have O9 := OQ.out.kept (Keep.sets (R := (· = w.heap.size + 1)) rfl [.int .i64 i, .int .i64 b, .int .i64 s, .bool k, .slice A3 m3 c3] 0 (Keep.refl _ w4)) (OQ.out.off (fun k hk => by have := S2.out; omega))
  generalize setsC w4 (w.heap.size + 1) 0 [.int .i64 i, .int .i64 b, .int .i64 s, .bool k, .slice A3 m3 c3] = w9 at *
  obtain rfl : m3 = im.length := O9.1.1.symm
  refine bodyPost_ret (res_pt rfl _ _ (w.heap.size + 1) _ _ _ _ _ rfl P9) rfl ?_
  exact ⟨A3, im.length, c3, rfl, O9.mono (by have := S2.out; omega), HC1.out, HC2.out, B9⟩
/-- What Part, Channel find. -/
def partV (c : Cf) (id : Int) : Pt := if 0 ≤ findP c.ps id then ptAt c.ps (findP c.ps id).toNat else Pt.zero
def chanV (c : Cf) (id : Int) : Ch := if 0 ≤ findC c.cs id then chAt c.cs (findC c.cs id).toNat else Ch.zero
def cfL (v : CV) : List Value := [.slice v.aw v.nw v.kw, .slice v.ap v.np v.kp, .slice v.ac v.nc v.kc]
/-- Three boxes: a configuration, a number, a value to hand back. -/
theorem three_boxes (v : CV) (id : Int) (w : World) (T : TypeId) (cs : List Value) : ∃ w3, ((w.alloc (.cells #[.slice v.aw v.nw v.kw, .slice v.ap v.np v.kp, .slice v.ac v.nc v.kc] 26)).alloc (.cells #[.int .i64 id] 3)).alloc (.cells cs.toArray T) = w3 ∧
    Below w.heap.size w w3 ∧ Bx w3 w.heap.size 26 (cfL v) ∧ Bx w3 (w.heap.size + 1) 3 [.int .i64 id] ∧ Bx w3 (w.heap.size + 1 + 1) T cs ∧ w3.heap.size = w.heap.size + 3 := by
  refine ⟨_, rfl, ?_, ?_, ?_, ?_, by simp⟩
  · exact ((((Below.refl w.heap.size w).alloc (Nat.le_refl _) _).alloc (by simp) _).alloc (by simp; omega) _)
  · have h := Bx.new w 26 (cfL v)
    exact ((h.to ((Below.refl _ _).alloc (Nat.le_refl _) _)).to ((Below.refl _ _).alloc (Nat.le_refl _) _))
  · have h := Bx.new (w.alloc (.cells #[.slice v.aw v.nw v.kw, .slice v.ap v.np v.kp, .slice v.ac v.nc v.kc] 26)) 3 [.int .i64 id]
    have := h.to ((Below.refl _ _).alloc (Nat.le_refl _) (.cells cs.toArray T))
    simpa using this
  · have h := Bx.new ((w.alloc (.cells #[.slice v.aw v.nw v.kw, .slice v.ap v.np v.kp, .slice v.ac v.nc v.kc] 26)).alloc (.cells #[.int .i64 id] 3)) T cs
    simpa using h
set_option maxRecDepth 1000000 in
set_option maxHeartbeats 1000000 in
theorem wPart (v : CV) (c : Cf) (id : Int) (w : World) (h : RdCf w w.heap.size v c) (hp : v.np ≤ 1000) :
    Calls Try.prog 20 #[.agg #[.slice v.aw v.nw v.kw, .slice v.ap v.np v.kp, .slice v.ac v.nc v.kc], .int .i64 id] w (RetPt w (partV c id) (fun x => .tuple #[x, .bool (decide (0 ≤ findP c.ps id))])) := by
  obtain ⟨w3, hw3, hb3, hx, hi, hr, hs3⟩ := three_boxes v id w 46 [.int .i64 0, .int .i64 0, .int .i64 0, .bool false, .slice none 0 0]
  have R := Lib.hid (h.to hb3)
  have X := Lib.hid hx
  have I := Lib.hid hi
  have Z := Lib.hid hr
  have S3 := Lib.hid hs3
  have BW := Lib.hid hb3
  have HW := Lib.hid hw3
  have HN := Lib.hid hp
  have LP : Hid (c.ps.length = v.np) := h.pp.1
  have eg : ∀ args w, (callFunc 62 args).run Try.prog w = .ok (.enter 62 args) w := enter_of Try.func62 (by kernel_rfl) rfl
  have EG := Lib.hid eg
  clear h hp eg hw3 hb3 hx hi hr hs3
  go_enter Try.func20, Try.ntmps20
  go_upto_region 1 with (fail)
  rw [show ((w.alloc (.cells #[.slice v.aw v.nw v.kw, .slice v.ap v.np v.kp, .slice v.ac v.nc v.kc] 26)).alloc (.cells #[.int .i64 id] 3)).alloc (.cells #[.int .i64 0, .int .i64 0, .int .i64 0, .bool false, .slice none 0 0] 46) = w3 from HW.out]
  clear HW
  have x1 := X.out.at (j := 1) rfl
  go_wp2_with fail
  refine (wIndexP _ _ EG.out _ v.ap v.np v.kp c.ps w3 (pPart w3 v.np (w.heap.size + 1) c.ps id (I.out.at (j := 0) rfl)) R.out.pp HN.out).mono ?_
  rintro e w4 ⟨rfl, hb4⟩
  have HF : Hid (idxB (fun k => (ptAt c.ps k).id == id) v.np = findP c.ps id) := by (show _ = _); rw [findP_idx, LP.out]
  rw [HF.out]
  replace R := Lib.hid (R.out.to hb4)
  replace X := Lib.hid (X.out.to hb4)
  replace Z := Lib.hid (Z.out.to hb4)
  have HS4 : Hid (w.heap.size + 3 ≤ w4.heap.size) := by (show _ ≤ _); rw [← S3.out]; exact hb4.size
  replace BW := Lib.hid (BW.out.trans (hb4.mono BW.out.size))
  clear hb4 x1 I
  have z0 := Z.out.at (j := 0) rfl
  have z1 := Z.out.at (j := 1) rfl
  have z2 := Z.out.at (j := 2) rfl
  have z3 := Z.out.at (j := 3) rfl
  have z4 := Z.out.at (j := 4) rfl
  have f0 := Z.out.fz 0
  have f1 := Z.out.fz 1
  have f2 := Z.out.fz 2
  have f3 := Z.out.fz 3
  have f4 := Z.out.fz 4
  rcases idxB_cases (fun k => (ptAt c.ps k).id == id) v.np with ⟨k, hk, _, _, e⟩ | ⟨_, e⟩
  · have hF : findP c.ps id = (k : Int) := by rw [← HF.out, e]
    have HK := Lib.hid hF
    rw [hF]
    clear hF e
    have hneg : ¬ (k : Int) < 0 := by omega
    obtain ⟨bb, o, A', m, c', hA, y0, y1, y2, y3, y4, hrd, _, _, hm⟩ := R.out.pp.at_ hk
    have x1 := X.out.at (j := 1) rfl
    have hkI : (k : Int) < (v.np : Int) := by omega
    have HRD := Lib.hid hrd
    have HM := Lib.hid hm
    have HP : Hid (partV c id = ptAt c.ps k) := by (show _ = _); unfold partV; rw [HK.out, if_pos (by omega), Int.toNat_natCast]
    have HD : Hid (decide (0 ≤ findP c.ps id) = true) := by (show _ = _); rw [HK.out]; exact decide_eq_true (by omega)
    rw [hA] at x1
    clear hrd hm hk
    generalize ptAt c.ps k = p at *
    go_wp2_with fail
    refine (wCopied p A' m c' w4 HRD.out (by have := HM.out; omega)).mono ?_
    rintro e w5 ⟨A3, m3, c3, rfl, ho, hc1, hc2, hb5⟩
    have O := Lib.hid ho
    have HC1 := Lib.hid hc1
    have HC2 := Lib.hid hc2
    replace Z := Lib.hid (Z.out.to hb5)
    replace BW := Lib.hid (BW.out.trans (hb5.mono BW.out.size))
    clear ho hc1 hc2 hb5 z0 z1 z2 z3 z4 f0 f1 f2 f3 f4 x1 y0 y1 y2 y3 y4
    have z0 := Z.out.at (j := 0) rfl
    have z1 := Z.out.at (j := 1) rfl
    have z2 := Z.out.at (j := 2) rfl
    have z3 := Z.out.at (j := 3) rfl
    have z4 := Z.out.at (j := 4) rfl
    have f0 := Z.out.fz 0
    have f1 := Z.out.fz 1
    have f2 := Z.out.fz 2
    have f3 := Z.out.fz 3
    have f4 := Z.out.fz 4
    go_wp2_with fail
    change bodyPost _ _ _ _ _ (setsC w5 (w.heap.size + 1 + 1) 0 [.int .i64 p.id, .int .i64 p.base, .int .i64 p.size, .bool p.keep, .slice A3 m3 c3])
    have P9 := Z.out.sets [.int .i64 p.id, .int .i64 p.base, .int .i64 p.size, .bool p.keep, .slice A3 m3 c3] rfl
    have B9 := below_sets (show w.heap.size ≤ w.heap.size + 1 + 1 by omega) [.int .i64 p.id, .int .i64 p.base, .int .i64 p.size, .bool p.keep, .slice A3 m3 c3] 0 BW.out
    have O9 := O.out.kept (Keep.sets (R := (· = w.heap.size + 1 + 1)) rfl [.int .i64 p.id, .int .i64 p.base, .int .i64 p.size, .bool p.keep, .slice A3 m3 c3] 0 (Keep.refl _ w5)) (O.out.off (fun k hk => by have := HS4.out; omega))
    generalize setsC w5 (w.heap.size + 1 + 1) 0 [.int .i64 p.id, .int .i64 p.base, .int .i64 p.size, .bool p.keep, .slice A3 m3 c3] = w9 at *
    refine bodyPost_ret (res_ptB rfl _ _ (w.heap.size + 1 + 1) _ _ _ _ _ (.bool true) rfl rfl P9) rfl ?_
    exact ⟨A3, m3, c3, by rw [HP.out, HD.out], by rw [HP.out]; exact O9.mono (by have := HS4.out; omega), HC1.out, HC2.out, B9⟩
  · have hF : findP c.ps id = -1 := by rw [← HF.out, e]
    have HK := Lib.hid hF
    rw [hF]
    clear hF e
    have HP : Hid (partV c id = Pt.zero) := by (show _ = _); unfold partV; rw [HK.out, if_neg (by omega)]
    have HD : Hid (decide (0 ≤ findP c.ps id) = false) := by (show _ = _); rw [HK.out]; rfl
    go_wp2_with fail
    change bodyPost _ _ _ _ _ (setsC w4 (w.heap.size + 1 + 1) 0 [.int .i64 0, .int .i64 0, .int .i64 0, .bool false, .slice none 0 0])
    have P9 := Z.out.sets [.int .i64 0, .int .i64 0, .int .i64 0, .bool false, .slice none 0 0] rfl
    have B9 := below_sets (show w.heap.size ≤ w.heap.size + 1 + 1 by omega) [.int .i64 0, .int .i64 0, .int .i64 0, .bool false, .slice none 0 0] 0 BW.out
    generalize setsC w4 (w.heap.size + 1 + 1) 0 [.int .i64 0, .int .i64 0, .int .i64 0, .bool false, .slice none 0 0] = w9 at *
    refine bodyPost_ret (res_ptB rfl _ _ (w.heap.size + 1 + 1) _ _ _ _ _ (.bool false) rfl rfl P9) rfl ?_
    exact ⟨none, 0, 0, by rw [HP.out, HD.out]; rfl, by rw [HP.out]; exact ⟨Rd.nil _ _ _, fun h => absurd h (Nat.lt_irrefl 0)⟩, by omega, by omega, B9⟩
set_option maxRecDepth 1000000 in
set_option maxHeartbeats 1000000 in
theorem wChannel (v : CV) (c : Cf) (id : Int) (w : World) (h : RdCf w w.heap.size v c) (hp : v.nc ≤ 1000) :
    Calls Try.prog 21 #[.agg #[.slice v.aw v.nw v.kw, .slice v.ap v.np v.kp, .slice v.ac v.nc v.kc], .int .i64 id] w fun x w' => x = .returned (.tuple #[.agg #[.int .i64 (chanV c id).id, .int .i64 (chanV c id).fr, .int .i64 (chanV c id).dst, .int .i64 (chanV c id).cap, .int .i64 (chanV c id).size], .bool (decide (0 ≤ findC c.cs id))]) ∧ Below w.heap.size w w' := by
  obtain ⟨w3, hw3, hb3, hx, hi, hr, hs3⟩ := three_boxes v id w 50 [.int .i64 0, .int .i64 0, .int .i64 0, .int .i64 0, .int .i64 0]
  have R := Lib.hid (h.to hb3)
  have X := Lib.hid hx
  have I := Lib.hid hi
  have Z := Lib.hid hr
  have BW := Lib.hid hb3
  have HW := Lib.hid hw3
  have HN := Lib.hid hp
  have LP : Hid (c.cs.length = v.nc) := h.cc.1
  have eg : ∀ args w, (callFunc 65 args).run Try.prog w = .ok (.enter 65 args) w := enter_of Try.func65 (by kernel_rfl) rfl
  have EG := Lib.hid eg
  clear h hp eg hw3 hb3 hx hi hr hs3
  go_enter Try.func21, Try.ntmps21
  go_upto_region 1 with (fail)
  rw [show ((w.alloc (.cells #[.slice v.aw v.nw v.kw, .slice v.ap v.np v.kp, .slice v.ac v.nc v.kc] 26)).alloc (.cells #[.int .i64 id] 3)).alloc (.cells #[.int .i64 0, .int .i64 0, .int .i64 0, .int .i64 0, .int .i64 0] 50) = w3 from HW.out]
  clear HW
  have x1 := X.out.at (j := 2) rfl
  go_wp2_with fail
  refine (wIndexC _ _ EG.out _ v.ac v.nc v.kc c.cs w3 (pChannel w3 v.nc (w.heap.size + 1) c.cs id (I.out.at (j := 0) rfl)) R.out.cc HN.out).mono ?_
  rintro e w4 ⟨rfl, hb4⟩
  have HF : Hid (idxB (fun k => (chAt c.cs k).id == id) v.nc = findC c.cs id) := by (show _ = _); rw [findC_idx, LP.out]
  rw [HF.out]
  replace R := Lib.hid (R.out.to hb4)
  replace X := Lib.hid (X.out.to hb4)
  replace Z := Lib.hid (Z.out.to hb4)
  replace BW := Lib.hid (BW.out.trans (hb4.mono BW.out.size))
  clear hb4 x1 I
  have z0 := Z.out.at (j := 0) rfl
  have z1 := Z.out.at (j := 1) rfl
  have z2 := Z.out.at (j := 2) rfl
  have z3 := Z.out.at (j := 3) rfl
  have z4 := Z.out.at (j := 4) rfl
  have f0 := Z.out.fz 0
  have f1 := Z.out.fz 1
  have f2 := Z.out.fz 2
  have f3 := Z.out.fz 3
  have f4 := Z.out.fz 4
  rcases idxB_cases (fun k => (chAt c.cs k).id == id) v.nc with ⟨k, hk, _, _, e⟩ | ⟨_, e⟩
  · have hF : findC c.cs id = (k : Int) := by rw [← HF.out, e]
    have HK := Lib.hid hF
    rw [hF]
    clear hF e
    have hneg : ¬ (k : Int) < 0 := by omega
    obtain ⟨bb, o, hA, y0, y1, y2, y3, y4⟩ := R.out.cc.at_ hk
    have x1 := X.out.at (j := 2) rfl
    have hkI : (k : Int) < (v.nc : Int) := by omega
    have HP : Hid (chanV c id = chAt c.cs k) := by (show _ = _); unfold chanV; rw [HK.out, if_pos (by omega), Int.toNat_natCast]
    have HD : Hid (decide (0 ≤ findC c.cs id) = true) := by (show _ = _); rw [HK.out]; exact decide_eq_true (by omega)
    rw [hA] at x1
    clear hk
    generalize chAt c.cs k = p at *
    go_wp2_with fail
    change bodyPost _ _ _ _ _ (setsC w4 (w.heap.size + 1 + 1) 0 [.int .i64 p.id, .int .i64 p.fr, .int .i64 p.dst, .int .i64 p.cap, .int .i64 p.size])
    have P9 := Z.out.sets [.int .i64 p.id, .int .i64 p.fr, .int .i64 p.dst, .int .i64 p.cap, .int .i64 p.size] rfl
    have B9 := below_sets (show w.heap.size ≤ w.heap.size + 1 + 1 by omega) [.int .i64 p.id, .int .i64 p.fr, .int .i64 p.dst, .int .i64 p.cap, .int .i64 p.size] 0 BW.out
    generalize setsC w4 (w.heap.size + 1 + 1) 0 [.int .i64 p.id, .int .i64 p.fr, .int .i64 p.dst, .int .i64 p.cap, .int .i64 p.size] = w9 at *
    refine bodyPost_ret (res_chB rfl _ _ (w.heap.size + 1 + 1) _ _ _ _ _ (.bool true) rfl rfl P9) rfl ?_
    exact ⟨by rw [HP.out, HD.out], B9⟩
  · have hF : findC c.cs id = -1 := by rw [← HF.out, e]
    have HK := Lib.hid hF
    rw [hF]
    clear hF e
    have HP : Hid (chanV c id = Ch.zero) := by (show _ = _); unfold chanV; rw [HK.out, if_neg (by omega)]
    have HD : Hid (decide (0 ≤ findC c.cs id) = false) := by (show _ = _); rw [HK.out]; rfl
    go_wp2_with fail
    change bodyPost _ _ _ _ _ (setsC w4 (w.heap.size + 1 + 1) 0 [.int .i64 0, .int .i64 0, .int .i64 0, .int .i64 0, .int .i64 0])
    have P9 := Z.out.sets [.int .i64 0, .int .i64 0, .int .i64 0, .int .i64 0, .int .i64 0] rfl
    have B9 := below_sets (show w.heap.size ≤ w.heap.size + 1 + 1 by omega) [.int .i64 0, .int .i64 0, .int .i64 0, .int .i64 0, .int .i64 0] 0 BW.out
    generalize setsC w4 (w.heap.size + 1 + 1) 0 [.int .i64 0, .int .i64 0, .int .i64 0, .int .i64 0, .int .i64 0] = w9 at *
    refine bodyPost_ret (res_chB rfl _ _ (w.heap.size + 1 + 1) _ _ _ _ _ (.bool false) rfl rfl P9) rfl ?_
    exact ⟨by rw [HP.out, HD.out]; rfl, B9⟩
end Go.Proofs.Ytljgliagciblbaa
