/- Several texts in one (a claim has 60 files at most): CfA, CfB, CfG, CfH, SchQ, VaPa, VaPb. -/
import Derived.Test.YtlmdidblgeeplaaGreatDoorTz
import Derived.Test.YtlmdidblgeeplaaGreatDoorPMfXx
import Derived.Test.YtlmdidblgeeplaaGreatDoorPChDx
import Derived.Test.YtlmdidblgeeplaaGreatDoorPInvRx
import Derived.Test.YtlmdidblgeeplaaGreatDoorPCfSx
import Derived.Test.YtlmdidblgeeplaaGreatDoorPCfLcx
import Derived.Lib.SliceRun
import Derived.Test.YtlmdidblgeeplaaGreatDoorPRegPy
import Derived.Test.YtlmdidblgeeplaaGreatDoorPChPx
import Derived.Test.YtlmdidblgeeplaaGreatDoorShelfS
import Derived.Test.YtlmdidblgeeplaaGreatDoorPSchDx
namespace Go.Proofs.YtlmdidblgeeplaaGreatDoor
set_option maxRecDepth 1000000
set_option maxHeartbeats 8000000
set_option linter.unusedVariables false
set_option linter.unusedSimpArgs false
section
open Go.RowKit
theorem pCan (w : World) (n : Nat) (l : List Pt) : PredP w 78 #[] n l (fun k => !imgOk (ptAt l k)) := fun k hk A m c W hb hr => by
 show Calls Tryz.prog 78 #[.agg #[.int .i64 (ptAt l k).id, .int .i64 (ptAt l k).base, .int .i64 (ptAt l k).size, .bool (ptAt l k).keep, .slice A m c]] W fun e w' => e = .returned (.bool (!imgOk (ptAt l k))) ∧ Below W.heap.size W w'
 generalize ptAt l k = p at *
 have HL := qH hr.1
 have BA := qH ((Below.refl W.heap.size W).alloc (Nat.le_refl _) (.cells #[.int .i64 p.id, .int .i64 p.base, .int .i64 p.size, .bool p.keep, .slice A m c] 58))
 clear hr hb
 go_enter Tryz.func78, Tryz.ntmps78
 go_wp2_with fail
 go_ret
 refine ⟨?_, BA.out⟩
 show Ending.returned (.bool _) = _
 congr 2
 unfold imgOk
 rw [HL.out, Bool.eq_iff_iff]
 simp
 omega
theorem pPart (w : World) (n g : Nat) (l : List Pt) (id : Int) (hg : w.cell? ⟨g, 0, none⟩ = some (.int .i64 id)) : PredP w 217 #[.pointer (some ⟨g, 0, none⟩)] n l (fun k => (ptAt l k).id == id) := fun k hk A m c W hb hr => by
 show Calls Tryz.prog 217 #[.agg #[.int .i64 (ptAt l k).id, .int .i64 (ptAt l k).base, .int .i64 (ptAt l k).size, .bool (ptAt l k).keep, .slice A m c], .pointer (some ⟨g, 0, none⟩)] W fun e w' => e = .returned (.bool ((ptAt l k).id == id)) ∧ Below W.heap.size W w'
 generalize ptAt l k = p at *
 have BA := qH ((Below.refl W.heap.size W).alloc (Nat.le_refl _) (.cells #[.int .i64 p.id, .int .i64 p.base, .int .i64 p.size, .bool p.keep, .slice A m c] 58))
 have hg1 : W.cell? ⟨g, 0, none⟩ = some (.int .i64 id) := (hb.cell (p := ⟨g, 0, none⟩) (cell_block hg)).trans hg
 have hg2 : (W.alloc (.cells #[.int .i64 p.id, .int .i64 p.base, .int .i64 p.size, .bool p.keep, .slice A m c] 58)).cell? ⟨g, 0, none⟩ = some (.int .i64 id) := (BA.out.cell (p := ⟨g, 0, none⟩) (cell_block hg1)).trans hg1
 clear hr hb hg hg1
 go_enter Tryz.func217, Tryz.ntmps217
 go_wp2_with fail
 go_ret
 refine ⟨?_, BA.out⟩
 rfl
theorem wContainsP (g : FuncId) (lb : Array Value) (eg : ∀ args w, (callFunc g args).run Tryz.prog w = .ok (.enter g args) w) (p : Nat → Bool) (A : Option Addr) (n c : Nat) (l : List Pt) (w : World)
  (hp : PredP w g lb n l p) (h : RdP w w.heap.size A n l) (hn : n ≤ 1000) :
  Calls Tryz.prog 77 #[.slice A n c, .func (.func g) #[] lb] w fun e w' => e = .returned (.bool (decide (0 ≤ idxB p n))) ∧ Below w.heap.size w w' := by
 have W := qH (wIndexP g lb eg p A n c l w hp h hn)
 clear h hp hn
 go_enter Tryz.func77, Tryz.ntmps77
 go_wp2_with fail
 refine W.out.mono ?_
 rintro e w1 ⟨rfl, hb⟩
 have B := qH hb
 obtain ⟨x, hx⟩ : ∃ x, idxB p n = x := ⟨_, rfl⟩
 rw [hx]
 replace hx := qH hx
 go_wp2_with fail
 go_ret
 exact ⟨by rw [hx.out]; rfl, B.out⟩
theorem pCanOf (v : CV) (c : Cf) (w : World) (h : RdCf w w.heap.size v c) (hp : v.np ≤ 1000) :
  Calls Tryz.prog 32 #[.agg #[.slice v.aw v.nw v.kw, .slice v.ap v.np v.kp, .slice v.ac v.nc v.kc]] w fun x w' => x = .returned (.bool (canC c)) ∧ Below w.heap.size w w' := by
 have hb := (Below.refl w.heap.size w).alloc (Nat.le_refl _) (.cells #[.slice v.aw v.nw v.kw, .slice v.ap v.np v.kp, .slice v.ac v.nc v.kc] 28)
 have B := qH hb
 have X := qH (Cfx.new w v 28)
 have R := qH (h.to hb)
 have HN := qH hp
 have eg : ∀ args w, (callFunc 78 args).run Tryz.prog w = .ok (.enter 78 args) w := enter_of Tryz.func78 (by kernel_rfl) rfl
 have EG := qH eg
 have LW : Hid (c.ws.length = v.nw) := h.ww.1
 have LP : Hid (c.ps.length = v.np) := h.pp.1
 have LC : Hid (c.cs.length = v.nc) := h.cc.1
 clear h hb hp eg
 go_enter Tryz.func32, Tryz.ntmps32
 have no : ∀ (_ : 12 < v.nw ∨ 6 < v.np ∨ 8 < v.nc), canC c = false := fun h => by
  cases hc : canC c with
  | false => rfl
  | true =>
   have := (canC_iff.1 hc).2
   rw [LW.out, LP.out, LC.out] at this
   omega
 have NO := qH no
 clear no
 obtain ⟨x0, x1, x2, _⟩ := X.out
 by_cases h1 : 12 < v.nw
 ·have hI : (12 : Int) < (v.nw : Int) := by omega
  have HF : Hid (false = canC c) := (NO.out (.inl h1)).symm
  go_wp2_with fail
  go_ret
  exact ⟨ret_bool HF.out, B.out⟩
 ·have hI : ¬ (12 : Int) < (v.nw : Int) := by omega
  have H1 := qH h1
  clear h1
  by_cases h2 : 6 < v.np
  ·have hJ : (6 : Int) < (v.np : Int) := by omega
   have HF : Hid (false = canC c) := (NO.out (.inr (.inl h2))).symm
   go_wp2_with fail
   go_ret
   exact ⟨ret_bool HF.out, B.out⟩
  ·have hJ : ¬ (6 : Int) < (v.np : Int) := by omega
   have H2 := qH h2
   clear h2
   by_cases h3 : 8 < v.nc
   ·have hK : (8 : Int) < (v.nc : Int) := by omega
    have HF : Hid (false = canC c) := (NO.out (.inr (.inr h3))).symm
    go_wp2_with fail
    go_ret
    exact ⟨ret_bool HF.out, B.out⟩
   ·have hK : ¬ (8 : Int) < (v.nc : Int) := by omega
    have H3 := qH h3
    clear h3
    go_wp2_with fail
    refine (wContainsP _ _ EG.out _ v.ap v.np v.kp c.ps _ (pCan _ v.np c.ps) R.out.pp HN.out).mono ?_
    rintro e w2 ⟨rfl, hb⟩
    have B2 := qH (B.out.trans (hb.mono B.out.size))
    have HC : Hid ((!decide (0 ≤ idxB (fun k => !imgOk (ptAt c.ps k)) v.np)) = canC c) := by
     (show _ = _)
     rcases idxB_cases (fun k => !imgOk (ptAt c.ps k)) v.np with ⟨k, hk, _, hp, e⟩ | ⟨hn, e⟩
     ·rw [e, decide_eq_true (by omega)]
      cases hc : canC c with
      | false => rfl
      | true =>
       have := (canC_iff.1 hc).1 (ptAt c.ps k) (by rw [ptAt_lt (by rw [LP.out]; exact hk)]; exact List.getElem_mem _)
       simp only [imgOk, Bool.not_eq_true'] at hp
       rw [decide_eq_true this] at hp; cases hp
     ·rw [e, decide_eq_false (by omega)]
      refine (canC_iff.2 ⟨fun p hp => ?_, by rw [LW.out]; have := H1.out; omega, by rw [LP.out]; have := H2.out; omega, by rw [LC.out]; have := H3.out; omega⟩).symm
      obtain ⟨j, hj, rfl⟩ := List.getElem_of_mem hp
      have := hn j (by rw [← LP.out]; exact hj)
      rw [ptAt_lt hj] at this
      simpa [imgOk] using this
    clear hb
    go_wp2_with fail
    go_ret
    exact ⟨ret_bool HC.out, B2.out⟩
end
section
open Go.RowKit
theorem findP_idx (l : List Pt) (id : Int) : findP l id = idxB (fun k => (ptAt l k).id == id) l.length := by
 rcases idxB_cases (fun k => (ptAt l k).id == id) l.length with ⟨k, hk, hb, hp, e⟩ | ⟨hn, e⟩
 ·rw [e]
  exact findP_at hk (fun j hj => by simpa using hb j hj) (by simpa using hp)
 ·rw [e]
  exact findP_none (fun j hj => by simpa using hn j hj)
theorem res_pt {fn : Func} {p : Tmp} (h : fn.results = #[.cell p 58]) (tmps : Array Value) (w : World) (g : Nat) (a b c d e : Value) (hp : tmps.getD p undef = .pointer (some ⟨g, 0, none⟩)) (hx : Bx w g 58 [a, b, c, d, e]) :
  (results fn tmps).run Tryz.prog w = .ok (.agg #[a, b, c, d, e]) w := by
 have hp' : tmps[p]?.getD undef = .pointer (some ⟨g, 0, none⟩) := by simpa using hp
 have c0 := hx.at (j := 0) rfl
 have c1 := hx.at (j := 1) rfl
 have c2 := hx.at (j := 2) rfl
 have c3 := hx.at (j := 3) rfl
 have c4 := hx.at (j := 4) rfl
 simp [results, h, hp', asAddr]
 go_simp
 try rfl
theorem res_ptB {fn : Func} {p q : Tmp} (h : fn.results = #[.cell p 58, .tmp q]) (tmps : Array Value) (w : World) (g : Nat) (a b c d e u : Value) (hp : tmps.getD p undef = .pointer (some ⟨g, 0, none⟩)) (hq : tmps.getD q undef = u) (hx : Bx w g 58 [a, b, c, d, e]) :
  (results fn tmps).run Tryz.prog w = .ok (.tuple #[.agg #[a, b, c, d, e], u]) w := by
 have hp' : tmps[p]?.getD undef = .pointer (some ⟨g, 0, none⟩) := by simpa using hp
 have hq' : tmps[q]?.getD undef = u := by simpa using hq
 have c0 := hx.at (j := 0) rfl
 have c1 := hx.at (j := 1) rfl
 have c2 := hx.at (j := 2) rfl
 have c3 := hx.at (j := 3) rfl
 have c4 := hx.at (j := 4) rfl
 simp [results, h, hp', hq', asAddr]
 go_simp
 try rfl
def RetPt (w : World) (p : Pt) (f : Value → Value) (x : Ending) (w' : World) : Prop :=
 ∃ A m c, x = .returned (f (.agg #[.int .i64 p.id, .int .i64 p.base, .int .i64 p.size, .bool p.keep, .slice A m c])) ∧ OwR w' w.heap.size A m p.img ∧ m ≤ c ∧ c ≤ 9223372036854775807 ∧ Below w.heap.size w w'
theorem wCopied (p : Pt) (A : Option Addr) (m c : Nat) (w : World) (h : Rd w w.heap.size A m p.img) (hm : m ≤ 140737488355328) :
  Calls Tryz.prog 116 #[.agg #[.int .i64 p.id, .int .i64 p.base, .int .i64 p.size, .bool p.keep, .slice A m c]] w (RetPt w p id) := by
 obtain ⟨i, b, s, k, im⟩ := p
 have B1 := (Below.refl w.heap.size w).alloc (Nat.le_refl _) (.cells #[.int .i64 i, .int .i64 b, .int .i64 s, .bool k, .slice A m c] 58)
 have P1 : Bx (w.alloc (.cells #[.int .i64 i, .int .i64 b, .int .i64 s, .bool k, .slice A m c] 58)) w.heap.size 58 [.int .i64 i, .int .i64 b, .int .i64 s, .bool k, .slice A m c] := Bx.new w _ [.int .i64 i, .int .i64 b, .int .i64 s, .bool k, .slice A m c]
 generalize hw1 : (w.alloc (.cells #[.int .i64 i, .int .i64 b, .int .i64 s, .bool k, .slice A m c] 58)) = w1 at *
 have S1 : w1.heap.size = w.heap.size + 1 := by rw [← hw1]; simp
 have B2 := B1.alloc B1.size (.cells #[.int .i64 0, .int .i64 0, .int .i64 0, .bool false, .slice none 0 0] 58)
 have P2 : Bx (w1.alloc (.cells #[.int .i64 0, .int .i64 0, .int .i64 0, .bool false, .slice none 0 0] 58)) w1.heap.size 58 [.int .i64 0, .int .i64 0, .int .i64 0, .bool false, .slice none 0 0] := Bx.new w1 _ [.int .i64 0, .int .i64 0, .int .i64 0, .bool false, .slice none 0 0]
 have P12 := P1.to ((Below.refl _ _).alloc (Nat.le_refl _) (.cells #[.int .i64 0, .int .i64 0, .int .i64 0, .bool false, .slice none 0 0] 58))
 rw [S1] at P2
 have S2 : Hid ((w1.alloc (.cells #[.int .i64 0, .int .i64 0, .int .i64 0, .bool false, .slice none 0 0] 58)).heap.size = w.heap.size + 2) := by (show _ = _); simp [S1]
 have P := qH P12
 have X := qH P2
 have R := qH (h.to B2)
 have BW := qH B2
 have HW1 := qH hw1
 have HM := qH hm
 clear h hm B1 P1 S1 B2 P2 P12 hw1
 go_enter Tryz.func116, Tryz.ntmps116
 go_upto_region 1 with (fail)
 rw [HW1.out]
 generalize (w1.alloc (.cells #[.int .i64 0, .int .i64 0, .int .i64 0, .bool false, .slice none 0 0] 58)) = w2 at *
 clear HW1
 have x4 := P.out.at (j := 4) rfl
 go_wp2_with fail
 refine (bClone A m c im w2 R.out HM.out).mono ?_
 rintro e w3 ⟨A3, m3, c3, rfl, ho, hc1, hc2, hb⟩
 have O := qH ho
 have HC1 := qH hc1
 have HC2 := qH hc2
 replace P := qH (P.out.to hb)
 replace X := qH (X.out.to hb)
 replace HSZ := qH BW.out.size
 replace BW := qH (BW.out.trans (hb.mono BW.out.size))
 have y4 := P.out.at (j := 4) rfl
 have f4 := P.out.fz 4
 clear hb ho hc1 hc2 x4
 go_upto_region 2 with (fail)
 have Q := qH (P.out.set 4 (.slice A3 m3 c3))
 have XQ := qH (X.out.other ⟨w.heap.size, 4, none⟩ (.slice A3 m3 c3) (by simp))
 have BQ := qH (BW.out.setCell (p := ⟨w.heap.size, 4, none⟩) (Nat.le_refl _) (.slice A3 m3 c3))
 have OQ := qH (O.out.kept (R := (· = w.heap.size)) ((Keep.refl _ w3).setCell ⟨w.heap.size, 4, none⟩ (.slice A3 m3 c3) rfl) (O.out.off (fun k hk => by have := S2.out; omega)))
 generalize w3.setCell ⟨w.heap.size, 4, none⟩ (.slice A3 m3 c3) = w4 at *
 clear P X BW O y4 f4
 have q0 := Q.out.at (j := 0) rfl
 have q1 := Q.out.at (j := 1) rfl
 have q2 := Q.out.at (j := 2) rfl
 have q3 := Q.out.at (j := 3) rfl
 have q4 := Q.out.at (j := 4) rfl
 have z0 := XQ.out.at (j := 0) rfl
 have z1 := XQ.out.at (j := 1) rfl
 have z2 := XQ.out.at (j := 2) rfl
 have z3 := XQ.out.at (j := 3) rfl
 have z4 := XQ.out.at (j := 4) rfl
 have f0 := XQ.out.fz 0
 have f1 := XQ.out.fz 1
 have f2 := XQ.out.fz 2
 have f3 := XQ.out.fz 3
 have f4 := XQ.out.fz 4
 go_wp2_with fail
 change bodyPost _ _ _ _ _ (setsC w4 (w.heap.size + 1) 0 [.int .i64 i, .int .i64 b, .int .i64 s, .bool k, .slice A3 m3 c3])
 have P9 := XQ.out.sets [.int .i64 i, .int .i64 b, .int .i64 s, .bool k, .slice A3 m3 c3] rfl
 have B9 := below_sets (Nat.le_succ w.heap.size) [.int .i64 i, .int .i64 b, .int .i64 s, .bool k, .slice A3 m3 c3] 0 BQ.out
 have O9 := OQ.out.kept (Keep.sets (R := (· = w.heap.size + 1)) rfl [.int .i64 i, .int .i64 b, .int .i64 s, .bool k, .slice A3 m3 c3] 0 (Keep.refl _ w4)) (OQ.out.off (fun k hk => by have := S2.out; omega))
 generalize setsC w4 (w.heap.size + 1) 0 [.int .i64 i, .int .i64 b, .int .i64 s, .bool k, .slice A3 m3 c3] = w9 at *
 obtain rfl : m3 = im.length := O9.1.1.symm
 refine bodyPost_ret (res_pt rfl _ _ (w.heap.size + 1) _ _ _ _ _ rfl P9) rfl ?_
 exact ⟨A3, im.length, c3, rfl, O9.mono (by have := S2.out; omega), HC1.out, HC2.out, B9⟩
def partV (c : Cf) (id : Int) : Pt := if 0 ≤ findP c.ps id then ptAt c.ps (findP c.ps id).toNat else Pt.zero
theorem three_boxes (v : CV) (id : Int) (w : World) (T : TypeId) (cs : List Value) : ∃ w3, ((w.alloc (.cells #[.slice v.aw v.nw v.kw, .slice v.ap v.np v.kp, .slice v.ac v.nc v.kc] 28)).alloc (.cells #[.int .i64 id] 3)).alloc (.cells cs.toArray T) = w3 ∧
  Below w.heap.size w w3 ∧ Bx w3 w.heap.size 28 (cfL v) ∧ Bx w3 (w.heap.size + 1) 3 [.int .i64 id] ∧ Bx w3 (w.heap.size + 1 + 1) T cs ∧ w3.heap.size = w.heap.size + 3 := by
 refine ⟨_, rfl, ?_, ?_, ?_, ?_, by simp⟩
 ·exact ((((Below.refl w.heap.size w).alloc (Nat.le_refl _) _).alloc (by simp) _).alloc (by simp; omega) _)
 ·have h := Bx.new w 28 (cfL v)
  exact ((h.to ((Below.refl _ _).alloc (Nat.le_refl _) _)).to ((Below.refl _ _).alloc (Nat.le_refl _) _))
 ·have h := Bx.new (w.alloc (.cells #[.slice v.aw v.nw v.kw, .slice v.ap v.np v.kp, .slice v.ac v.nc v.kc] 28)) 3 [.int .i64 id]
  have := h.to ((Below.refl _ _).alloc (Nat.le_refl _) (.cells cs.toArray T))
  simpa using this
 ·have h := Bx.new ((w.alloc (.cells #[.slice v.aw v.nw v.kw, .slice v.ap v.np v.kp, .slice v.ac v.nc v.kc] 28)).alloc (.cells #[.int .i64 id] 3)) T cs
  simpa using h
theorem wPart (v : CV) (c : Cf) (id : Int) (w : World) (h : RdCf w w.heap.size v c) (hp : v.np ≤ 1000) :
  Calls Tryz.prog 199 #[.agg #[.slice v.aw v.nw v.kw, .slice v.ap v.np v.kp, .slice v.ac v.nc v.kc], .int .i64 id] w (RetPt w (partV c id) (fun x => .tuple #[x, .bool (decide (0 ≤ findP c.ps id))])) := by
 obtain ⟨w3, hw3, hb3, hx, hi, hr, hs3⟩ := three_boxes v id w 58 [.int .i64 0, .int .i64 0, .int .i64 0, .bool false, .slice none 0 0]
 have R := qH (h.to hb3)
 have X := qH hx
 have I := qH hi
 have Z := qH hr
 have S3 := qH hs3
 have BW := qH hb3
 have HW := qH hw3
 have HN := qH hp
 have LP : Hid (c.ps.length = v.np) := h.pp.1
 have eg : ∀ args w, (callFunc 217 args).run Tryz.prog w = .ok (.enter 217 args) w := enter_of Tryz.func217 (by kernel_rfl) rfl
 have EG := qH eg
 clear h hp eg hw3 hb3 hx hi hr hs3
 go_enter Tryz.func199, Tryz.ntmps199
 go_upto_region 1 with (fail)
 rw [show ((w.alloc (.cells #[.slice v.aw v.nw v.kw, .slice v.ap v.np v.kp, .slice v.ac v.nc v.kc] 28)).alloc (.cells #[.int .i64 id] 3)).alloc (.cells #[.int .i64 0, .int .i64 0, .int .i64 0, .bool false, .slice none 0 0] 58) = w3 from HW.out]
 clear HW
 have x1 := X.out.at (j := 1) rfl
 go_wp2_with fail
 refine (wIndexP _ _ EG.out _ v.ap v.np v.kp c.ps w3 (pPart w3 v.np (w.heap.size + 1) c.ps id (I.out.at (j := 0) rfl)) R.out.pp HN.out).mono ?_
 rintro e w4 ⟨rfl, hb4⟩
 have HF : Hid (idxB (fun k => (ptAt c.ps k).id == id) v.np = findP c.ps id) := by (show _ = _); rw [findP_idx, LP.out]
 rw [HF.out]
 replace R := qH (R.out.to hb4)
 replace X := qH (X.out.to hb4)
 replace Z := qH (Z.out.to hb4)
 have HS4 : Hid (w.heap.size + 3 ≤ w4.heap.size) := by (show _ ≤ _); rw [← S3.out]; exact hb4.size
 replace BW := qH (BW.out.trans (hb4.mono BW.out.size))
 clear hb4 x1 I
 have z0 := Z.out.at (j := 0) rfl
 have z1 := Z.out.at (j := 1) rfl
 have z2 := Z.out.at (j := 2) rfl
 have z3 := Z.out.at (j := 3) rfl
 have z4 := Z.out.at (j := 4) rfl
 have f0 := Z.out.fz 0
 have f1 := Z.out.fz 1
 have f2 := Z.out.fz 2
 have f3 := Z.out.fz 3
 have f4 := Z.out.fz 4
 rcases idxB_cases (fun k => (ptAt c.ps k).id == id) v.np with ⟨k, hk, _, _, e⟩ | ⟨_, e⟩
 ·have hF : findP c.ps id = (k : Int) := by rw [← HF.out, e]
  have HK := qH hF
  rw [hF]
  clear hF e
  have hneg : ¬ (k : Int) < 0 := by omega
  obtain ⟨bb, o, A', m, c', hA, y0, y1, y2, y3, y4, hrd, _, _, hm⟩ := R.out.pp.at_ hk
  have x1 := X.out.at (j := 1) rfl
  have hkI : (k : Int) < (v.np : Int) := by omega
  have HRD := qH hrd
  have HM := qH hm
  have HP : Hid (partV c id = ptAt c.ps k) := by (show _ = _); unfold partV; rw [HK.out, if_pos (by omega), Int.toNat_natCast]
  have HD : Hid (decide (0 ≤ findP c.ps id) = true) := by (show _ = _); rw [HK.out]; exact decide_eq_true (by omega)
  rw [hA] at x1
  clear hrd hm hk
  generalize ptAt c.ps k = p at *
  go_wp2_with fail
  refine (wCopied p A' m c' w4 HRD.out (by have := HM.out; omega)).mono ?_
  rintro e w5 ⟨A3, m3, c3, rfl, ho, hc1, hc2, hb5⟩
  have O := qH ho
  have HC1 := qH hc1
  have HC2 := qH hc2
  replace Z := qH (Z.out.to hb5)
  replace BW := qH (BW.out.trans (hb5.mono BW.out.size))
  clear ho hc1 hc2 hb5 z0 z1 z2 z3 z4 f0 f1 f2 f3 f4 x1 y0 y1 y2 y3 y4
  have z0 := Z.out.at (j := 0) rfl
  have z1 := Z.out.at (j := 1) rfl
  have z2 := Z.out.at (j := 2) rfl
  have z3 := Z.out.at (j := 3) rfl
  have z4 := Z.out.at (j := 4) rfl
  have f0 := Z.out.fz 0
  have f1 := Z.out.fz 1
  have f2 := Z.out.fz 2
  have f3 := Z.out.fz 3
  have f4 := Z.out.fz 4
  go_wp2_with fail
  change bodyPost _ _ _ _ _ (setsC w5 (w.heap.size + 1 + 1) 0 [.int .i64 p.id, .int .i64 p.base, .int .i64 p.size, .bool p.keep, .slice A3 m3 c3])
  have P9 := Z.out.sets [.int .i64 p.id, .int .i64 p.base, .int .i64 p.size, .bool p.keep, .slice A3 m3 c3] rfl
  have B9 := below_sets (show w.heap.size ≤ w.heap.size + 1 + 1 by omega) [.int .i64 p.id, .int .i64 p.base, .int .i64 p.size, .bool p.keep, .slice A3 m3 c3] 0 BW.out
  have O9 := O.out.kept (Keep.sets (R := (· = w.heap.size + 1 + 1)) rfl [.int .i64 p.id, .int .i64 p.base, .int .i64 p.size, .bool p.keep, .slice A3 m3 c3] 0 (Keep.refl _ w5)) (O.out.off (fun k hk => by have := HS4.out; omega))
  generalize setsC w5 (w.heap.size + 1 + 1) 0 [.int .i64 p.id, .int .i64 p.base, .int .i64 p.size, .bool p.keep, .slice A3 m3 c3] = w9 at *
  refine bodyPost_ret (res_ptB rfl _ _ (w.heap.size + 1 + 1) _ _ _ _ _ (.bool true) rfl rfl P9) rfl ?_
  exact ⟨A3, m3, c3, by rw [HP.out, HD.out], by rw [HP.out]; exact O9.mono (by have := HS4.out; omega), HC1.out, HC2.out, B9⟩
 ·have hF : findP c.ps id = -1 := by rw [← HF.out, e]
  have HK := qH hF
  rw [hF]
  clear hF e
  have HP : Hid (partV c id = Pt.zero) := by (show _ = _); unfold partV; rw [HK.out, if_neg (by omega)]
  have HD : Hid (decide (0 ≤ findP c.ps id) = false) := by (show _ = _); rw [HK.out]; rfl
  go_wp2_with fail
  change bodyPost _ _ _ _ _ (setsC w4 (w.heap.size + 1 + 1) 0 [.int .i64 0, .int .i64 0, .int .i64 0, .bool false, .slice none 0 0])
  have P9 := Z.out.sets [.int .i64 0, .int .i64 0, .int .i64 0, .bool false, .slice none 0 0] rfl
  have B9 := below_sets (show w.heap.size ≤ w.heap.size + 1 + 1 by omega) [.int .i64 0, .int .i64 0, .int .i64 0, .bool false, .slice none 0 0] 0 BW.out
  generalize setsC w4 (w.heap.size + 1 + 1) 0 [.int .i64 0, .int .i64 0, .int .i64 0, .bool false, .slice none 0 0] = w9 at *
  refine bodyPost_ret (res_ptB rfl _ _ (w.heap.size + 1 + 1) _ _ _ _ _ (.bool false) rfl rfl P9) rfl ?_
  exact ⟨none, 0, 0, by rw [HP.out, HD.out]; rfl, by rw [HP.out]; exact ⟨Rd.nil _ _ _, fun h => absurd h (Nat.lt_irrefl 0)⟩, by omega, by omega, B9⟩
end
section
open Go.RowKit
theorem RdP.rows {w : World} {B n : Nat} {A : Option Addr} {l : List Pt} (h : RdP w B A n l) : ∃ qs : List QP, qs.length = n ∧ qs.map QP.p = l ∧ ((partsV qs).length = n * 5 ∧ (0 < n → ∃ ad, A = some ad ∧ ∀ j u, (partsV qs)[j]? = some u → w.cell? (ad.add j) = some u)) ∧
  ∀ q ∈ qs, Rd w B q.A q.m q.p.img ∧ q.m ≤ q.c ∧ q.c ≤ 9223372036854775807 ∧ q.m ≤ 140737488351232 := by
 have hl := h.1
 have each : ∀ j, ∃ q : QP, j < n → q.p = ptAt l j ∧ (∀ b o, A = some ⟨b, o, none⟩ → ∀ i v, q.cells[i]? = some v → w.cell? ⟨b, o + j * 5 + i, none⟩ = some v) ∧ Rd w B q.A q.m q.p.img ∧ q.m ≤ q.c ∧ q.c ≤ 9223372036854775807 ∧ q.m ≤ 140737488351232 := fun j => by
  by_cases hj : j < n
  ·obtain ⟨b, o, e, _, hc⟩ := h.2 (by omega)
   obtain ⟨A', m, c, h1, h2, h3⟩ := hc j hj
   refine ⟨⟨ptAt l j, A', m, c⟩, fun _ => ⟨rfl, fun b' o' e' => ?_, h2, h3⟩⟩
   rw [e] at e'
   injection e' with e'; injection e' with e1 e2
   subst e1; subst e2
   exact h1
  ·exact ⟨⟨Pt.zero, none, 0, 0⟩, fun h => absurd h hj⟩
 obtain ⟨F, hF⟩ := Classical.axiomOfChoice each
 have hlen : ((List.range n).map F).length = n := by simp
 refine ⟨(List.range n).map F, hlen, ?_, ⟨by rw [partsV, flat_len QP.cells QP.cells_len, hlen], fun hn => ?_⟩, fun q hq => ?_⟩
 ·refine List.ext_getElem (by simp [hl]) (fun j h1 h2 => ?_)
  simp only [List.getElem_map, List.getElem_range]
  rw [(hF j (by simpa using h1)).1, ptAt_lt h2]
 ·obtain ⟨b, o, e, _, _⟩ := h.2 hn
  refine ⟨_, e, fun j u hu => ?_⟩
  obtain ⟨hj, hv⟩ := flat_of QP.cells (by decide) QP.cells_len _ hu
  have hj' : j / 5 < n := by rw [hlen] at hj; exact hj
  have e1 : ((List.range n).map F)[j / 5] = F (j / 5) := by simp
  rw [e1] at hv
  rw [cell_none, show o + j = o + j / 5 * 5 + j % 5 by omega]
  exact (hF (j / 5) hj').2.1 b o e _ _ hv
 ·obtain ⟨j, hj, rfl⟩ := List.mem_map.1 hq
  exact (hF j (List.mem_range.1 hj)).2.2
theorem wCloneW (A : Option Addr) (n c : Nat) (l : List Reg) (w : World) (h : RdG w w.heap.size A n l) (hn : n ≤ 1000) :
  Calls Tryz.prog 117 #[.slice A n c] w fun e w' => ∃ A' c', e = .returned (.slice A' n c') ∧ w'.ownsRow w.heap.size 82 2 (.slice A' n c') n (winsV l) ∧ Below w.heap.size w w' := by
 have NW := qH h.news
 have HN := qH hn
 have qT : ∀ (w : World) (a : Option Addr) (n c n' c' : Nat), (binOp .eql 24 (.slice a n c) (.slice none n' c')).run Tryz.prog w = .ok (.bool a.isNone) w := fun w a n c n' c' => Lib.run_eql_slice_nil w _ _ a n c n' c' Tryz.underlying24
 clear h hn
 rcases A with _ | a
 ·obtain rfl : n = 0 := by
   rcases Nat.eq_zero_or_pos n with h0 | h0
   ·exact h0
   ·obtain ⟨_, e, _⟩ := NW.out.2 h0; cases e
  have HL := qH (List.eq_nil_of_length_eq_zero (NW.out.1.trans (Nat.zero_mul _)))
  go_enter Tryz.func117, Tryz.ntmps117
  go_wp2_with fail
  go_ret
  exact ⟨none, 0, rfl, by rw [HL.out]; exact World.ownsRow_nil _ _ _ _, Below.refl _ _⟩
 have hbx := Bx.new w 82 []
 have O := qH (own_nilV (B := w.heap.size) (z := 2) hbx (Nat.le_refl _))
 have B := qH ((Below.refl w.heap.size w).alloc (Nat.le_refl _) (.cells #[] 82))
 have NW2 : Hid (0 < n → ∃ ad, some a = some ad ∧ ∀ j u, (winsV l)[j]? = some u → (w.alloc (.cells #[] 82)).cell? (ad.add j) = some u) := fun hn => by
  obtain ⟨ad, e, hc⟩ := NW.out.2 hn
  exact ⟨ad, e, fun j u hu => Below.kept ((Below.refl w.heap.size w).alloc (Nat.le_refl _) (.cells #[] 82)) (hc j u hu)⟩
 clear hbx
 go_enter Tryz.func117, Tryz.ntmps117
 go_wp2_with (at_builtin; refine wpList_pushV vtW rfl _ _ rfl rfl rfl O.out NW.out.1 NW2.out (winsV_one _) B.out.size (by have := HN.out; omega) ?_; intro v1 w1 hown1 hk1 hv1)
 go_ret
 rw [Nat.zero_add, List.nil_append] at hown1
 obtain ⟨A1, c1, rfl⟩ := own_slV hown1
 exact ⟨A1, c1, rfl, hown1, hk1.below B.out B.out.size (fun k hk => (O.out.lt k hk).1)⟩
theorem wCloneC (A : Option Addr) (n c : Nat) (l : List Ch) (w : World) (h : RdC w w.heap.size A n l) (hn : n ≤ 1000) :
  Calls Tryz.prog 118 #[.slice A n c] w fun e w' => ∃ A' c', e = .returned (.slice A' n c') ∧ w'.ownsRow w.heap.size 130 5 (.slice A' n c') n (chsV l) ∧ Below w.heap.size w w' := by
 have NW := qH h.news
 have HN := qH hn
 have qT : ∀ (w : World) (a : Option Addr) (n c n' c' : Nat), (binOp .eql 26 (.slice a n c) (.slice none n' c')).run Tryz.prog w = .ok (.bool a.isNone) w := fun w a n c n' c' => Lib.run_eql_slice_nil w _ _ a n c n' c' Tryz.underlying26
 clear h hn
 rcases A with _ | a
 ·obtain rfl : n = 0 := by
   rcases Nat.eq_zero_or_pos n with h0 | h0
   ·exact h0
   ·obtain ⟨_, e, _⟩ := NW.out.2 h0; cases e
  have HL := qH (List.eq_nil_of_length_eq_zero (NW.out.1.trans (Nat.zero_mul _)))
  go_enter Tryz.func118, Tryz.ntmps118
  go_wp2_with fail
  go_ret
  exact ⟨none, 0, rfl, by rw [HL.out]; exact World.ownsRow_nil _ _ _ _, Below.refl _ _⟩
 have hbx := Bx.new w 130 []
 have O := qH (own_nilV (B := w.heap.size) (z := 5) hbx (Nat.le_refl _))
 have B := qH ((Below.refl w.heap.size w).alloc (Nat.le_refl _) (.cells #[] 130))
 have NW2 : Hid (0 < n → ∃ ad, some a = some ad ∧ ∀ j u, (chsV l)[j]? = some u → (w.alloc (.cells #[] 130)).cell? (ad.add j) = some u) := fun hn => by
  obtain ⟨ad, e, hc⟩ := NW.out.2 hn
  exact ⟨ad, e, fun j u hu => Below.kept ((Below.refl w.heap.size w).alloc (Nat.le_refl _) (.cells #[] 130)) (hc j u hu)⟩
 clear hbx
 go_enter Tryz.func118, Tryz.ntmps118
 go_wp2_with (at_builtin; refine wpList_pushV vtC rfl _ _ rfl rfl rfl O.out NW.out.1 NW2.out (chsV_one _) B.out.size (by have := HN.out; omega) ?_; intro v1 w1 hown1 hk1 hv1)
 go_ret
 rw [Nat.zero_add, List.nil_append] at hown1
 obtain ⟨A1, c1, rfl⟩ := own_slV hown1
 exact ⟨A1, c1, rfl, hown1, hk1.below B.out B.out.size (fun k hk => (O.out.lt k hk).1)⟩
theorem wCloneP (A : Option Addr) (n c : Nat) (l : List QP) (w : World) (h : (partsV l).length = n * 5 ∧ (0 < n → ∃ ad, A = some ad ∧ ∀ j u, (partsV l)[j]? = some u → w.cell? (ad.add j) = some u)) (hn : n ≤ 1000) :
  Calls Tryz.prog 115 #[.slice A n c] w fun e w' => ∃ A' c', e = .returned (.slice A' n c') ∧ w'.ownsRow w.heap.size 58 5 (.slice A' n c') n (partsV l) ∧ Below w.heap.size w w' := by
 have NW := qH h
 have HN := qH hn
 have qT : ∀ (w : World) (a : Option Addr) (n c n' c' : Nat), (binOp .eql 25 (.slice a n c) (.slice none n' c')).run Tryz.prog w = .ok (.bool a.isNone) w := fun w a n c n' c' => Lib.run_eql_slice_nil w _ _ a n c n' c' Tryz.underlying25
 clear h hn
 rcases A with _ | a
 ·obtain rfl : n = 0 := by
   rcases Nat.eq_zero_or_pos n with h0 | h0
   ·exact h0
   ·obtain ⟨_, e, _⟩ := NW.out.2 h0; cases e
  have HL := qH (List.eq_nil_of_length_eq_zero (NW.out.1.trans (Nat.zero_mul _)))
  go_enter Tryz.func115, Tryz.ntmps115
  go_wp2_with fail
  go_ret
  exact ⟨none, 0, rfl, by rw [HL.out]; exact World.ownsRow_nil _ _ _ _, Below.refl _ _⟩
 have hbx := Bx.new w 58 []
 have O := qH (own_nilV (B := w.heap.size) (z := 5) hbx (Nat.le_refl _))
 have B := qH ((Below.refl w.heap.size w).alloc (Nat.le_refl _) (.cells #[] 58))
 have NW2 : Hid (0 < n → ∃ ad, some a = some ad ∧ ∀ j u, (partsV l)[j]? = some u → (w.alloc (.cells #[] 58)).cell? (ad.add j) = some u) := fun hn => by
  obtain ⟨ad, e, hc⟩ := NW.out.2 hn
  exact ⟨ad, e, fun j u hu => Below.kept ((Below.refl w.heap.size w).alloc (Nat.le_refl _) (.cells #[] 58)) (hc j u hu)⟩
 clear hbx
 go_enter Tryz.func115, Tryz.ntmps115
 go_wp2_with (at_builtin; refine wpList_pushV vtP rfl _ _ rfl rfl rfl O.out NW.out.1 NW2.out (partsV_one _) B.out.size (by have := HN.out; omega) ?_; intro v1 w1 hown1 hk1 hv1)
 go_ret
 rw [Nat.zero_add, List.nil_append] at hown1
 obtain ⟨A1, c1, rfl⟩ := own_slV hown1
 exact ⟨A1, c1, rfl, hown1, hk1.below B.out B.out.size (fun k hk => (O.out.lt k hk).1)⟩
end
section
open Go.RowKit
theorem own_setV {w : World} {B z : Nat} {T : TypeId} {g n c k : Nat} {xs vs : List Value} (h : w.ownsRow B T z (.slice (some ⟨g, 0, none⟩) n c) n xs) (hk : k < n) (hv : vs.length = z) :
  (setsC w g (k * z) vs).ownsRow B T z (.slice (some ⟨g, 0, none⟩) n c) n (xs.take (k * z) ++ vs ++ xs.drop (k * z + z)) := by
 have hkz : k * z + z ≤ n * z := by rw [← Nat.succ_mul]; exact Nat.mul_le_mul_right z hk
 rcases h.2 with ⟨e, _⟩ | ⟨g', cap, cur, e, hB, hh, hnc, hcm, hcs, htk⟩
 ·cases e
 ·simp only [Value.slice.injEq, Option.some.injEq, Addr.mk.injEq, and_true, true_and] at e
  obtain ⟨rfl, rfl⟩ := e
  have hb : Bx w g T cur.toList := by show w.heap[g]? = _; rw [hh]
  have hcz : n * z ≤ c * z := Nat.mul_le_mul_right z hnc
  have hlen : cur.toList.length = c * z := by rw [Array.length_toList]; exact hcs
  have h2 := Bx.setsAt vs (k * z) hb (by rw [hv, hlen]; omega)
  rw [hv] at h2
  have hx : xs.length = n * z := h.1
  have e1 : xs.take (k * z) = cur.toList.take (k * z) := by rw [← htk, List.take_take, Nat.min_eq_left (by omega)]
  have e2 : xs.drop (k * z + z) = (cur.toList.drop (k * z + z)).take (n * z - (k * z + z)) := by rw [← htk, List.drop_take]
  have l1 : (cur.toList.take (k * z)).length = k * z := by rw [List.length_take, hlen]; omega
  refine ⟨?_, .inr ⟨g, c, _, rfl, hB, h2, hnc, hcm, ?_, ?_⟩⟩
  ·rw [e1, e2]
   simp only [List.length_append, List.length_take, List.length_drop, hlen, hv]
   omega
  ·simp only [List.size_toArray, List.length_append, List.length_take, List.length_drop, hlen, hv]
   omega
  ·show (cur.toList.take (k * z) ++ vs ++ cur.toList.drop (k * z + z)).take (n * z) = _
   rw [List.take_append, e1, e2]
   have l2 : (cur.toList.take (k * z) ++ vs).length = k * z + z := by rw [List.length_append, l1, hv]
   rw [List.take_of_length_le (by omega), l2]
theorem flat_set {α : Type} (f : α → List Value) {z : Nat} (hz : ∀ x, (f x).length = z) (x : α) : ∀ (l : List α) (k : Nat), k < l.length → (l.set k x).flatMap f = (l.flatMap f).take (k * z) ++ f x ++ (l.flatMap f).drop (k * z + z)
 | [], k, h => absurd h (Nat.not_lt_zero _)
 | a :: l, 0, _ => by
  simp only [List.set_cons_zero, List.flatMap_cons, Nat.zero_mul, List.take_zero, List.nil_append, Nat.zero_add]
  rw [List.drop_append_of_le_length (by rw [hz]; exact Nat.le_refl _), List.drop_of_length_le (by rw [hz]; exact Nat.le_refl _), List.nil_append]
 | a :: l, k + 1, h => by
  simp only [List.set_cons_succ, List.flatMap_cons]
  rw [flat_set f hz x l k (by simpa using h), List.take_append, List.drop_append, hz]
  have e1 : (k + 1) * z = z + k * z := by rw [Nat.succ_mul]; omega
  rw [e1, List.take_of_length_le (l := f a) (by rw [hz]; omega), List.drop_of_length_le (l := f a) (by rw [hz]; omega), List.nil_append]
  have e2 : z + k * z - z = k * z := by omega
  have e3 : z + k * z + z - z = k * z + z := by omega
  rw [e2, e3]
  simp
structure CpRel (w0 : World) (A : Option Addr) (n c k : Nat) (ps : List Pt) (w : World) (qs : List QP) : Prop where
 len : qs.length = n
 ps : qs.map QP.p = ps
 row : w.ownsRow w0.heap.size 58 5 (.slice A n c) n (partsV qs)
 img : ∀ j (h : j < qs.length), j < k → Img w w0.heap.size qs[j] ∧ ∀ b, (Value.slice A n c).ownBlock = some b → Off qs[j].A qs[j].m (· = b)
 old : ∀ j (h : j < qs.length), k ≤ j → Rd w0 w0.heap.size qs[j].A qs[j].m qs[j].p.img ∧ qs[j].m ≤ 140737488351232
 bel : Below w0.heap.size w0 w
theorem CpRel.step {w0 w w' : World} {A : Option Addr} {n c k : Nat} {ps : List Pt} {qs : List QP} (h : CpRel w0 A n c k ps w qs) (hb : Below w.heap.size w w') : CpRel w0 A n c k ps w' qs :=
 ⟨h.len, h.ps, own_bv h.row hb, fun j hj hk => ⟨(h.img j hj hk).1.kept (R := fun _ => False) (Keep.of_below hb) (fun _ _ _ _ hh => hh), (h.img j hj hk).2⟩, h.old, h.bel.trans (hb.mono h.bel.size)⟩
theorem CpRel.put {w0 w : World} {g n c k : Nat} {ps : List Pt} {qs : List QP} {q : QP} (h : CpRel w0 (some ⟨g, 0, none⟩) n c k ps w qs) (hk : k < qs.length) (hq : Img w w0.heap.size q) (hqo : Off q.A q.m (· = g)) (hp : q.p = qs[k].p) :
  CpRel w0 (some ⟨g, 0, none⟩) n c (k + 1) ps (setsC w g (k * 5) q.cells) (qs.set k q) := by
 have hkn : k < n := by rw [← h.len]; exact hk
 have hg : w0.heap.size ≤ g := (h.row.lt g rfl).1
 have hK := Keep.sets (R := (· = g)) rfl q.cells (k * 5) (Keep.refl _ w)
 have hqo' : ∀ b, (Value.slice (some ⟨g, 0, none⟩) n c).ownBlock = some b → Off q.A q.m (· = b) := fun b hb => by
  simp only [Value.ownBlock, Option.some.injEq] at hb
  subst hb; exact hqo
 refine ⟨by rw [List.length_set]; exact h.len, ?_, ?_, fun j hj hjk => ?_, fun j hj hjk => ?_, below_sets hg q.cells (k * 5) h.bel⟩
 ·rw [List.map_set, hp, ← h.ps]
  refine List.ext_getElem (by simp) (fun j h1 h2 => ?_)
  rw [List.getElem_set]
  split
  ·rename_i e; subst e; simp
  ·rfl
 ·rw [partsV, flat_set QP.cells QP.cells_len q qs k hk]
  exact own_setV h.row hkn rfl
 ·rw [List.getElem_set]
  split
  ·exact ⟨hq.kept hK hqo, hqo'⟩
  ·rename_i hne
   have hj' : j < qs.length := by simpa using hj
   have := h.img j hj' (by omega)
   exact ⟨this.1.kept hK (this.2 g rfl), this.2⟩
 ·rw [List.getElem_set, if_neg (by omega)]
  exact h.old j (by simpa using hj) (by omega)
theorem CpRel.done {w0 w : World} {A : Option Addr} {n c : Nat} {ps : List Pt} {qs : List QP} (h : CpRel w0 A n c n ps w qs) : OwnP w w0.heap.size (.slice A n c) qs := by
 refine ⟨?_, fun q hq => ?_, fun q hq b hb => ?_⟩
 ·rw [h.len]; exact h.row
 ·obtain ⟨j, hj, rfl⟩ := List.getElem_of_mem hq
  exact (h.img j hj (by rw [← h.len]; exact hj)).1
 ·obtain ⟨j, hj, rfl⟩ := List.getElem_of_mem hq
  exact (h.img j hj (by rw [← h.len]; exact hj)).2 b hb
end
section
open Go.RowKit
def winVal (r : Reg) : Value := .agg (regL r).toArray
theorem Sch.index0 (g : Nat) (lb : Array Value) (A : Option Addr) (c : Nat) (w : World) :
  Calls Tryz.prog 209 #[.slice A 0 c, .func (.func g) #[] lb] w fun e w' => e = .returned (.int .i64 (-1)) ∧ Below w.heap.size w w' := by
 go_enter Tryz.func209, Tryz.ntmps209
 go_wp2
 go_loopw [5, 8] (fun _ s8 wr => s8 = .int .i64 0 ∧ wr = w) (fun _ _ _ => 0)
 case atStart => exact ⟨rfl, rfl⟩
 case round =>
  obtain ⟨rfl, rfl⟩ := hrel
  go_wp2
  go_ret
  exact ⟨rfl, Below.refl _ _⟩
theorem Sch.contains (g : Nat) (lb : Array Value) (eg : ∀ args w, (callFunc g args).run Tryz.prog w = .ok (.enter g args) w) (p : Reg → Bool) (A : Option Addr) (n c : Nat) (l : List Reg) (w : World)
  (hp : PredBelow Tryz.prog g lb winVal p w) (h : RdG w w.heap.size A n l) (hn : n ≤ 9223372036854775807) :
  Calls Tryz.prog 190 #[.slice A n c, .func (.func g) #[] lb] w fun e w' => e = .returned (.bool (l.any p)) ∧ Below w.heap.size w w' := by
 rcases Nat.eq_zero_or_pos n with rfl | hpos
 ·obtain rfl : l = [] := List.length_eq_zero_iff.1 h.1
  go_enter Tryz.func190, Tryz.ntmps190
  go_wp2_with fail
  refine (Sch.index0 g lb A c w).mono ?_
  rintro e w1 ⟨rfl, hb⟩
  go_wp2_with fail
  go_ret
  exact ⟨rfl, hb⟩
 ·obtain ⟨b, o, rfl, hb, hc⟩ := h.2 hpos
  have := AnyQ.slices_ContainsFunc shContainsS 2 Tryz.isAgg82 Tryz.sizeOf82 regL (fun _ => rfl) p g lb eg b o n c l w hp (Nat.le_of_eq h.1.symm) hn hb (RdG.shelf h.1 hc)
  rw [List.take_of_length_le (Nat.le_of_eq h.1)] at this
  exact this
theorem Sch.isWrong (b s : Int) (w : World) :
  Calls Tryz.prog 207 #[.agg #[.int .i64 b, .int .i64 s]] w fun e w' => e = .returned (.bool (!okW (b, s))) ∧ Below w.heap.size w w' := by
 go_enter Tryz.func207, Tryz.ntmps207
 go_wp2
 all_goals (go_ret; refine ⟨ret_bool ?_, (Below.refl _ _).alloc (Nat.le_refl _) _⟩; rw [Bool.eq_iff_iff, Bool.not_eq_true', ← Bool.not_eq_true, okW_iff]; simp only [Bool.or_eq_true, decide_eq_true_eq, Bool.false_eq_true, false_iff, true_iff] at *; omega)
theorem Sch.wrong (lb : Array Value) (w : World) (hl : lb = #[]) : PredBelow Tryz.prog 207 lb winVal (fun x => !okW x) w := fun W x hb => by
 subst hl
 show Calls Tryz.prog 207 #[.agg #[.int .i64 x.1, .int .i64 x.2]] W _
 refine (Sch.isWrong x.1 x.2 W).mono ?_
 rintro e w1 ⟨rfl, hb'⟩
 exact ⟨rfl, hb.trans (hb'.mono hb.size)⟩
def SumR (l : List Reg) (n : Nat) (w : World) (s3 s8 : Value) (wr : World) : Prop :=
 ∃ k : Nat, k ≤ n ∧ s8 = .int .i64 (k : Int) ∧ s3 = .int .i64 (sumW (l.take k)) ∧ Below w.heap.size w wr
theorem Sch.sum (A : Option Addr) (n c : Nat) (l : List Reg) (w : World) (h : RdG w w.heap.size A n l) (hn : n ≤ 12) (ok : ∀ x ∈ l, okW x = true) :
  Calls Tryz.prog 208 #[.slice A n c] w fun e w' => e = .returned (.int .i64 (sumW l)) ∧ Below w.heap.size w w' := by
 have R := qH h
 have HN := qH hn
 have OK := qH ok
 clear h hn ok
 go_enter Tryz.func208, Tryz.ntmps208
 go_wp2
 go_loopw [3, 5, 8] (fun s3 _ s8 wr => SumR l n w s3 s8 wr) (fun _ _ s8 _ => n - (intOf s8).toNat)
 case atStart => exact ⟨0, Nat.zero_le _, rfl, rfl, Below.refl _ _⟩
 case round =>
  obtain ⟨k, hk, rfl, rfl, hb⟩ := hrel
  have BB := qH hb
  clear hb
  by_cases hlt : k < n
  ·obtain ⟨b, o, rfl, hbo, hc⟩ := (R.out.to BB.out).2 (by omega)
   have c0 := (hc k hlt).1
   have c1 := (hc k hlt).2
   have hltI : (k : Int) < (n : Int) := by omega
   have HK : Hid (k < n) := hlt
   have HS := qH (sumW_succ (l := l) (k := k) (by rw [R.out.1]; exact hlt))
   have h1 := sumW_take_le OK.out k
   have h2 := sumW_ge OK.out
   have h3 := okW_at OK.out (k := k) (by rw [R.out.1]; exact hlt)
   have h4 := R.out.1
   have h5 := HN.out
   have hw : IntKind.i64.wrap (sumW (l.take k) + (rat l k).1) = sumW (l.take k) + (rat l k).1 := by rw [IntKind.wrap_i64]; omega
   have hwk : IntKind.i64.wrap ((k : Int) + 1) = (k : Int) + 1 := by rw [IntKind.wrap_i64]; omega
   clear hc hk hlt hbo h1 h2 h3 h4 h5
   go_wp2
   go_roundw
   case rel => exact ⟨k + 1, HK.out, by go_num, by rw [HS.out], BB.out.alloc BB.out.size _⟩
   case measure => have := HK.out; simp [intOf]; omega
  ·obtain rfl : k = n := by omega
   have hltI : ¬ (k : Int) < (k : Int) := by omega
   clear hk hlt
   rw [List.take_of_length_le (by rw [R.out.1]; exact Nat.le_refl _)]
   go_wp2
   go_ret
   exact ⟨rfl, BB.out⟩
theorem Sch.may (A : Option Addr) (n c : Nat) (l : List Reg) (w : World) (h : RdG w w.heap.size A n l) (hn : n ≤ 9223372036854775807) :
  Calls Tryz.prog 189 #[.slice A n c] w fun e w' => e = .returned (.bool (mayW l)) ∧ Below w.heap.size w w' := by
 have R := qH h
 have HN := qH hn
 have eg : ∀ args w, (callFunc 207 args).run Tryz.prog w = .ok (.enter 207 args) w := enters_of Tryz.func207 (by kernel_rfl) rfl
 have EG := qH eg
 clear h hn eg
 by_cases h0 : n = 0
 ·subst h0
  have HF : Hid (mayW l = false) := by
   show _ = _
   obtain rfl : l = [] := List.length_eq_zero_iff.1 R.out.1
   rfl
  go_enter Tryz.func189, Tryz.ntmps189
  go_wp2_with fail
  go_ret
  exact ⟨by rw [HF.out]; rfl, Below.refl _ _⟩
 have hz : ((n : Int) == 0) = false := by
  have : (n : Int) ≠ 0 := by omega
  simpa using this
 by_cases h12 : 12 < n
 ·have h12I : (n : Int) > 12 := by omega
  have HF : Hid (mayW l = false) := by
   show _ = _
   rw [Bool.eq_false_iff]
   intro hm
   have := (mayW_iff.1 hm).2.1
   have := R.out.1
   omega
  clear h0 h12
  go_enter Tryz.func189, Tryz.ntmps189
  go_wp2_with fail
  go_ret
  exact ⟨by rw [HF.out]; rfl, Below.refl _ _⟩
 have h12I : ¬ (n : Int) > 12 := by omega
 have H12 : Hid (n ≤ 12 ∧ n ≠ 0) := by (show _ ∧ _); omega
 clear h0 h12
 go_enter Tryz.func189, Tryz.ntmps189
 go_wp2_with fail
 refine (Sch.contains _ _ EG.out _ A n c l _ (Sch.wrong _ _ rfl) R.out HN.out).mono ?_
 rintro e w1 ⟨rfl, hb⟩
 have B := qH hb
 clear hb
 cases ha : l.any (fun x => !okW x)
 ·have OK : Hid (∀ x ∈ l, okW x = true) := by
   intro x hx
   have := List.any_eq_false.1 ha x hx
   simpa using this
  clear ha
  go_wp2_with fail
  refine (Sch.sum A n c l w1 (R.out.to B.out) H12.out.1 OK.out).mono ?_
  rintro e w2 ⟨rfl, hb⟩
  replace B := qH (B.out.trans (hb.mono B.out.size))
  clear hb
  go_wp2_with fail
  all_goals (go_ret; refine ⟨ret_bool ?_, B.out⟩; rw [Bool.eq_iff_iff, mayW_iff]; have := H12.out; have := R.out.1; have := OK.out; simp only [decide_eq_true_eq, Bool.false_eq_true, false_iff, true_iff] at *; first | exact ⟨fun _ => ⟨by omega, by omega, OK.out, by omega⟩, fun _ => by omega⟩ | exact ⟨fun _ => ⟨by omega, by omega, OK.out, by omega⟩, fun h => h.2.2.2⟩ | skip)
 ·have HF : Hid (mayW l = false) := by
   show _ = _
   rw [Bool.eq_false_iff]
   intro hm
   obtain ⟨x, hx, hn⟩ := List.any_eq_true.1 ha
   have := may_ok hm x hx
   rw [this] at hn
   cases hn
  clear ha
  go_wp2_with fail
  go_ret
  exact ⟨by rw [HF.out]; rfl, B.out⟩
end
section
open Go.RowKit
theorem any_rat (l : List Reg) (p : Reg → Bool) : l.any p = anyN (fun i => p (rat l i)) l.length := by
 rw [Bool.eq_iff_iff, List.any_eq_true, anyN_iff]
 constructor
 ·rintro ⟨x, hx, hp⟩
  obtain ⟨i, hi, rfl⟩ := List.getElem_of_mem hx
  exact ⟨i, hi, by rw [rat_lt hi]; exact hp⟩
 ·rintro ⟨i, hi, hp⟩
  exact ⟨rat l i, by rw [rat_lt hi]; exact List.getElem_mem _, hp⟩
theorem idx_any (p : Nat → Bool) (n : Nat) : decide (0 ≤ idxB p n) = anyN p n := by
 rcases idxB_cases p n with ⟨k, hk, _, hp, e⟩ | ⟨hn, e⟩
 ·rw [e, anyN_iff.2 ⟨k, hk, hp⟩]; simp
 ·rw [e, anyN_no.2 hn]; rfl
theorem wHasV (v : CV) (c : Cf) (id : Int) (w : World) (h : RdCf w w.heap.size v c) (hp : v.np ≤ 1000) :
  Calls Tryz.prog 192 #[.agg #[.slice v.aw v.nw v.kw, .slice v.ap v.np v.kp, .slice v.ac v.nc v.kc], .int .i64 id] w fun x w' => x = .returned (.bool (hasP c id)) ∧ Below w.heap.size w w' := by
 obtain ⟨w1, hw1, hb1, hx, hr⟩ := one_box w h
 have R := qH hr
 have X := qH hx
 have B := qH hb1
 have HW := qH hw1
 have HP := qH hp
 clear h hp hw1 hb1 hx hr
 go_enter Tryz.func192, Tryz.ntmps192
 go_upto_region 1 with (fail)
 rw [show w.alloc (.cells #[.slice v.aw v.nw v.kw, .slice v.ap v.np v.kp, .slice v.ac v.nc v.kc] 28) = w1 from HW.out]
 clear HW
 have x0 := X.out.at (j := 0) rfl
 have x1 := X.out.at (j := 1) rfl
 have x2 := X.out.at (j := 2) rfl
 go_wp2_with fail
 refine (wPart v c id w1 R.out HP.out).mono ?_
 rintro e w2 ⟨A3, m3, c3, rfl, ho, hc1, hc2, hb⟩
 have B2 := qH (B.out.trans (hb.mono B.out.size))
 obtain ⟨d, hd⟩ : ∃ d, decide (0 ≤ findP c.ps id) = d := ⟨_, rfl⟩
 have HD : Hid (d = hasP c id) := by (show _ = _); rw [← hd]; rfl
 simp only [hd]
 generalize partV c id = p at *
 clear hd ho hc1 hc2 hb x0 x1 x2
 go_wp2_with fail
 go_ret
 exact ⟨ret_bool HD.out, B2.out.alloc B2.out.size _⟩
theorem pWinV (v : CV) (c : Cf) (g : Nat) (w : World) (h : RdCf w w.heap.size v c) (hx : Bx w g 28 (cfL v)) (hp : v.np ≤ 1000) :
  PredBelow Tryz.prog 191 #[.pointer (some ⟨g, 0, none⟩)] winVal (fun x => decide (x.2 ≠ 0) && !hasP c x.2) w := fun W x hb => by
 obtain ⟨a, s⟩ := x
 have BA := qH ((Below.refl W.heap.size W).alloc (Nat.le_refl _) (.cells #[.int .i64 a, .int .i64 s] 82))
 have R := qH ((h.to hb).to BA.out)
 have X := qH ((hx.to hb).to BA.out)
 have HB := qH (hb.trans (BA.out.mono hb.size))
 have HP := qH hp
 show Calls Tryz.prog 191 #[.agg #[.int .i64 a, .int .i64 s], .pointer (some ⟨g, 0, none⟩)] W _
 clear h hx hb hp
 go_enter Tryz.func191, Tryz.ntmps191
 have x0 := X.out.at (j := 0) rfl
 have x1 := X.out.at (j := 1) rfl
 have x2 := X.out.at (j := 2) rfl
 by_cases h0 : s = 0
 ·subst h0
  go_wp2_with fail
  go_ret
  exact ⟨rfl, HB.out⟩
 ·have hn : (s != 0) = true := bne_iff_ne.2 h0
  have HD : Hid (decide (s ≠ 0) = true) := by (show _ = _); exact decide_eq_true h0
  clear h0
  go_wp2_with fail
  refine (wHasV v c s _ R.out HP.out).mono ?_
  rintro e w2 ⟨rfl, hb⟩
  have B2 := qH (HB.out.trans (hb.mono HB.out.size))
  obtain ⟨d, hd⟩ : ∃ d, hasP c s = d := ⟨_, rfl⟩
  rw [hd]
  have HE := qH hd
  clear hd hb
  go_wp2_with fail
  go_ret
  exact ⟨ret_bool (by show _ = (decide (s ≠ 0) && !hasP c s); rw [HD.out, HE.out]; rfl), B2.out⟩
theorem fltW_eq {c : Cf} (h : mayW c.ws = true) : (c.ws.any fun x => decide (x.2 ≠ 0) && !hasP c x.2) = fltW c := by
 unfold fltW wrW
 rw [h, any_rat]; rfl
theorem fltW_no {c : Cf} (h : mayW c.ws = false) : fltW c = true := by
 unfold fltW
 rw [h]; rfl
theorem wWrongW (v : CV) (c : Cf) (w : World) (h : RdCf w w.heap.size v c) (hw : v.nw ≤ 1000) (hp : v.np ≤ 1000) :
  Calls Tryz.prog 165 #[.agg #[.slice v.aw v.nw v.kw, .slice v.ap v.np v.kp, .slice v.ac v.nc v.kc]] w fun x w' => x = .returned (.bool (fltW c)) ∧ Below w.heap.size w w' := by
 obtain ⟨w1, hw1, hb1, hx, hr⟩ := one_box w h
 have R := qH hr
 have X := qH hx
 have B := qH hb1
 have HW := qH hw1
 have HP := qH hp
 have HN := qH hw
 have eg : ∀ args w, (callFunc 191 args).run Tryz.prog w = .ok (.enter 191 args) w := enters_of Tryz.func191 (by kernel_rfl) rfl
 have EG := qH eg
 clear h hw hp hw1 hb1 hx hr eg
 go_enter Tryz.func165, Tryz.ntmps165
 go_upto_region 1 with (fail)
 rw [show w.alloc (.cells #[.slice v.aw v.nw v.kw, .slice v.ap v.np v.kp, .slice v.ac v.nc v.kc] 28) = w1 from HW.out]
 clear HW
 have x0 := X.out.at (j := 0) rfl
 go_wp2_with fail
 refine (Sch.may v.aw v.nw v.kw c.ws w1 R.out.ww (by have := HN.out; omega)).mono ?_
 rintro e w2 ⟨rfl, hb⟩
 have B2 := qH (B.out.trans (hb.mono B.out.size))
 replace R := qH (R.out.to hb)
 replace X := qH (X.out.to hb)
 clear hb x0
 have x0 := X.out.at (j := 0) rfl
 cases hm : mayW c.ws
 ·have HF := qH (fltW_no hm)
  clear hm
  go_wp2_with fail
  go_ret
  exact ⟨ret_bool HF.out.symm, B2.out⟩
 ·have HF := qH (fltW_eq hm)
  clear hm
  go_wp2_with fail
  refine (Sch.contains _ _ EG.out _ v.aw v.nw v.kw c.ws w2 (pWinV v c w.heap.size w2 R.out X.out HP.out) R.out.ww (by have := HN.out; omega)).mono ?_
  rintro e w3 ⟨rfl, hb⟩
  have B3 := qH (B2.out.trans (hb.mono B2.out.size))
  rw [HF.out]
  clear hb
  go_wp2_with fail
  go_ret
  exact ⟨rfl, B3.out⟩
theorem pRegV (c : Cf) (w : World) (n : Nat) : PredP w 193 #[] n c.ps (wrR c) := fun k hk A m cc W hb hr => by
 show Calls Tryz.prog 193 #[.agg #[.int .i64 (ptAt c.ps k).id, .int .i64 (ptAt c.ps k).base, .int .i64 (ptAt c.ps k).size, .bool (ptAt c.ps k).keep, .slice A m cc]] W fun e w' => e = .returned (.bool (wrR c k)) ∧ Below W.heap.size W w'
 have HV : Hid (wrR c k = (!mayR ((ptAt c.ps k).base, (ptAt c.ps k).size) || decide ((ptAt c.ps k).size < ((ptAt c.ps k).img.length : Int)))) := rfl
 rw [HV.out]
 clear HV
 generalize ptAt c.ps k = p at *
 have HL := qH hr.1
 have BA := qH ((Below.refl W.heap.size W).alloc (Nat.le_refl _) (.cells #[.int .i64 p.id, .int .i64 p.base, .int .i64 p.size, .bool p.keep, .slice A m cc] 58))
 have P1 : Bx (W.alloc (.cells #[.int .i64 p.id, .int .i64 p.base, .int .i64 p.size, .bool p.keep, .slice A m cc] 58)) W.heap.size 58 [.int .i64 p.id, .int .i64 p.base, .int .i64 p.size, .bool p.keep, .slice A m cc] := Bx.new W _ [.int .i64 p.id, .int .i64 p.base, .int .i64 p.size, .bool p.keep, .slice A m cc]
 have P := qH P1
 obtain ⟨w1, hw1⟩ : ∃ x, W.alloc (.cells #[.int .i64 p.id, .int .i64 p.base, .int .i64 p.size, .bool p.keep, .slice A m cc] 58) = x := ⟨_, rfl⟩
 rw [hw1] at BA P
 have HW := qH hw1
 clear hr hb hw1 P1
 go_enter Tryz.func193, Tryz.ntmps193
 go_upto_region 1 with (fail)
 rw [HW.out]
 clear HW
 have y1 := P.out.at (j := 1) rfl
 have y2 := P.out.at (j := 2) rfl
 go_wp2_with fail
 refine (wMayR p.base p.size w1).mono ?_
 rintro e w2 ⟨rfl, hb⟩
 replace BA := qH (BA.out.trans (hb.mono BA.out.size))
 replace P := qH (P.out.to hb)
 clear hb y1 y2
 have y2 := P.out.at (j := 2) rfl
 have y4 := P.out.at (j := 4) rfl
 cases hm : mayR (p.base, p.size)
 ·have HM := qH hm
  clear hm
  go_wp2_with fail
  go_ret
  exact ⟨ret_bool (by rw [HM.out]; rfl), BA.out⟩
 ·have HM := qH hm
  clear hm
  go_wp2_with fail
  go_ret
  exact ⟨ret_bool (by rw [HM.out, HL.out]; rfl), BA.out⟩
theorem wWrongR (v : CV) (c : Cf) (w : World) (h : RdCf w w.heap.size v c) (hp : v.np ≤ 1000) :
  Calls Tryz.prog 167 #[.agg #[.slice v.aw v.nw v.kw, .slice v.ap v.np v.kp, .slice v.ac v.nc v.kc]] w fun x w' => x = .returned (.bool (fltR c)) ∧ Below w.heap.size w w' := by
 obtain ⟨w1, hw1, hb1, hx, hr⟩ := one_box w h
 have R := qH hr
 have X := qH hx
 have B := qH hb1
 have HW := qH hw1
 have HP := qH hp
 have HF : Hid (decide (0 ≤ idxB (wrR c) v.np) = fltR c) := by (show _ = _); rw [idx_any]; unfold fltR; rw [h.pp.1]
 have eg : ∀ args w, (callFunc 193 args).run Tryz.prog w = .ok (.enter 193 args) w := enters_of Tryz.func193 (by kernel_rfl) rfl
 have EG := qH eg
 clear h hp hw1 hb1 hx hr eg
 go_enter Tryz.func167, Tryz.ntmps167
 go_upto_region 1 with (fail)
 rw [show w.alloc (.cells #[.slice v.aw v.nw v.kw, .slice v.ap v.np v.kp, .slice v.ac v.nc v.kc] 28) = w1 from HW.out]
 clear HW
 have x1 := X.out.at (j := 1) rfl
 go_wp2_with fail
 refine (wContainsP _ _ EG.out _ v.ap v.np v.kp c.ps w1 (pRegV c w1 v.np) R.out.pp HP.out).mono ?_
 rintro e w2 ⟨rfl, hb⟩
 have B2 := qH (B.out.trans (hb.mono B.out.size))
 rw [HF.out]
 clear hb
 go_wp2_with fail
 go_ret
 exact ⟨rfl, B2.out⟩
theorem pChanV (v : CV) (c : Cf) (g : Nat) (w : World) (n : Nat) (h : RdCf w w.heap.size v c) (hx : Bx w g 28 (cfL v)) (hp : v.np ≤ 1000) :
  PredC w 198 #[.pointer (some ⟨g, 0, none⟩)] n c.cs (wrC c) := fun k hk W hb => by
 show Calls Tryz.prog 198 #[.agg #[.int .i64 (chAt c.cs k).id, .int .i64 (chAt c.cs k).fr, .int .i64 (chAt c.cs k).dst, .int .i64 (chAt c.cs k).cap, .int .i64 (chAt c.cs k).size], .pointer (some ⟨g, 0, none⟩)] W fun e w' => e = .returned (.bool (wrC c k)) ∧ Below W.heap.size W w'
 have HV : Hid (wrC c k = (!hasP c (chAt c.cs k).fr || !hasP c (chAt c.cs k).dst)) := rfl
 rw [HV.out]
 clear HV
 generalize chAt c.cs k = p at *
 have BA := qH ((Below.refl W.heap.size W).alloc (Nat.le_refl _) (.cells #[.int .i64 p.id, .int .i64 p.fr, .int .i64 p.dst, .int .i64 p.cap, .int .i64 p.size] 130))
 have P1 : Bx (W.alloc (.cells #[.int .i64 p.id, .int .i64 p.fr, .int .i64 p.dst, .int .i64 p.cap, .int .i64 p.size] 130)) W.heap.size 130 [.int .i64 p.id, .int .i64 p.fr, .int .i64 p.dst, .int .i64 p.cap, .int .i64 p.size] := Bx.new W _ [.int .i64 p.id, .int .i64 p.fr, .int .i64 p.dst, .int .i64 p.cap, .int .i64 p.size]
 have P := qH P1
 have R := qH ((h.to hb).to BA.out)
 have X := qH ((hx.to hb).to BA.out)
 obtain ⟨w1, hw1⟩ : ∃ x, W.alloc (.cells #[.int .i64 p.id, .int .i64 p.fr, .int .i64 p.dst, .int .i64 p.cap, .int .i64 p.size] 130) = x := ⟨_, rfl⟩
 rw [hw1] at BA P R X
 have HW := qH hw1
 have HP := qH hp
 clear h hx hp hb hw1 P1
 go_enter Tryz.func198, Tryz.ntmps198
 go_upto_region 1 with (fail)
 rw [HW.out]
 clear HW
 have y1 := P.out.at (j := 1) rfl
 have x0 := X.out.at (j := 0) rfl
 have x1 := X.out.at (j := 1) rfl
 have x2 := X.out.at (j := 2) rfl
 go_wp2_with fail
 refine (wHasV v c p.fr w1 R.out HP.out).mono ?_
 rintro e w2 ⟨rfl, hb⟩
 replace BA := qH (BA.out.trans (hb.mono BA.out.size))
 replace P := qH (P.out.to hb)
 replace R := qH (R.out.to hb)
 replace X := qH (X.out.to hb)
 clear hb y1 x0 x1 x2
 cases hm : hasP c p.fr
 ·have HM := qH hm
  clear hm
  go_wp2_with fail
  go_ret
  exact ⟨ret_bool (by rw [HM.out]; rfl), BA.out⟩
 ·have HM := qH hm
  clear hm
  have y2 := P.out.at (j := 2) rfl
  have x0 := X.out.at (j := 0) rfl
  have x1 := X.out.at (j := 1) rfl
  have x2 := X.out.at (j := 2) rfl
  go_wp2_with fail
  refine (wHasV v c p.dst w2 R.out HP.out).mono ?_
  rintro e w3 ⟨rfl, hb⟩
  replace BA := qH (BA.out.trans (hb.mono BA.out.size))
  obtain ⟨d, hd⟩ : ∃ d, hasP c p.dst = d := ⟨_, rfl⟩
  rw [hd]
  have HD := qH hd
  clear hd hb
  go_wp2_with fail
  go_ret
  exact ⟨ret_bool (by rw [HM.out, HD.out]; rfl), BA.out⟩
theorem wContainsCh (g : FuncId) (lb : Array Value) (eg : ∀ args w, (callFunc g args).run Tryz.prog w = .ok (.enter g args) w) (p : Nat → Bool) (A : Option Addr) (n c : Nat) (l : List Ch) (w : World)
  (hp : PredC w g lb n l p) (h : RdC w w.heap.size A n l) (hn : n ≤ 1000) :
  Calls Tryz.prog 197 #[.slice A n c, .func (.func g) #[] lb] w fun e w' => e = .returned (.bool (decide (0 ≤ idxB p n))) ∧ Below w.heap.size w w' := by
 have W := qH (wIndexC g lb eg p A n c l w hp h hn)
 clear h hp hn
 go_enter Tryz.func197, Tryz.ntmps197
 go_wp2_with fail
 refine W.out.mono ?_
 rintro e w1 ⟨rfl, hb⟩
 have B := qH hb
 obtain ⟨x, hx⟩ : ∃ x, idxB p n = x := ⟨_, rfl⟩
 rw [hx]
 replace hx := qH hx
 go_wp2_with fail
 go_ret
 exact ⟨by rw [hx.out]; rfl, B.out⟩
theorem wWrongC (v : CV) (c : Cf) (w : World) (h : RdCf w w.heap.size v c) (hp : v.np ≤ 1000) (hc : v.nc ≤ 1000) :
  Calls Tryz.prog 169 #[.agg #[.slice v.aw v.nw v.kw, .slice v.ap v.np v.kp, .slice v.ac v.nc v.kc]] w fun x w' => x = .returned (.bool (fltC c)) ∧ Below w.heap.size w w' := by
 obtain ⟨w1, hw1, hb1, hx, hr⟩ := one_box w h
 have R := qH hr
 have X := qH hx
 have B := qH hb1
 have HW := qH hw1
 have HP := qH hp
 have HN := qH hc
 have LC : Hid (c.cs.length = v.nc) := h.cc.1
 have eg : ∀ args w, (callFunc 198 args).run Tryz.prog w = .ok (.enter 198 args) w := enters_of Tryz.func198 (by kernel_rfl) rfl
 have EG := qH eg
 clear h hp hc hw1 hb1 hx hr eg
 go_enter Tryz.func169, Tryz.ntmps169
 go_upto_region 1 with (fail)
 rw [show w.alloc (.cells #[.slice v.aw v.nw v.kw, .slice v.ap v.np v.kp, .slice v.ac v.nc v.kc] 28) = w1 from HW.out]
 clear HW
 have x2 := X.out.at (j := 2) rfl
 by_cases h8 : 8 < v.nc
 ·have hI : (8 : Int) < (v.nc : Int) := by omega
  have HF : Hid (fltC c = true) := by (show _ = _); unfold fltC; rw [LC.out, decide_eq_true h8]; rfl
  clear h8
  go_wp2_with fail
  go_ret
  exact ⟨ret_bool HF.out.symm, B.out⟩
 ·have hI : ¬ (8 : Int) < (v.nc : Int) := by omega
  have H8 : Hid (decide (8 < v.nc) = false) := by (show _ = _); exact decide_eq_false h8
  clear h8
  go_wp2_with fail
  refine (wAll v.ac v.nc v.kc c.cs w1 R.out.cc HN.out).mono ?_
  rintro e w2 ⟨rfl, hb⟩
  replace B := qH (B.out.trans (hb.mono B.out.size))
  replace R := qH (R.out.to hb)
  replace X := qH (X.out.to hb)
  clear hb x2
  have x2 := X.out.at (j := 2) rfl
  by_cases ha : allE c.cs = 0
  ·have HF : Hid (decide (0 ≤ idxB (wrC c) v.nc) = fltC c) := by (show _ = _); rw [idx_any]; unfold fltC; rw [LC.out, H8.out, decide_eq_false (not_not_intro ha)]; rfl
   rw [ha]
   clear ha
   go_wp2_with fail
   refine (wContainsCh _ _ EG.out _ v.ac v.nc v.kc c.cs w2 (pChanV v c w.heap.size w2 v.nc R.out X.out HP.out) R.out.cc HN.out).mono ?_
   rintro e w3 ⟨rfl, hb⟩
   have B3 := qH (B.out.trans (hb.mono B.out.size))
   rw [HF.out]
   clear hb
   go_wp2_with fail
   go_ret
   exact ⟨rfl, B3.out⟩
  ·have HF : Hid (fltC c = true) := by (show _ = _); unfold fltC; rw [decide_eq_true ha, Bool.or_true]; rfl
   obtain ⟨z, hz⟩ : ∃ z, allE c.cs = z := ⟨_, rfl⟩
   rw [hz] at ha ⊢
   have hn : (z != 0) = true := bne_iff_ne.2 ha
   clear ha hz
   go_wp2_with fail
   go_ret
   exact ⟨ret_bool HF.out.symm, B.out⟩
end
section
open Go.RowKit
def lastP (c : Cf) (k : Nat) : Int := if k = 0 then 0 else (ptAt c.ps (k - 1)).id
theorem lastP_wr {c : Cf} {k : Nat} (h : ∀ j, j < k → wrP c j = false) : wrP c k = (decide ((ptAt c.ps k).id ≤ lastP c k) || decide (6 < (ptAt c.ps k).id)) := by
 rw [Bool.eq_iff_iff]
 cases k with
 | zero =>
  simp only [wrP, lastP, Bool.or_eq_true, Bool.and_eq_true, decide_eq_true_eq, if_true]
  omega
 | succ k =>
  have h1 := h k (Nat.lt_succ_self k)
  rw [Bool.eq_false_iff] at h1
  simp only [wrP, lastP, Bool.or_eq_true, Bool.and_eq_true, decide_eq_true_eq, ne_eq, not_or, not_and, Nat.succ_ne_zero, if_false, Nat.succ_sub_one, Nat.add_sub_cancel, Nat.add_one_ne_zero] at h1 ⊢
  omega
theorem fltP_no {c : Cf} (h : ∀ j, j < c.ps.length → wrP c j = false) (h0 : c.ps.length ≠ 0) (h6 : ¬ 6 < c.ps.length) : fltP c = false := by
 unfold fltP
 rw [anyN_no.2 h, decide_eq_false h0, decide_eq_false h6]; rfl
theorem fltP_at {c : Cf} {k : Nat} (hk : k < c.ps.length) (h : wrP c k = true) : fltP c = true := by
 unfold fltP
 rw [anyN_iff.2 ⟨k, hk, h⟩, Bool.or_true]
theorem fltP_len {c : Cf} (h : c.ps.length = 0 ∨ 6 < c.ps.length) : fltP c = true := by
 unfold fltP
 rcases h with h | h
 ·rw [decide_eq_true h]; rfl
 ·rw [decide_eq_true h, Bool.or_true]; rfl
theorem wWrongP (v : CV) (c : Cf) (w : World) (h : RdCf w w.heap.size v c) (hp : v.np ≤ 1000) :
  Calls Tryz.prog 166 #[.agg #[.slice v.aw v.nw v.kw, .slice v.ap v.np v.kp, .slice v.ac v.nc v.kc]] w fun x w' => x = .returned (.bool (fltP c)) ∧ Below w.heap.size w w' := by
 obtain ⟨w1, hw1, hb1, hx, hr⟩ := one_box w h
 have R := qH hr
 have X := qH hx
 have B := qH hb1
 have HW := qH hw1
 have LP : Hid (c.ps.length = v.np) := h.pp.1
 clear h hp hw1 hb1 hx hr
 go_enter Tryz.func166, Tryz.ntmps166
 go_upto_region 1 with (fail)
 rw [show w.alloc (.cells #[.slice v.aw v.nw v.kw, .slice v.ap v.np v.kp, .slice v.ac v.nc v.kc] 28) = w1 from HW.out]
 clear HW
 have x1 := X.out.at (j := 1) rfl
 by_cases h0 : v.np = 0
 ·have hI : ((v.np : Int) == 0) = true := by rw [beq_iff_eq]; omega
  have HF : Hid (true = fltP c) := (fltP_len (.inl (by rw [LP.out]; exact h0))).symm
  clear h0
  go_wp2_with fail
  go_ret
  exact ⟨ret_bool HF.out, B.out⟩
 have hI : ((v.np : Int) == 0) = false := by rw [beq_eq_false_iff_ne]; omega
 have H0 : Hid (c.ps.length ≠ 0) := by (show _ ≠ _); rw [LP.out]; exact h0
 clear h0
 by_cases h6 : 6 < v.np
 ·have hJ : (6 : Int) < (v.np : Int) := by omega
  have HF : Hid (true = fltP c) := (fltP_len (.inr (by rw [LP.out]; exact h6))).symm
  clear h6
  go_wp2_with fail
  go_ret
  exact ⟨ret_bool HF.out, B.out⟩
 have hJ : ¬ (6 : Int) < (v.np : Int) := by omega
 have H6 : Hid (¬ 6 < c.ps.length) := by (show ¬ _); rw [LP.out]; exact h6
 have HN : Hid (v.np ≤ 6) := by (show _ ≤ _); omega
 clear h6
 go_wp2_with fail
 clear x1 hI hJ
 go_loopw [3, 5, 19] (fun s3 _ s19 wr => ∃ k : Nat, k ≤ v.np ∧ s19 = .int .i64 (k : Int) ∧ s3 = .int .i64 (lastP c k) ∧ (∀ j, j < k → wrP c j = false) ∧ Below w1.heap.size w1 wr) (fun _ _ s19 _ => v.np - (intOf s19).toNat)
 case atStart => exact ⟨0, Nat.zero_le _, rfl, rfl, fun j hj => absurd hj (Nat.not_lt_zero _), Below.refl _ _⟩
 case round =>
  obtain ⟨k, hk, rfl, rfl, hno, hbel⟩ := hrel
  have BD := qH hbel
  have NO := qH hno
  have HK := qH hk
  clear hbel hno hk
  by_cases hlt : k < v.np
  ·have hltI : (k : Int) < (v.np : Int) := by omega
   have HLT := qH hlt
   have hwk : IntKind.i64.wrap ((k : Int) + 1) = (k : Int) + 1 := by have := HN.out; rw [IntKind.wrap_i64]; omega
   obtain ⟨b, o, A', m, c', hA, y0, y1, y2, y3, y4, _⟩ := (R.out.to BD.out).pp.at_ hlt
   rw [hA]
   obtain ⟨l, hl⟩ : ∃ l, lastP c k = l := ⟨_, rfl⟩
   obtain ⟨p, hp⟩ : ∃ p, ptAt c.ps k = p := ⟨_, rfl⟩
   have HWR : Hid (wrP c k = (decide (p.id ≤ l) || decide (6 < p.id))) := by (show _ = _); rw [lastP_wr NO.out, hl, hp]
   have HLS : Hid (lastP c (k + 1) = p.id) := by (show _ = _); rw [← hp]; rfl
   rw [hp] at y0 y1 y2 y3
   rw [hl]
   have hal := (Below.refl wr.heap.size wr).alloc (Nat.le_refl _) (.cells #[.int .i64 p.id, .int .i64 p.base, .int .i64 p.size, .bool p.keep, .slice A' m c'] 58)
   have B8 := qH (BD.out.trans (hal.mono BD.out.size))
   clear hl hp hA hlt hal
   by_cases h1 : p.id ≤ l
   ·have HF : Hid (true = fltP c) := (fltP_at (by rw [LP.out]; exact HLT.out) (by rw [HWR.out, decide_eq_true h1]; rfl)).symm
    go_wp2_with fail
    go_ret
    exact ⟨ret_bool HF.out, B.out.trans (B8.out.mono B.out.size)⟩
   by_cases h2 : 6 < p.id
   ·have HF : Hid (true = fltP c) := (fltP_at (by rw [LP.out]; exact HLT.out) (by rw [HWR.out, decide_eq_true h2, Bool.or_true])).symm
    go_wp2_with fail
    go_ret
    exact ⟨ret_bool HF.out, B.out.trans (B8.out.mono B.out.size)⟩
   have HF : Hid (wrP c k = false) := by (show _ = _); rw [HWR.out, decide_eq_false h1, decide_eq_false h2]; rfl
   go_wp2_with fail
   go_roundw
   case rel => exact ⟨k + 1, HLT.out, by go_num, by rw [HLS.out], fun j hj => by
    rcases Nat.lt_or_ge j k with g | g
    ·exact NO.out j g
    ·obtain rfl : j = k := by omega
     exact HF.out, B8.out⟩
   case measure => simp [intOf]; omega
  ·obtain rfl : k = v.np := by have := HK.out; omega
   have HF : Hid (false = fltP c) := (fltP_no (by rw [LP.out]; exact NO.out) H0.out H6.out).symm
   clear hlt
   go_wp2_with fail
   go_ret
   exact ⟨ret_bool HF.out, B.out.trans (BD.out.mono B.out.size)⟩
theorem vtGr : VT Tryz.prog 208 56 2 16 (.agg #[.int .i64 0, .int .i64 0]) := ⟨Tryz.underlying208, by kernel_rfl, rfl, by decide⟩
def ovl (c : Cf) (k : Nat) : List Reg := ((c.ps.take k).map regP).filter mayR
theorem ovl_succ {c : Cf} {k : Nat} (h : k < c.ps.length) : ovl c (k + 1) = ovl c k ++ (if mayR (regP (ptAt c.ps k)) = true then [regP (ptAt c.ps k)] else []) := by
 unfold ovl
 rw [List.take_succ_eq_append_getElem h, List.map_append, List.filter_append, ptAt_lt h]
 simp [List.filter_cons]
theorem ovl_len (c : Cf) (k : Nat) : (ovl c k).length ≤ k := by
 unfold ovl
 refine Nat.le_trans (List.length_filter_le _ _) ?_
 rw [List.length_map, List.length_take]; omega
theorem ovl_all (c : Cf) : decide (allR (ovl c c.ps.length) = 121) = fltO c := by
 have hm : (ovl c c.ps.length).any (fun r => !mayR r) = false := by
  rw [List.any_eq_false]
  intro x hx
  unfold ovl at hx
  rw [List.mem_filter] at hx
  rw [hx.2]; decide
 rw [allR_of hm]
 have hpw : (ovl c c.ps.length).Pairwise (fun a b => apartR a b = true) ↔ fltO c = false := by
  unfold ovl fltO
  rw [List.take_length, List.pairwise_filter, List.pairwise_map, List.pairwise_iff_getElem, anyN_no]
  constructor
  ·intro h i hi
   rw [anyN_no]
   intro k hk
   have := h k i (Nat.lt_trans hk hi) hi hk
   rw [← ptAt_lt hi, ← ptAt_lt (Nat.lt_trans hk hi)] at this
   unfold wrO
   cases h1 : mayR (regP (ptAt c.ps i))
   ·rfl
   cases h2 : mayR (regP (ptAt c.ps k))
   ·rfl
   rw [apartR_symm, this h2 h1]; rfl
  ·intro h k i hk hi hki h2 h1
   have := anyN_no.1 (h i hi) k hki
   rw [← ptAt_lt hi] at h1 ⊢
   rw [← ptAt_lt hk] at h2 ⊢
   unfold wrO at this
   rw [h1, h2, apartR_symm] at this
   simpa using this
 cases hf : fltO c
 ·rw [if_pos (hpw.2 hf)]; rfl
 ·rw [if_neg (fun h => by rw [hpw.1 h] at hf; cases hf)]; rfl
theorem wOverlaps (v : CV) (c : Cf) (w : World) (h : RdCf w w.heap.size v c) (hp : v.np ≤ 1000) :
  Calls Tryz.prog 168 #[.agg #[.slice v.aw v.nw v.kw, .slice v.ap v.np v.kp, .slice v.ac v.nc v.kc]] w fun x w' => x = .returned (.bool (fltO c)) ∧ Below w.heap.size w w' := by
 obtain ⟨w1, hw1, hb1, hx, hr⟩ := one_box w h
 have R := qH hr
 have X := qH hx
 have B := qH hb1
 have HW := qH hw1
 have HN := qH hp
 have LP : Hid (c.ps.length = v.np) := h.pp.1
 clear h hp hw1 hb1 hx hr
 go_enter Tryz.func168, Tryz.ntmps168
 go_upto_region 1 with (fail)
 rw [show w.alloc (.cells #[.slice v.aw v.nw v.kw, .slice v.ap v.np v.kp, .slice v.ac v.nc v.kc] 28) = w1 from HW.out]
 clear HW
 have x1 := X.out.at (j := 1) rfl
 go_wp2_with fail
 clear x1
 go_loopw [3, 5, 9] (fun s3 _ s9 wr => ∃ k : Nat, k ≤ v.np ∧ s9 = .int .i64 (k : Int) ∧ wr.ownsRow w1.heap.size 56 2 s3 (ovl c k).length (winsV (ovl c k)) ∧ Below w1.heap.size w1 wr) (fun _ _ s9 _ => v.np - (intOf s9).toNat)
 case atStart => exact ⟨0, Nat.zero_le _, rfl, ⟨rfl, .inl ⟨rfl, rfl⟩⟩, Below.refl _ _⟩
 case round =>
  obtain ⟨k, hk, rfl, ho, hbel⟩ := hrel
  obtain ⟨A3, c3, rfl⟩ := own_slV ho
  have O3 := qH ho
  have BD := qH hbel
  have HK := qH hk
  clear hbel ho hk
  by_cases hlt : k < v.np
  ·have hltI : (k : Int) < (v.np : Int) := by omega
   have HLT := qH hlt
   have hwk : IntKind.i64.wrap ((k : Int) + 1) = (k : Int) + 1 := by have := HN.out; rw [IntKind.wrap_i64]; omega
   obtain ⟨b, o, A', m, c', hA, y0, y1, y2, y3, y4, _⟩ := (R.out.to BD.out).pp.at_ hlt
   rw [hA]
   have HOV : Hid (ovl c (k + 1) = ovl c k ++ (if mayR ((ptAt c.ps k).base, (ptAt c.ps k).size) = true then [((ptAt c.ps k).base, (ptAt c.ps k).size)] else [])) := ovl_succ (by rw [LP.out]; exact hlt)
   generalize ptAt c.ps k = p at *
   have hal := (Below.refl wr.heap.size wr).alloc (Nat.le_refl _) (.cells #[.int .i64 p.id, .int .i64 p.base, .int .i64 p.size, .bool p.keep, .slice A' m c'] 58)
   have P1 : Bx (wr.alloc (.cells #[.int .i64 p.id, .int .i64 p.base, .int .i64 p.size, .bool p.keep, .slice A' m c'] 58)) wr.heap.size 58 [.int .i64 p.id, .int .i64 p.base, .int .i64 p.size, .bool p.keep, .slice A' m c'] := Bx.new wr _ [.int .i64 p.id, .int .i64 p.base, .int .i64 p.size, .bool p.keep, .slice A' m c']
   have P := qH P1
   have O4 := qH (own_bv O3.out hal)
   have B4 := qH (BD.out.trans (hal.mono BD.out.size))
   obtain ⟨gl, hgl⟩ : ∃ n, (ovl c k).length = n := ⟨_, rfl⟩
   have HGL : Hid (gl ≤ 1000) := by (show _ ≤ _); have := ovl_len c k; have := HN.out; omega
   have HGE := qH hgl
   rw [hgl] at O4 ⊢
   clear hA hlt hal P1 O3 hgl
   go_upto_region 5 with (fail)
   generalize wr.alloc (.cells #[.int .i64 p.id, .int .i64 p.base, .int .i64 p.size, .bool p.keep, .slice A' m c'] 58) = w4 at *
   clear y0 y1 y2 y3 y4
   have y1 := P.out.at (j := 1) rfl
   have y2 := P.out.at (j := 2) rfl
   go_wp2_with fail
   refine (wMayR p.base p.size w4).mono ?_
   rintro e w5 ⟨rfl, hb⟩
   replace P := qH (P.out.to hb)
   replace O4 := qH (own_bv O4.out hb)
   replace B4 := qH (B4.out.trans (hb.mono B4.out.size))
   clear hb y1 y2
   cases hm : mayR (p.base, p.size)
   ·have HOE : Hid (ovl c (k + 1) = ovl c k) := by (show _ = _); rw [HOV.out, hm, if_neg (by decide), List.append_nil]
    clear hm
    go_wp2_with fail
    go_roundw
    case rel => exact ⟨k + 1, HLT.out, by go_num, by rw [HOE.out, HGE.out]; exact O4.out, B4.out⟩
    case measure => simp [intOf]; omega
   ·have HOE : Hid (ovl c (k + 1) = ovl c k ++ [(p.base, p.size)]) := by (show _ = _); rw [HOV.out, hm, if_pos rfl]
    have y1 := P.out.at (j := 1) rfl
    have y2 := P.out.at (j := 2) rfl
    have hal := (Below.refl w5.heap.size w5).alloc (Nat.le_refl _) (.cells #[.int .i64 p.base, .int .i64 p.size] 56)
    have O7 := qH (own_bv O4.out hal)
    have N7 := qH (cells_newV w5 56 [.int .i64 p.base, .int .i64 p.size])
    have B8 := qH (B4.out.trans (hal.mono B4.out.size))
    clear hal hm
    go_wp2_with (at_builtin; refine wpList_pushV vtGr rfl (.tmp 16) (.tmp 19) rfl rfl rfl O7.out (m := 1) (news := winsV [(p.base, p.size)]) rfl (fun _ => ⟨_, rfl, N7.out⟩) (winsV_one _) B8.out.size (by have := HGL.out; omega) ?_; intro v9 w9 hown9 hk9 hv9; obtain ⟨A9, c9, rfl⟩ := own_slV hown9; have B9 := qH (hk9.below B8.out B8.out.size (fun k hk => (O7.out.lt k hk).1)); have O9 := qH hown9; clear hown9 hk9 hv9)
    have O10 : Hid (w9.ownsRow w1.heap.size 56 2 (.slice A9 (gl + 1) c9) (ovl c (k + 1)).length (winsV (ovl c (k + 1)))) := by (show World.ownsRow _ _ _ _ _ _ _); rw [HOE.out, List.length_append, winsV_app, HGE.out]; exact O9.out
    go_roundw
    case rel => exact ⟨k + 1, HLT.out, by go_num, O10.out, B9.out⟩
    case measure => simp [intOf]; omega
  ·obtain rfl : k = v.np := by have := HK.out; omega
   have HF : Hid (decide (allR (ovl c v.np) = 121) = fltO c) := by (show _ = _); rw [← LP.out]; exact ovl_all c
   obtain ⟨gl, hgl⟩ : ∃ n, (ovl c v.np).length = n := ⟨_, rfl⟩
   rw [hgl] at O3 ⊢
   obtain ⟨_, hc1, hc2⟩ := own_capV O3.out
   have HC1 := qH hc1
   have HC2 := qH hc2
   clear hlt hgl hc1 hc2
   go_wp2_with fail
   refine (wAllR A3 gl c3 (ovl c v.np) wr (RdG.of_ownV O3.out) HC1.out HC2.out).mono ?_
   rintro e w2 ⟨rfl, hb⟩
   replace BD := qH (BD.out.trans (hb.mono BD.out.size))
   obtain ⟨z, hz⟩ : ∃ z, allR (ovl c v.np) = z := ⟨_, rfl⟩
   rw [hz] at HF ⊢
   clear hb hz
   go_wp2_with fail
   go_ret
   refine ⟨ret_bool ?_, B.out.trans (BD.out.mono B.out.size)⟩
   rw [← HF.out, Bool.eq_iff_iff, beq_iff_eq, decide_eq_true_eq]
end
end Go.Proofs.YtlmdidblgeeplaaGreatDoor