/- The program's config: Can, copied, Part, Channel. -/
import Derived.Test.YtljgliagciblbaaCfQ
import Derived.Test.YtljgliagciblbaaBClone
import Derived.Test.YtljgliagciblbaaBx
import Derived.Test.YtljgliagciblbaaCfU
namespace Go.Proofs.Ytljgliagciblbaa
open Go.RowKit
set_option linter.unusedVariables false
set_option linter.unusedSimpArgs false

/-- A partition comes in a box. -/
theorem pCan (w : World) (n : Nat) (l : List Pt) : PredP w 39 #[] n l (fun k => !imgOk (ptAt l k)) := fun k hk A m c W hb hr => by
  show Calls Try.prog 39 #[.agg #[.int .i64 (ptAt l k).id, .int .i64 (ptAt l k).base, .int .i64 (ptAt l k).size, .bool (ptAt l k).keep, .slice A m c]] W fun e w' => e = .returned (.bool (!imgOk (ptAt l k))) ∧ Below W.heap.size W w'
  generalize ptAt l k = p at *
  have HL := Lib.hid hr.1
  have BA := Lib.hid ((Below.refl W.heap.size W).alloc (Nat.le_refl _) (.cells #[.int .i64 p.id, .int .i64 p.base, .int .i64 p.size, .bool p.keep, .slice A m c] 46))
  clear hr hb
  go_enter Try.func39, Try.ntmps39
  go_wp2_with fail
  go_ret
  refine ⟨?_, BA.out⟩
  show Ending.returned (.bool _) = _
  congr 2
  unfold imgOk
  rw [HL.out, Bool.eq_iff_iff]
  simp
  omega
theorem pPart (w : World) (n g : Nat) (l : List Pt) (id : Int) (hg : w.cell? ⟨g, 0, none⟩ = some (.int .i64 id)) : PredP w 62 #[.pointer (some ⟨g, 0, none⟩)] n l (fun k => (ptAt l k).id == id) := fun k hk A m c W hb hr => by
  show Calls Try.prog 62 #[.agg #[.int .i64 (ptAt l k).id, .int .i64 (ptAt l k).base, .int .i64 (ptAt l k).size, .bool (ptAt l k).keep, .slice A m c], .pointer (some ⟨g, 0, none⟩)] W fun e w' => e = .returned (.bool ((ptAt l k).id == id)) ∧ Below W.heap.size W w'
  generalize ptAt l k = p at *
  have BA := Lib.hid ((Below.refl W.heap.size W).alloc (Nat.le_refl _) (.cells #[.int .i64 p.id, .int .i64 p.base, .int .i64 p.size, .bool p.keep, .slice A m c] 46))
  have hg1 : W.cell? ⟨g, 0, none⟩ = some (.int .i64 id) := (hb.cell (p := ⟨g, 0, none⟩) (cell_block hg)).trans hg
  have hg2 : (W.alloc (.cells #[.int .i64 p.id, .int .i64 p.base, .int .i64 p.size, .bool p.keep, .slice A m c] 46)).cell? ⟨g, 0, none⟩ = some (.int .i64 id) := (BA.out.cell (p := ⟨g, 0, none⟩) (cell_block hg1)).trans hg1
  clear hr hb hg hg1
  go_enter Try.func62, Try.ntmps62
  go_wp2_with fail
  go_ret
  refine ⟨?_, BA.out⟩
  rfl
theorem pChannel (w : World) (n g : Nat) (l : List Ch) (id : Int) (hg : w.cell? ⟨g, 0, none⟩ = some (.int .i64 id)) : PredC w 65 #[.pointer (some ⟨g, 0, none⟩)] n l (fun k => (chAt l k).id == id) := fun k hk W hb => by
  show Calls Try.prog 65 #[.agg #[.int .i64 (chAt l k).id, .int .i64 (chAt l k).fr, .int .i64 (chAt l k).dst, .int .i64 (chAt l k).cap, .int .i64 (chAt l k).size], .pointer (some ⟨g, 0, none⟩)] W fun e w' => e = .returned (.bool ((chAt l k).id == id)) ∧ Below W.heap.size W w'
  generalize chAt l k = p at *
  have BA := Lib.hid ((Below.refl W.heap.size W).alloc (Nat.le_refl _) (.cells #[.int .i64 p.id, .int .i64 p.fr, .int .i64 p.dst, .int .i64 p.cap, .int .i64 p.size] 50))
  have hg1 : W.cell? ⟨g, 0, none⟩ = some (.int .i64 id) := (hb.cell (p := ⟨g, 0, none⟩) (cell_block hg)).trans hg
  have hg2 : (W.alloc (.cells #[.int .i64 p.id, .int .i64 p.fr, .int .i64 p.dst, .int .i64 p.cap, .int .i64 p.size] 50)).cell? ⟨g, 0, none⟩ = some (.int .i64 id) := (BA.out.cell (p := ⟨g, 0, none⟩) (cell_block hg1)).trans hg1
  clear hb hg hg1
  go_enter Try.func65, Try.ntmps65
  go_wp2_with fail
  go_ret
  refine ⟨?_, BA.out⟩
  rfl
set_option maxRecDepth 1000000 in
set_option maxHeartbeats 1000000 in
theorem wContainsP (g : FuncId) (lb : Array Value) (eg : ∀ args w, (callFunc g args).run Try.prog w = .ok (.enter g args) w) (p : Nat → Bool) (A : Option Addr) (n c : Nat) (l : List Pt) (w : World)
    (hp : PredP w g lb n l p) (h : RdP w w.heap.size A n l) (hn : n ≤ 1000) :
    Calls Try.prog 38 #[.slice A n c, .func (.func g) #[] lb] w fun e w' => e = .returned (.bool (decide (0 ≤ idxB p n))) ∧ Below w.heap.size w w' := by
  have W := Lib.hid (wIndexP g lb eg p A n c l w hp h hn)
  clear h hp hn
  go_enter Try.func38, Try.ntmps38
  go_wp2_with fail
  refine W.out.mono ?_
  rintro e w1 ⟨rfl, hb⟩
  have B := Lib.hid hb
  obtain ⟨x, hx⟩ : ∃ x, idxB p n = x := ⟨_, rfl⟩
  rw [hx]
  replace hx := Lib.hid hx
  go_wp2_with fail
  go_ret
  exact ⟨by rw [hx.out]; rfl, B.out⟩
set_option maxRecDepth 1000000 in
set_option maxHeartbeats 1000000 in
theorem pCanOf (v : CV) (c : Cf) (w : World) (h : RdCf w w.heap.size v c) (hp : v.np ≤ 1000) :
    Calls Try.prog 13 #[.agg #[.slice v.aw v.nw v.kw, .slice v.ap v.np v.kp, .slice v.ac v.nc v.kc]] w fun x w' => x = .returned (.bool (canC c)) ∧ Below w.heap.size w w' := by
  have hb := (Below.refl w.heap.size w).alloc (Nat.le_refl _) (.cells #[.slice v.aw v.nw v.kw, .slice v.ap v.np v.kp, .slice v.ac v.nc v.kc] 26)
  have B := Lib.hid hb
  have X := Lib.hid (Cfx.new w v 26)
  have R := Lib.hid (h.to hb)
  have HN := Lib.hid hp
  have eg : ∀ args w, (callFunc 39 args).run Try.prog w = .ok (.enter 39 args) w := enter_of Try.func39 (by kernel_rfl) rfl
  have EG := Lib.hid eg
  have LW : Hid (c.ws.length = v.nw) := h.ww.1
  have LP : Hid (c.ps.length = v.np) := h.pp.1
  have LC : Hid (c.cs.length = v.nc) := h.cc.1
  clear h hb hp eg
  go_enter Try.func13, Try.ntmps13
  have no : ∀ (_ : 12 < v.nw ∨ 6 < v.np ∨ 8 < v.nc), canC c = false := fun h => by
    cases hc : canC c with
    | false => rfl
    | true =>
      have := (canC_iff.1 hc).2
      rw [LW.out, LP.out, LC.out] at this
      omega
  have NO := Lib.hid no
  clear no
  obtain ⟨x0, x1, x2, _⟩ := X.out
  by_cases h1 : 12 < v.nw
  · have hI : (12 : Int) < (v.nw : Int) := by omega
    have HF : Hid (false = canC c) := (NO.out (.inl h1)).symm
    go_wp2_with fail
    go_ret
    exact ⟨ret_bool HF.out, B.out⟩
  · have hI : ¬ (12 : Int) < (v.nw : Int) := by omega
    have H1 := Lib.hid h1
    clear h1
    by_cases h2 : 6 < v.np
    · have hJ : (6 : Int) < (v.np : Int) := by omega
      have HF : Hid (false = canC c) := (NO.out (.inr (.inl h2))).symm
      go_wp2_with fail
      go_ret
      exact ⟨ret_bool HF.out, B.out⟩
    · have hJ : ¬ (6 : Int) < (v.np : Int) := by omega
      have H2 := Lib.hid h2
      clear h2
      by_cases h3 : 8 < v.nc
      · have hK : (8 : Int) < (v.nc : Int) := by omega
        have HF : Hid (false = canC c) := (NO.out (.inr (.inr h3))).symm
        go_wp2_with fail
        go_ret
        exact ⟨ret_bool HF.out, B.out⟩
      · have hK : ¬ (8 : Int) < (v.nc : Int) := by omega
        have H3 := Lib.hid h3
        clear h3
        go_wp2_with fail
        refine (wContainsP _ _ EG.out _ v.ap v.np v.kp c.ps _ (pCan _ v.np c.ps) R.out.pp HN.out).mono ?_
        rintro e w2 ⟨rfl, hb⟩
        have B2 := Lib.hid (B.out.trans (hb.mono B.out.size))
        have HC : Hid ((!decide (0 ≤ idxB (fun k => !imgOk (ptAt c.ps k)) v.np)) = canC c) := by
          (show _ = _)
          rcases idxB_cases (fun k => !imgOk (ptAt c.ps k)) v.np with ⟨k, hk, _, hp, e⟩ | ⟨hn, e⟩
          · rw [e, decide_eq_true (by omega)]
            cases hc : canC c with
            | false => rfl
            | true =>
              have := (canC_iff.1 hc).1 (ptAt c.ps k) (by rw [ptAt_lt (by rw [LP.out]; exact hk)]; exact List.getElem_mem _)
              simp only [imgOk, Bool.not_eq_true'] at hp
              rw [decide_eq_true this] at hp; cases hp
          · rw [e, decide_eq_false (by omega)]
            refine (canC_iff.2 ⟨fun p hp => ?_, by rw [LW.out]; have := H1.out; omega, by rw [LP.out]; have := H2.out; omega, by rw [LC.out]; have := H3.out; omega⟩).symm
            obtain ⟨j, hj, rfl⟩ := List.getElem_of_mem hp
            have := hn j (by rw [← LP.out]; exact hj)
            rw [ptAt_lt hj] at this
            simpa [imgOk] using this
        clear hb
        go_wp2_with fail
        go_ret
        exact ⟨ret_bool HC.out, B2.out⟩
end Go.Proofs.Ytljgliagciblbaa
