/- Several texts in one (a claim has 60 files at most): MfPe. -/
import Derived.Test.YtlmdidblgeeplaaGreatDoorTz
import Derived.Test.YtlmdidblgeeplaaGreatDoorPMfPbx
import Derived.Test.YtlmdidblgeeplaaGreatDoorPMfPdx
import Derived.Test.YtlmdidblgeeplaaGreatDoorPCpPax
namespace Go.Proofs.YtlmdidblgeeplaaGreatDoor
set_option maxRecDepth 1000000
set_option maxHeartbeats 8000000
set_option linter.unusedVariables false
set_option linter.unusedSimpArgs false
section
open Go.RowKit
structure CkMS (W : World) (gk gr gm gp : Nat) (A : Option Addr) (n c : Nat) (kk : List UInt8) (vr : CV) (run : Mf) (v : CV) (m : Mf) (p : Int) : Prop where
 pr : Pr W
 key : W.cell? ⟨gk, 0, none⟩ = some (.slice A n c)
 rk : Rd W W.heap.size A n kk
 hn : n ≤ 1000
 hc : n ≤ c
 hcc : c ≤ 9223372036854775807
 rm : MB W gr run vr
 rr : RdM W W.heap.size vr run
 rb : Bd vr
 mm : MB W gm m v
 rd : RdM W W.heap.size v m
 bd : Bd v
 pc : W.cell? ⟨gp, 0, none⟩ = some (.int .i64 p)
section
variable {W W' : World} {gk gr gm gp : Nat} {A : Option Addr} {n c : Nat} {kk : List UInt8} {vr : CV} {run : Mf} {v : CV} {m : Mf} {p : Int}
theorem CkMS.to (h : CkMS W gk gr gm gp A n c kk vr run v m p) (hb : Below W.heap.size W W') : CkMS W' gk gr gm gp A n c kk vr run v m p :=
 ⟨h.pr.to hb, (hb.cell (p := ⟨gk, 0, none⟩) (cell_block h.key)).trans h.key, h.rk.to hb, h.hn, h.hc, h.hcc, h.rm.to hb, h.rr.to hb, h.rb, h.mm.to hb, h.rd.to hb, h.bd, (hb.cell (p := ⟨gp, 0, none⟩) (cell_block h.pc)).trans h.pc⟩
theorem wClo1 (h : CkMS W gk gr gm gp A n c kk vr run v m p) :
  Calls Tryz.prog 59 #[.pointer (some ⟨gp, 0, none⟩)] W fun e w' => e = .returned (.int .i64 (p)) ∧ Below W.heap.size W w' := by
 have H := qH h
 clear h
 have x0 := H.out.pc
 go_enter Tryz.func59, Tryz.ntmps59
 go_wp2_with fail
 go_ret
 exact ⟨rfl, Below.refl _ _⟩
theorem wClo2 (h : CkMS W gk gr gm gp A n c kk vr run v m p) :
  Calls Tryz.prog 60 #[.pointer (some ⟨gk, 0, none⟩), .pointer (some ⟨gm, 0, none⟩)] W fun e w' => e = .returned (.int .i64 (unE (rightM kk m) 141)) ∧ Below W.heap.size W w' := by
 have H := qH h
 clear h
 have x0 := H.out.key
 have S9 := qH (mf_size H.out.mm.1 v)
 go_enter Tryz.func60, Tryz.ntmps60
 go_wp2_with (refine wpList_load_row rfl 30 _ rfl gm rfl 30 (mfL m v).toArray (0, 0) _ H.out.mm.row Tryz.underlying30 rfl S9.out ?_)
 refine (wRightM A n c kk v m W H.out.pr H.out.rk H.out.hn H.out.hc H.out.hcc H.out.rd H.out.bd).mono ?_
 rintro e w1 ⟨rfl, hb⟩
 have B := qH hb
 clear hb x0
 obtain ⟨r, hr⟩ : ∃ r, rightM kk m = r := ⟨_, rfl⟩
 obtain ⟨z, hz⟩ : ∃ z : Int, unE r 141 = z := ⟨_, rfl⟩
 have HZ : Hid (unE (rightM kk m) 141 = z) := by (show _ = _); rw [hr]; exact hz
 rw [hr]
 clear hr
 go_wp2_with fail
 refine (wUnless r 141 w1).mono ?_
 rw [hz]
 rintro e w2 ⟨rfl, rfl⟩
 clear hz
 go_wp2_with fail
 go_ret
 exact ⟨by rw [HZ.out]; rfl, B.out⟩
theorem wClo3 (h : CkMS W gk gr gm gp A n c kk vr run v m p) :
  Calls Tryz.prog 62 #[.pointer (some ⟨gm, 0, none⟩), .pointer (some ⟨gr, 0, none⟩)] W fun e w' => e = .returned (.int .i64 (unE (decide (m.prev = hashM run)) 142)) ∧ Below W.heap.size W w' := by
 have H := qH h
 clear h
 have S9 := qH (mf_size H.out.rm.1 vr)
 have S32 := qH (tag_sizeL H.out.mm.1.prev)
 go_enter Tryz.func62, Tryz.ntmps62
 go_upto_region 1 with (fail)
 obtain ⟨wd, hwd⟩ : ∃ x, W.drew = x := ⟨_, rfl⟩
 have BS : Hid (Below W.heap.size W wd) := by (show Below _ _ _); rw [← hwd]; exact (Below.refl _ _).drew
 have hu := Tryz.underlying23
 have heq : ∀ w, (Op.equalIn 10000 23 (.agg (m.prev.map bval).toArray) (.agg (arrB (hashM run)))).run Tryz.prog w = .ok (decide (m.prev = hashM run)) w := tag_eql m.prev (hashM run) H.out.mm.1.prev (hashM_len run)
 have hgd := tag_gd
 refine wp_region_held_drew (S := (fun w' => Below W.heap.size W w')) (by kernel_rfl) ((Below.refl _ _).drew) (fun hHeld => ?_)
 rw [hwd] at hHeld ⊢
 clear hwd hHeld
 have hHeld := BS.out
 refine tk 0 ?_
 simp only [pR]
 refine tl 1 (.agg (List.toArray (m.prev.map bval))) rfl (yieldsIf_load_mid (by rfl) 23 _ rfl gm 1 rfl (m.prev.map bval) _ ((fun w' h => (H.out.mm.to h).prev)) hu rfl S32.out) ?_
 simp only [pR]
 refine tl 2 (.agg (mfL run vr).toArray) rfl (yieldsIf_load_row (by rfl) 30 _ rfl gr rfl 30 (mfL run vr).toArray (0, 0) _ (fun w' h => (H.out.rm.to h).row) Tryz.underlying30 rfl S9.out) ?_
 simp only [pR]
 clear hHeld
 refine rd1 3 (fun K hK => ?_)
 go_simp
 refine (wHashM vr run wd (H.out.to BS.out).pr (H.out.to BS.out).rr H.out.rb).mono ?_
 rintro e w1 ⟨rfl, hb⟩
 replace BS := qH (BS.out.trans (hb.mono BS.out.size))
 clear hb
 go_wp2_with fail
 refine hK.out _ _ (BS.out) (fun hHeld => ?_)
 clear hK K
 obtain ⟨r, hr⟩ : ∃ r, decide (m.prev = hashM run) = r := ⟨_, rfl⟩
 obtain ⟨z, hz⟩ : ∃ z : Int, unE r 142 = z := ⟨_, rfl⟩
 have HZ : Hid (unE (decide (m.prev = hashM run)) 142 = z) := by (show _ = _); rw [hr]; exact hz
 have HZ2 := qH hz
 rw [hr] at heq
 clear hr hz
 refine tk 4 ?_
 simp only [pR]
 clear hHeld heq hgd
 refine rd1 5 (fun K hK => ?_)
 go_simp
 refine (wUnless r 142 w1).mono ?_
 rw [HZ2.out]
 rintro e w2 ⟨rfl, rfl⟩
 go_wp2_with fail
 refine hK.out _ _ (BS.out) (fun hHeld => ?_)
 clear hK K
 refine tk 6 ?_
 simp only [pR]
 refine wpAnyH_done (by kernel_rfl) ?_ _
 clear hHeld
 go_wp2_with fail
 go_ret
 exact ⟨by rw [HZ.out]; rfl, BS.out⟩
theorem wClo4 (h : CkMS W gk gr gm gp A n c kk vr run v m p) :
  Calls Tryz.prog 63 #[.pointer (some ⟨gm, 0, none⟩), .pointer (some ⟨gr, 0, none⟩)] W fun e w' => e = .returned (.int .i64 (unE (decide (run.ver < m.ver)) 143)) ∧ Below W.heap.size W w' := by
 have H := qH h
 clear h
 obtain ⟨x0, -⟩ := H.out.mm.cells
 obtain ⟨y0, -⟩ := H.out.rm.cells
 go_enter Tryz.func63, Tryz.ntmps63
 obtain ⟨z, hz⟩ : ∃ z : Int, unE (decide (run.ver < m.ver)) 143 = z := ⟨_, rfl⟩
 have HZ := qH hz
 clear hz
 go_wp2_with fail
 refine (wUnless (decide (run.ver < m.ver)) 143 W).mono ?_
 rw [HZ.out]
 rintro e w2 ⟨rfl, rfl⟩
 go_wp2_with fail
 go_ret
 exact ⟨by rw [HZ.out]; rfl, Below.refl _ _⟩
theorem wClo5 (h : CkMS W gk gr gm gp A n c kk vr run v m p) :
  Calls Tryz.prog 64 #[.pointer (some ⟨gm, 0, none⟩)] W fun e w' => e = .returned (.int .i64 (checkV m.cf)) ∧ Below W.heap.size W w' := by
 have H := qH h
 clear h
 obtain ⟨-, -, x2, x3, x4⟩ := H.out.mm.cells
 go_enter Tryz.func64, Tryz.ntmps64
 go_wp2_with fail
 refine (wCheckV v m.cf W H.out.rd.cf H.out.bd.1 H.out.bd.2.1 H.out.bd.2.2).mono ?_
 rintro e w1 ⟨rfl, hb⟩
 have B := qH hb
 clear hb
 go_wp2_with fail
 go_ret
 exact ⟨rfl, B.out⟩
theorem wClo6 (h : CkMS W gk gr gm gp A n c kk vr run v m p) :
  Calls Tryz.prog 66 #[.pointer (some ⟨gr, 0, none⟩), .pointer (some ⟨gm, 0, none⟩)] W fun e w' => e = .returned (.int .i64 (unE (checkC run.cf m.cf == 0) 130)) ∧ Below W.heap.size W w' := by
 have H := qH h
 clear h
 obtain ⟨-, -, x2, x3, x4⟩ := H.out.mm.cells
 obtain ⟨-, -, y2, y3, y4⟩ := H.out.rm.cells
 go_enter Tryz.func66, Tryz.ntmps66
 go_wp2_with fail
 refine (wCheckC vr v run.cf m.cf W H.out.rr.cf H.out.rd.cf H.out.rb H.out.bd).mono ?_
 rintro e w1 ⟨rfl, hb⟩
 have B := qH hb
 clear hb x2 x3 x4 y2 y3 y4
 obtain ⟨q, hq⟩ : ∃ q, checkC run.cf m.cf = q := ⟨_, rfl⟩
 obtain ⟨z, hz⟩ : ∃ z : Int, unE (q == 0) 130 = z := ⟨_, rfl⟩
 have HZ : Hid (unE (checkC run.cf m.cf == 0) 130 = z) := by (show _ = _); rw [hq]; exact hz
 have HZ2 := qH hz
 rw [hq]
 clear hq hz
 go_wp2_with fail
 refine (wUnless (q == 0) 130 w1).mono ?_
 rw [HZ2.out]
 rintro e w2 ⟨rfl, rfl⟩
 go_wp2_with fail
 go_ret
 exact ⟨by rw [HZ.out]; rfl, B.out⟩
end
def ClAt (w : World) (gs k : Nat) (z : Int) : Prop := ∃ (fn : FuncId) (cap : Array Value), w.cell? ⟨gs, k, none⟩ = some (.func (.func fn) #[] cap) ∧ (∀ args w, (callFunc fn args).run Tryz.prog w = .ok (.enter fn args) w) ∧
 ∀ W, Below w.heap.size w W → Calls Tryz.prog fn cap W fun e w' => e = .returned (.int .i64 z) ∧ Below W.heap.size W w'
def firstE (er : Nat → Int) : Nat → Int
 | 0 => 0
 | k + 1 => if firstE er k = 0 then er k else firstE er k
def FirstR (er : Nat → Int) (n : Nat) (w : World) (s3 s9 : Value) (wr : World) : Prop := ∃ k : Nat, k ≤ n ∧ s9 = .int .i64 (k : Int) ∧ s3 = .int .i64 (firstE er k) ∧ Below w.heap.size w wr
theorem wRefusal (gs n : Nat) (er : Nat → Int) (w : World) (hn : n ≤ 1000) (h : ∀ k, k < n → ClAt w gs k (er k)) :
  Calls Tryz.prog 58 #[.slice (some ⟨gs, 0, none⟩) n n] w fun e w' => e = .returned (.int .i64 (firstE er n)) ∧ Below w.heap.size w w' := by
 have HN := qH hn
 have H := qH h
 clear h hn
 go_enter Tryz.func58, Tryz.ntmps58
 go_wp2_with fail
 go_loopw [3, 5, 6, 9] (fun s3 _ _ s9 wr => FirstR er n w s3 s9 wr) (fun _ _ _ s9 _ => n - (intOf s9).toNat)
 case atStart => exact ⟨0, Nat.zero_le _, rfl, rfl, Below.refl _ _⟩
 case round =>
  obtain ⟨k, hk, rfl, rfl, hb⟩ := hrel
  have B := qH hb
  clear hb
  by_cases hlt : k < n
  ·have hltI : (k : Int) < (n : Int) := by omega
   have hwk : IntKind.i64.wrap ((k : Int) + 1) = (k : Int) + 1 := by have := HN.out; rw [IntKind.wrap_i64]; omega
   have HLT : Hid (k < n) := hlt
   obtain ⟨fn, cap, hcell, eg, hcall⟩ := H.out k hlt
   have x0 := (B.out.cell (p := ⟨gs, k, none⟩) (cell_block hcell)).trans hcell
   have HC := qH hcall
   clear hk hlt hcell hcall
   go_wp2_with fail
   refine (HC.out wr B.out).mono ?_
   rintro e w5 ⟨rfl, hb⟩
   replace B := qH (B.out.trans (hb.mono B.out.size))
   clear hb x0
   by_cases hz : firstE er k = 0
   ·have HF : Hid (er k = firstE er (k + 1)) := by (show _ = _); show _ = if firstE er k = 0 then er k else firstE er k; rw [if_pos hz]
    rw [hz]
    clear hz
    go_wp2_with fail
    go_roundw
    case rel => exact ⟨k + 1, HLT.out, by simp, by rw [HF.out], B.out⟩
    case measure => have := HLT.out; simp only [intOf]; omega
   ·have HF : Hid (firstE er k = firstE er (k + 1)) := by (show _ = _); show _ = if firstE er k = 0 then er k else firstE er k; rw [if_neg hz]
    have hne : (firstE er k == 0) = false := by simpa using hz
    generalize firstE er k = f at *
    clear hz
    go_wp2_with fail
    go_roundw
    case rel => exact ⟨k + 1, HLT.out, by simp, by rw [HF.out], B.out⟩
    case measure => have := HLT.out; simp only [intOf]; omega
  ·obtain rfl : k = n := by omega
   go_wp2_with fail
   go_ret
   exact ⟨rfl, B.out⟩
theorem firstE_next {er : Nat → Int} {k : Nat} (h : firstE er k = 0) : firstE er (k + 1) = er k := by
 show (if firstE er k = 0 then er k else firstE er k) = er k
 rw [if_pos h]
theorem firstE_stay {er : Nat → Int} {z : Int} (hz : z ≠ 0) {k : Nat} (h : firstE er k = z) : ∀ j, firstE er (k + j) = z
 | 0 => h
 | j + 1 => by
  show (if firstE er (k + j) = 0 then er (k + j) else firstE er (k + j)) = z
  rw [firstE_stay hz h j, if_neg hz]
noncomputable def erM (key : List UInt8) (run : Mf) (bs : List UInt8) : Nat → Int
 | 0 => mfErr bs
 | 1 => unE (rightM key (mfOut bs)) 141
 | 2 => unE (decide ((mfOut bs).prev = hashM run)) 142
 | 3 => unE (decide (run.ver < (mfOut bs).ver)) 143
 | 4 => checkV (mfOut bs).cf
 | _ => unE (checkC run.cf (mfOut bs).cf == 0) 130
theorem first_check (key : List UInt8) (run : Mf) (bs : List UInt8) : firstE (erM key run bs) 6 = checkM key run bs := by
 have s0 : firstE (erM key run bs) 1 = mfErr bs := firstE_next rfl
 unfold checkM
 cases hok : okM bs
 ·rw [(mfOut_no hok).2] at s0
  rw [if_pos rfl]
  exact firstE_stay (by decide) s0 5
 rw [(mfOut_yes hok).2] at s0
 have hg := (mfOut_yes hok).1
 have e1 : erM key run bs 1 = unE (rightM key (mfOut bs)) 141 := rfl
 have e2 : erM key run bs 2 = unE (decide ((mfOut bs).prev = hashM run)) 142 := rfl
 have e3 : erM key run bs 3 = unE (decide (run.ver < (mfOut bs).ver)) 143 := rfl
 have e4 : erM key run bs 4 = checkV (mfOut bs).cf := rfl
 have e5 : erM key run bs 5 = unE (checkC run.cf (mfOut bs).cf == 0) 130 := rfl
 rw [hg] at e1 e2 e3 e4 e5
 generalize gotM bs = m at *
 generalize erM key run bs = er at *
 rw [if_neg (by decide)]
 have s1 := firstE_next s0
 rw [e1] at s1
 cases hr : rightM key m
 ·rw [hr] at s1
  rw [if_pos rfl]
  exact firstE_stay (by decide) s1 4
 rw [hr] at s1
 rw [if_neg (by decide)]
 have s2 := firstE_next (show firstE er 2 = 0 from s1)
 rw [e2] at s2
 by_cases hp : m.prev = hashM run
 rotate_left 1
 ·rw [decide_eq_false hp] at s2
  rw [if_pos hp]
  exact firstE_stay (by decide) s2 3
 rw [decide_eq_true hp] at s2
 rw [if_neg (fun h => h hp)]
 have s3 := firstE_next (show firstE er 3 = 0 from s2)
 rw [e3] at s3
 by_cases hv : run.ver < m.ver
 rotate_left 1
 ·rw [decide_eq_false hv] at s3
  rw [if_pos (by omega)]
  exact firstE_stay (by decide) s3 2
 rw [decide_eq_true hv] at s3
 rw [if_neg (by omega)]
 have s4 := firstE_next (show firstE er 4 = 0 from s3)
 rw [e4] at s4
 by_cases hc : checkV m.cf = 0
 rotate_left 1
 ·rw [if_pos hc]
  exact firstE_stay hc s4 1
 rw [if_neg (fun h => h hc)]
 rw [hc] at s4
 have s5 := firstE_next s4
 rw [e5] at s5
 by_cases hq : checkC run.cf m.cf = 0
 ·rw [if_neg (fun h => h hq)]
  rw [hq] at s5
  exact s5
 ·rw [if_pos hq]
  rw [show (checkC run.cf m.cf == 0) = false by simpa using hq] at s5
  exact s5
theorem mfOut_canP (bs : List UInt8) : canC (mfOut bs).cf = true := by
 unfold mfOut
 split
 ·rename_i h
  exact (canM_iff.1 (okM_got h).2.1).2.2.2.2
 ·decide
end
end Go.Proofs.YtlmdidblgeeplaaGreatDoor