/- Layer 16's law: one act, done to both disks (citadellaw16.one): it returns true, and both are in one state behind it. -/
import Derived.Test.YtffdjnhhmfpkgaaGreatTz
import Derived.Test.YtffdjnhhmfpkgaaGreatRC
import Derived.Test.YtffdjnhhmfpkgaaGreatCmPd
import Derived.Test.YtffdjnhhmfpkgaaGreatCmRg
import Derived.Test.YtffdjnhhmfpkgaaGreatR8
import Derived.Deep.RegionHeld
namespace Go.Proofs.YtffdjnhhmfpkgaaGreat
set_option maxRecDepth 1000000
set_option maxHeartbeats 8000000
open Go.RowKit
set_option linter.unusedVariables false
set_option linter.unusedSimpArgs false
def OneC (w : World) (d : Nat) (F : Nat → Prop) (r : Nat) (G : Nat → Prop) (s : DS) (e : Ending) (w' : World) : Prop :=
 e = .returned (.bool true) ∧ ∃ F' G' s', Did2 w w' d F F' r G G' s' ∧ s'.L.length = s.L.length
theorem flush_lenC (s : DS) : s.flush.2.L.length = s.L.length := by
 unfold DS.flush
 split
 ·rfl
 ·split
  ·exact fallL_length _ _ _
  ·exact fallL_length _ _ _
theorem crash_lenC (s : DS) (b : List UInt8) : (s.crash b).2.L.length = s.L.length := by
 unfold DS.crash
 split
 ·rfl
 ·exact fallL_length _ _ _
theorem arm_lenC (s : DS) (i : Int) (b : List UInt8) : (s.arm i b).2.L.length = s.L.length := by
 unfold DS.arm
 split
 ·rfl
 ·split <;> rfl
theorem start_lenC (s : DS) : s.start.2.L.length = s.L.length := by
 unfold DS.start
 split <;> rfl
theorem write_lenC (s : DS) (i : Int) (b : List UInt8) : (s.write i b).2.L.length = s.L.length := by
 unfold DS.write
 split
 ·rfl
 split
 ·rfl
 split
 ·rfl
 split
 ·exact fallL_length _ _ _
 ·exact List.length_set ..
theorem cmPut_len (r : Rcd) (s : DS) : (cmPut r s).2.L.length = s.L.length := by
 unfold cmPut
 split
 ·split
  ·exact write_lenC _ _ _
  ·rw [flush_lenC]; exact write_lenC _ _ _
 ·rfl
theorem kindsC (k : Int) : (k = 0 ∨ k = 1 ∨ k = 2) ∨ k = 3 ∨ k = 4 ∨ k = 5 ∨ k = 6 ∨ k = 7 ∨ k = 8 ∨ (¬ k = 0 ∧ ¬ k = 1 ∧ ¬ k = 2 ∧ ¬ k = 3 ∧ ¬ k = 4 ∧ ¬ k = 5 ∧ ¬ k = 6 ∧ ¬ k = 7 ∧ ¬ k = 8) := by omega
theorem cact_box (w : World) (x : CAct) (A : Option Addr) (m c : Nat) (hx : x.r.hash.length = 32) :
  let w0 := w.alloc (.cells (cactL x A m c).toArray 37)
  w0.cell? ⟨w.heap.size, 0, none⟩ = some (.int .i64 x.kind) ∧ w0.cell? ⟨w.heap.size, 1, none⟩ = some (.int .i64 x.n) ∧ w0.cell? ⟨w.heap.size, 38, none⟩ = some (.slice A m c) ∧ w0.rangeAt w.heap.size 2 (rcL x.r) := by
 have h : Bx (w.alloc (.cells (cactL x A m c).toArray 37)) w.heap.size 37 (cactL x A m c) := Bx.new w _ _
 exact ⟨h.at (j := 0) rfl, h.at (j := 1) rfl, h.at (j := 38) (cactL_sl hx A m c), fun j v hj => h.at (j := 2 + j) (cactL_rec A m c hj)⟩
theorem lOne16 (d r : Nat) (F G : Nat → Prop) (s : DS) (x : CAct) (A : Option Addr) (m c : Nat) (w : World) (h : Pair w d F r G s) (hl : 0 < s.L.length) (hx : CActOk w w.heap.size x A m c) (ho : Off A m (fun k => F k ∨ G k)) (hm : m ≤ 6000) :
  Calls Tryz.prog 14 #[.pointer (some ⟨d, 0, none⟩), .pointer (some ⟨r, 0, none⟩), .agg (cactL x A m c).toArray] w (OneC w d F r G s) := by
 obtain ⟨c0, c1, c2, cr⟩ := cact_box w x A m c hx.rin.hash
 have HB : Hid (Below w.heap.size w (w.alloc (.cells (cactL x A m c).toArray 37))) := (Below.refl _ _).alloc (Nat.le_refl _) _
 have H := qH (h.to HB.out)
 have HLN : Hid (0 < s.L.length) := hl
 have HLT : Hid (∀ k, F k ∨ G k → k < w.heap.size) := fun k hk => hk.elim (h.dk.lt k) (h.dr.lt k)
 have R := qH (hx.rd.to HB.out)
 have HO := qH ho
 have HM : Hid (m ≤ 6000) := hm
 have HNN := qH hx.nn
 have HRI := qH hx.rin
 have HMC := qH hx.mc
 have HCC := qH hx.cc
 have SR : Hid ((Tryz.prog.info? 34).map (·.size) = some (rcL x.r).length) := by (show _ = _); rw [rc_size hx.rin.hash, List.size_toArray]
 have hg0 : w.heap.size < (w.alloc (.cells (cactL x A m c).toArray 37)).heap.size := by simp
 have hu := Tryz.underlying34
 go_enter Tryz.func14, Tryz.ntmps14
 go_upto_region 1 with (fail)
 generalize w.alloc (.cells (cactL x A m c).toArray 37) = w0 at *
 clear h hx ho hm hl
 have HG : Hid (w.heap.size < w0.heap.size) := hg0
 have HGN : Hid (∀ k, F k ∨ G k → k ≠ w.heap.size) := fun k hk => by have := HLT.out k hk; omega
 have CR := qH cr
 clear hg0 cr
 obtain ⟨kd, xn, xr, xb⟩ := x
 simp only at c0 c1 c2 CR R HNN HRI SR
 have C1 := qH c1
 have C2 := qH c2
 rcases kindsC kd with (rfl | rfl | rfl) | rfl | rfl | rfl | rfl | rfl | rfl | hkd
 ·skip
  have HLEN := qH (cmPut_len xr s)
  go_wp2_with (refine wpList_load_mid rfl 34 _ rfl w.heap.size 2 rfl (rcL xr) _ CR.out hu rfl SR.out ?_)
  clear c0 c1 c2
  refine (cPut d F s xr w0 H.out.dk HLN.out HRI.out.hash).mono ?_
  rintro e w1 h6
  obtain ⟨rfl, F1, hh⟩ := H.out.half h6
  have HH := qH hh
  have D1 : Hid (w1.cell? ⟨w.heap.size, 1, none⟩ = some (.int .i64 xn)) := (hh.keep.cell (a := ⟨w.heap.size, 1, none⟩) HG.out (fun hf => HGN.out _ (.inl hf) rfl)).trans C1.out
  have D2 : Hid (w1.cell? ⟨w.heap.size, 38, none⟩ = some (.slice A m c)) := (hh.keep.cell (a := ⟨w.heap.size, 38, none⟩) HG.out (fun hf => HGN.out _ (.inl hf) rfl)).trans C2.out
  have DR : Hid (w1.rangeAt w.heap.size 2 (rcL xr)) := fun j v hj => (hh.keep.cell (a := ⟨w.heap.size, 2 + j, none⟩) HG.out (fun hf => HGN.out _ (.inl hf) rfl)).trans (CR.out j v hj)
  have R1 := qH (R.out.kept hh.keep (HO.out.sub (fun _ h => .inl h)))
  clear h6 hh
  have d1 := D1.out
  have d2 := D2.out
  go_wp2_with (refine wpList_load_mid rfl 34 _ rfl w.heap.size 2 rfl (rcL xr) _ DR.out hu rfl SR.out ?_)
  clear d1 d2
  refine (rPut16 r G s xr w1 HH.out.dr HRI.out.hash).mono ?_
  rintro e w2 h6
  obtain ⟨rfl, G2, hd⟩ := HH.out.full h6
  have DD := qH hd
  clear h6 hd
  go_wp2_with fail
  go_ret
  exact ⟨rfl, _, _, _, DD.out.after HB.out, HLEN.out⟩
 ·skip
  have HLEN := qH (cmPut_len xr s)
  go_wp2_with (refine wpList_load_mid rfl 34 _ rfl w.heap.size 2 rfl (rcL xr) _ CR.out hu rfl SR.out ?_)
  clear c0 c1 c2
  refine (cPut d F s xr w0 H.out.dk HLN.out HRI.out.hash).mono ?_
  rintro e w1 h6
  obtain ⟨rfl, F1, hh⟩ := H.out.half h6
  have HH := qH hh
  have D1 : Hid (w1.cell? ⟨w.heap.size, 1, none⟩ = some (.int .i64 xn)) := (hh.keep.cell (a := ⟨w.heap.size, 1, none⟩) HG.out (fun hf => HGN.out _ (.inl hf) rfl)).trans C1.out
  have D2 : Hid (w1.cell? ⟨w.heap.size, 38, none⟩ = some (.slice A m c)) := (hh.keep.cell (a := ⟨w.heap.size, 38, none⟩) HG.out (fun hf => HGN.out _ (.inl hf) rfl)).trans C2.out
  have DR : Hid (w1.rangeAt w.heap.size 2 (rcL xr)) := fun j v hj => (hh.keep.cell (a := ⟨w.heap.size, 2 + j, none⟩) HG.out (fun hf => HGN.out _ (.inl hf) rfl)).trans (CR.out j v hj)
  have R1 := qH (R.out.kept hh.keep (HO.out.sub (fun _ h => .inl h)))
  clear h6 hh
  have d1 := D1.out
  have d2 := D2.out
  go_wp2_with (refine wpList_load_mid rfl 34 _ rfl w.heap.size 2 rfl (rcL xr) _ DR.out hu rfl SR.out ?_)
  clear d1 d2
  refine (rPut16 r G s xr w1 HH.out.dr HRI.out.hash).mono ?_
  rintro e w2 h6
  obtain ⟨rfl, G2, hd⟩ := HH.out.full h6
  have DD := qH hd
  clear h6 hd
  go_wp2_with fail
  go_ret
  exact ⟨rfl, _, _, _, DD.out.after HB.out, HLEN.out⟩
 ·skip
  have HLEN := qH (cmPut_len xr s)
  go_wp2_with (refine wpList_load_mid rfl 34 _ rfl w.heap.size 2 rfl (rcL xr) _ CR.out hu rfl SR.out ?_)
  clear c0 c1 c2
  refine (cPut d F s xr w0 H.out.dk HLN.out HRI.out.hash).mono ?_
  rintro e w1 h6
  obtain ⟨rfl, F1, hh⟩ := H.out.half h6
  have HH := qH hh
  have D1 : Hid (w1.cell? ⟨w.heap.size, 1, none⟩ = some (.int .i64 xn)) := (hh.keep.cell (a := ⟨w.heap.size, 1, none⟩) HG.out (fun hf => HGN.out _ (.inl hf) rfl)).trans C1.out
  have D2 : Hid (w1.cell? ⟨w.heap.size, 38, none⟩ = some (.slice A m c)) := (hh.keep.cell (a := ⟨w.heap.size, 38, none⟩) HG.out (fun hf => HGN.out _ (.inl hf) rfl)).trans C2.out
  have DR : Hid (w1.rangeAt w.heap.size 2 (rcL xr)) := fun j v hj => (hh.keep.cell (a := ⟨w.heap.size, 2 + j, none⟩) HG.out (fun hf => HGN.out _ (.inl hf) rfl)).trans (CR.out j v hj)
  have R1 := qH (R.out.kept hh.keep (HO.out.sub (fun _ h => .inl h)))
  clear h6 hh
  have d1 := D1.out
  have d2 := D2.out
  go_wp2_with (refine wpList_load_mid rfl 34 _ rfl w.heap.size 2 rfl (rcL xr) _ DR.out hu rfl SR.out ?_)
  clear d1 d2
  refine (rPut16 r G s xr w1 HH.out.dr HRI.out.hash).mono ?_
  rintro e w2 h6
  obtain ⟨rfl, G2, hd⟩ := HH.out.full h6
  have DD := qH hd
  clear h6 hd
  go_wp2_with fail
  go_ret
  exact ⟨rfl, _, _, _, DD.out.after HB.out, HLEN.out⟩
 ·have HLEN := qH (write_lenC s xn xb)
  go_wp2_with fail
  clear c0 c1 c2
  refine (dWrite d F s xn A m c xb w0 H.out.dk R.out (HO.out.sub (fun _ h => .inl h))).mono ?_
  rintro e w1 h6
  obtain ⟨rfl, F1, hh⟩ := H.out.half h6
  have HH := qH hh
  have D1 : Hid (w1.cell? ⟨w.heap.size, 1, none⟩ = some (.int .i64 xn)) := (hh.keep.cell (a := ⟨w.heap.size, 1, none⟩) HG.out (fun hf => HGN.out _ (.inl hf) rfl)).trans C1.out
  have D2 : Hid (w1.cell? ⟨w.heap.size, 38, none⟩ = some (.slice A m c)) := (hh.keep.cell (a := ⟨w.heap.size, 38, none⟩) HG.out (fun hf => HGN.out _ (.inl hf) rfl)).trans C2.out
  have DR : Hid (w1.rangeAt w.heap.size 2 (rcL xr)) := fun j v hj => (hh.keep.cell (a := ⟨w.heap.size, 2 + j, none⟩) HG.out (fun hf => HGN.out _ (.inl hf) rfl)).trans (CR.out j v hj)
  have R1 := qH (R.out.kept hh.keep (HO.out.sub (fun _ h => .inl h)))
  clear h6 hh
  have d1 := D1.out
  have d2 := D2.out
  go_wp2_with fail
  clear d1 d2
  refine (qWrite r G s xn A m c xb w1 HH.out.dr R1.out (by have := HM.out; omega) (HO.out.sub (fun _ h => .inr h))).mono ?_
  rintro e w2 h6
  obtain ⟨rfl, G2, hd⟩ := HH.out.full h6
  have DD := qH hd
  clear h6 hd
  go_wp2_with fail
  go_ret
  exact ⟨rfl, _, _, _, DD.out.after HB.out, HLEN.out⟩
 ·have HLEN := qH (flush_lenC s)
  go_wp2_with fail
  clear c0 c1 c2
  refine (dFlush d F s w0 H.out.dk).mono ?_
  rintro e w1 h6
  obtain ⟨rfl, F1, hh⟩ := H.out.half h6
  have HH := qH hh
  have D1 : Hid (w1.cell? ⟨w.heap.size, 1, none⟩ = some (.int .i64 xn)) := (hh.keep.cell (a := ⟨w.heap.size, 1, none⟩) HG.out (fun hf => HGN.out _ (.inl hf) rfl)).trans C1.out
  have D2 : Hid (w1.cell? ⟨w.heap.size, 38, none⟩ = some (.slice A m c)) := (hh.keep.cell (a := ⟨w.heap.size, 38, none⟩) HG.out (fun hf => HGN.out _ (.inl hf) rfl)).trans C2.out
  have DR : Hid (w1.rangeAt w.heap.size 2 (rcL xr)) := fun j v hj => (hh.keep.cell (a := ⟨w.heap.size, 2 + j, none⟩) HG.out (fun hf => HGN.out _ (.inl hf) rfl)).trans (CR.out j v hj)
  have R1 := qH (R.out.kept hh.keep (HO.out.sub (fun _ h => .inl h)))
  clear h6 hh
  have d1 := D1.out
  have d2 := D2.out
  go_wp2_with fail
  clear d1 d2
  refine (qFlush r G s w1 HH.out.dr).mono ?_
  rintro e w2 h6
  obtain ⟨rfl, G2, hd⟩ := HH.out.full h6
  have DD := qH hd
  clear h6 hd
  go_wp2_with fail
  go_ret
  exact ⟨rfl, _, _, _, DD.out.after HB.out, HLEN.out⟩
 ·have HLEN := qH (crash_lenC s xb)
  go_wp2_with fail
  clear c0 c1 c2
  refine (dCrash d F s A m c xb w0 H.out.dk R.out HMC.out (by have := HCC.out; omega)).mono ?_
  rintro e w1 h6
  obtain ⟨rfl, F1, hh⟩ := H.out.half h6
  have HH := qH hh
  have D1 : Hid (w1.cell? ⟨w.heap.size, 1, none⟩ = some (.int .i64 xn)) := (hh.keep.cell (a := ⟨w.heap.size, 1, none⟩) HG.out (fun hf => HGN.out _ (.inl hf) rfl)).trans C1.out
  have D2 : Hid (w1.cell? ⟨w.heap.size, 38, none⟩ = some (.slice A m c)) := (hh.keep.cell (a := ⟨w.heap.size, 38, none⟩) HG.out (fun hf => HGN.out _ (.inl hf) rfl)).trans C2.out
  have DR : Hid (w1.rangeAt w.heap.size 2 (rcL xr)) := fun j v hj => (hh.keep.cell (a := ⟨w.heap.size, 2 + j, none⟩) HG.out (fun hf => HGN.out _ (.inl hf) rfl)).trans (CR.out j v hj)
  have R1 := qH (R.out.kept hh.keep (HO.out.sub (fun _ h => .inl h)))
  clear h6 hh
  have d1 := D1.out
  have d2 := D2.out
  go_wp2_with fail
  clear d1 d2
  refine (qCrash r G s A m c xb w1 HH.out.dr R1.out (HO.out.sub (fun _ h => .inr h))).mono ?_
  rintro e w2 h6
  obtain ⟨rfl, G2, hd⟩ := HH.out.full h6
  have DD := qH hd
  clear h6 hd
  go_wp2_with fail
  go_ret
  exact ⟨rfl, _, _, _, DD.out.after HB.out, HLEN.out⟩
 ·have HLEN := qH (start_lenC s)
  go_wp2_with fail
  clear c0 c1 c2
  refine (dStart d F s w0 H.out.dk).mono ?_
  rintro e w1 h6
  obtain ⟨rfl, F1, hh⟩ := H.out.half h6
  have HH := qH hh
  have D1 : Hid (w1.cell? ⟨w.heap.size, 1, none⟩ = some (.int .i64 xn)) := (hh.keep.cell (a := ⟨w.heap.size, 1, none⟩) HG.out (fun hf => HGN.out _ (.inl hf) rfl)).trans C1.out
  have D2 : Hid (w1.cell? ⟨w.heap.size, 38, none⟩ = some (.slice A m c)) := (hh.keep.cell (a := ⟨w.heap.size, 38, none⟩) HG.out (fun hf => HGN.out _ (.inl hf) rfl)).trans C2.out
  have DR : Hid (w1.rangeAt w.heap.size 2 (rcL xr)) := fun j v hj => (hh.keep.cell (a := ⟨w.heap.size, 2 + j, none⟩) HG.out (fun hf => HGN.out _ (.inl hf) rfl)).trans (CR.out j v hj)
  have R1 := qH (R.out.kept hh.keep (HO.out.sub (fun _ h => .inl h)))
  clear h6 hh
  have d1 := D1.out
  have d2 := D2.out
  go_wp2_with fail
  clear d1 d2
  refine (qStart r G s w1 HH.out.dr).mono ?_
  rintro e w2 h6
  obtain ⟨rfl, G2, hd⟩ := HH.out.full h6
  have DD := qH hd
  clear h6 hd
  go_wp2_with fail
  go_ret
  exact ⟨rfl, _, _, _, DD.out.after HB.out, HLEN.out⟩
 ·have HLEN := qH (arm_lenC s xn xb)
  go_wp2_with fail
  clear c0 c1 c2
  refine (dArm d F s xn A m c xb w0 H.out.dk HNN.out.2 R.out HMC.out (by have := HCC.out; omega)).mono ?_
  rintro e w1 h6
  obtain ⟨rfl, F1, hh⟩ := H.out.half h6
  have HH := qH hh
  have D1 : Hid (w1.cell? ⟨w.heap.size, 1, none⟩ = some (.int .i64 xn)) := (hh.keep.cell (a := ⟨w.heap.size, 1, none⟩) HG.out (fun hf => HGN.out _ (.inl hf) rfl)).trans C1.out
  have D2 : Hid (w1.cell? ⟨w.heap.size, 38, none⟩ = some (.slice A m c)) := (hh.keep.cell (a := ⟨w.heap.size, 38, none⟩) HG.out (fun hf => HGN.out _ (.inl hf) rfl)).trans C2.out
  have DR : Hid (w1.rangeAt w.heap.size 2 (rcL xr)) := fun j v hj => (hh.keep.cell (a := ⟨w.heap.size, 2 + j, none⟩) HG.out (fun hf => HGN.out _ (.inl hf) rfl)).trans (CR.out j v hj)
  have R1 := qH (R.out.kept hh.keep (HO.out.sub (fun _ h => .inl h)))
  clear h6 hh
  have d1 := D1.out
  have d2 := D2.out
  go_wp2_with fail
  clear d1 d2
  refine (qArm r G s xn A m c xb w1 HH.out.dr HNN.out.2 R1.out (by have := HM.out; omega) (HO.out.sub (fun _ h => .inr h))).mono ?_
  rintro e w2 h6
  obtain ⟨rfl, G2, hd⟩ := HH.out.full h6
  have DD := qH hd
  clear h6 hd
  go_wp2_with fail
  go_ret
  exact ⟨rfl, _, _, _, DD.out.after HB.out, HLEN.out⟩
 ·have HLEN := qH (write_lenC s xn (cmSec xr))
  have HCL := qH (cmSec_len HRI.out.hash)
  go_wp2_with (refine wpList_load_mid rfl 34 _ rfl w.heap.size 2 rfl (rcL xr) _ CR.out hu rfl SR.out ?_)
  clear c0 c1 c2
  refine (rSector xr w0 HRI.out.hash).mono ?_
  rintro e w8 ⟨A8, n8, c8, rfl, hown, hb⟩
  have R8 := qH (Rd.of_own hown)
  have O8 : Hid (Off A8 n8 (fun k => F k ∨ G k)) := own_offP hown (fun k hk => hk.elim (H.out.dk.lt k) (H.out.dr.lt k))
  replace H := qH (H.out.to hb)
  replace C1 : Hid (w8.cell? ⟨w.heap.size, 1, none⟩ = some (.int .i64 xn)) := (hb.cell HG.out).trans C1.out
  replace HB := qH (HB.out.trans (hb.mono HB.out.size))
  replace HG : Hid (w.heap.size < w8.heap.size) := Nat.lt_of_lt_of_le HG.out hb.size
  clear hown hb C2 CR R
  have c1 := C1.out
  go_wp2_with fail
  clear c1
  refine (dWrite d F s xn A8 n8 c8 (cmSec xr) w8 H.out.dk R8.out (O8.out.sub (fun _ h => .inl h))).mono ?_
  rintro e w1 h6
  obtain ⟨rfl, F1, hh⟩ := H.out.half h6
  have HH := qH hh
  have D1 : Hid (w1.cell? ⟨w.heap.size, 1, none⟩ = some (.int .i64 xn)) := (hh.keep.cell (a := ⟨w.heap.size, 1, none⟩) HG.out (fun hf => HGN.out _ (.inl hf) rfl)).trans C1.out
  have R1 := qH (R8.out.kept hh.keep (O8.out.sub (fun _ h => .inl h)))
  clear h6 hh
  have d1 := D1.out
  go_wp2_with fail
  clear d1
  refine (qWrite r G s xn A8 n8 c8 (cmSec xr) w1 HH.out.dr R1.out (by have e1 := R1.out.1; have e2 := HCL.out; omega) (O8.out.sub (fun _ h => .inr h))).mono ?_
  rintro e w2 h6
  obtain ⟨rfl, G2, hd⟩ := HH.out.full h6
  have DD := qH hd
  clear h6 hd
  go_wp2_with fail
  go_ret
  exact ⟨rfl, _, _, _, DD.out.after HB.out, HLEN.out⟩
 ·obtain ⟨k0, k1, k2, k3, k4, k5, k6, k7, k8⟩ := hkd
  go_wp2_with fail
  go_ret
  exact ⟨rfl, _, _, _, H.out.did.after HB.out, rfl⟩
end Go.Proofs.YtffdjnhhmfpkgaaGreat