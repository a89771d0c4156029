/- The program's disk (disk): a write, a flush; a new disk. -/
import Derived.Test.YtopilgedcnbdaaaDoorTz
import Derived.Test.YtopilgedcnbdaaaDoorDiskE
namespace Go.Proofs.YtopilgedcnbdaaaDoor
set_option maxRecDepth 1000000
set_option maxHeartbeats 8000000
open Go.RowKit
set_option linter.unusedVariables false
set_option linter.unusedSimpArgs false
theorem run_arrayAt64 (w : World) (a : Option Addr) (n c : Nat) (hn : 64 ≤ n) : (Instr.arrayAt 73 (.slice a n c)).run Tryd.prog w = .ok (.pointer a) w := by
 have h : ¬ n < 64 := by omega
 simp [Instr.arrayAt, run_underlying Tryd.underlying73, h]
theorem wp_mapUpdate_run {P : Program} {op : Oper} {a : Act} {w w' : World} {K : Act → World → Prop} {Q : Exit → Act → World → Prop} (t : TypeId) (m x v : Operand) (ho : op.op = .mapUpdate t m x v) {mv xv vv : Value} (hm : a.eval m = mv) (hx : a.eval x = xv) (hv : a.eval v = vv)
  (hrun : (Instr.mapUpdate t mv xv vv).run P w = .ok () w') (h : K (a.put op.dst undef) w') : op.wp P a w K Q := by
 unfold Oper.wp
 simp [execOp, ho, hm, hx, hv, hrun, Result.andThen]
 exact h
theorem set_fst {L : List Sec} {i : Nat} (hi : i < L.length) (b : List UInt8) : (L.set i ((secAt L i).1, some b)).map (·.1) = L.map (·.1) := by
 rw [List.map_set, secAt_lt hi]
 refine List.ext_getElem (by simp) fun j h1 h2 => ?_
 rw [List.getElem_set]
 split
 ·rename_i e; subst e; simp
 ·rfl
theorem DkP.cached {w w' : World} {d fb mb : Nat} {stv : Value} {F : Nat → Prop} {s : DS} (h : DkP w d fb mb stv F s) (hk : Keep (· = mb) w w') {i : Nat} (hi : i < s.L.length) {b : List UInt8} (hb : b.length = 64) (hm : MapIs w' mb (s.L.set i ((secAt s.L i).1, some b))) :
  DkP w' d fb mb stv F ⟨s.L.set i ((secAt s.L i).1, some b), s.up, s.left, s.stay⟩ := by
 refine ⟨?_, ?_, hm, fun hn => ?_, h.one, h.fd, h.ff, h.fm, h.df, h.dm, h.fmne, fun k hf => Nat.lt_of_lt_of_le (h.lt k hf) hk.size, ?_⟩
 ·simp only [List.length_set]
  exact (hk.block d (h.lt _ h.fd) h.dm).trans h.obj
 ·simp only [set_fst hi]
  exact h.secs.block (hk.block fb (h.lt _ h.ff) h.fmne)
 ·obtain ⟨cb, a1, a2, a3, a4, a5⟩ := h.st hn
  exact ⟨cb, a1.block (hk.block cb (h.lt _ a2) a5), a2, a3, a4, a5⟩
 ·have h1 := h.ok.put hi hb
  exact ⟨h1.len, h1.fl, h1.ca, h.ok.lt⟩
theorem dWrite1 (d : Nat) (F : Nat → Prop) (s : DS) (k : Nat) (A : Option Addr) (c : Nat) (b : List UInt8) (w : World) (gb gd gi : Nat) (h : DkAt w d F s) (hk : k < s.L.length) (hr : Rd w w.heap.size A 64 b) (ho : Off A 64 F)
  (h1 : w.cell? ⟨gb, 0, none⟩ = some (.slice A 64 c)) (h2 : w.cell? ⟨gd, 0, none⟩ = some (.pointer (some ⟨d, 0, none⟩))) (h3 : w.cell? ⟨gi, 0, none⟩ = some (.int .i64 (k : Int))) (n1 : ¬ F gb) (n2 : ¬ F gd) (n3 : ¬ F gi) :
  Calls Tryd.prog 43 #[.pointer (some ⟨gb, 0, none⟩), .pointer (some ⟨gd, 0, none⟩), .pointer (some ⟨gi, 0, none⟩)] w (ActOf w d F ⟨s.L.set k ((secAt s.L k).1, some b), s.up, s.left, s.stay⟩) := by
 obtain ⟨fb, mb, stv, hP⟩ := h
 obtain ⟨ba, oa, rfl, hba, hcl⟩ := hr.2 (by decide)
 have HB64 := qH hr.1
 have hrange : w.rangeAt ba oa (b.map bval) := fun j v hv => by
  have hj : j < b.length := by
   rcases Nat.lt_or_ge j b.length with g | g
   ·exact g
   ·rw [List.getElem?_eq_none (by simpa using g)] at hv; cases hv
  rw [hcl j (by rw [← HB64.out]; exact hj), ← hv, List.getElem?_map, List.getElem?_eq_getElem hj, nth_of_lt hj]
  rfl
 have HNB : Hid (ba ≠ mb) := fun e => ho (by decide) ba oa rfl (by rw [e]; exact hP.fm)
 have N1 : Hid (gb ≠ mb) := fun e => n1 (by rw [e]; exact hP.fm)
 have N2 : Hid (gd ≠ mb) := fun e => n2 (by rw [e]; exact hP.fm)
 have N3 : Hid (gi ≠ mb) := fun e => n3 (by rw [e]; exact hP.fm)
 have C1 : Hid (w.drew.cell? ⟨gb, 0, none⟩ = some (.slice (some ⟨ba, oa, none⟩) 64 c)) := h1
 have C2 : Hid (w.drew.cell? ⟨gd, 0, none⟩ = some (.pointer (some ⟨d, 0, none⟩))) := h2
 have C3 : Hid (w.drew.cell? ⟨gi, 0, none⟩ = some (.int .i64 (k : Int))) := h3
 have CM : Hid (w.drew.cell? ⟨d, 1, none⟩ = some (.map (some mb))) := (dkCell hP.obj).2.1
 have HR : Hid (w.drew.rangeAt ba oa (b.map bval)) := hrange
 have MD : Hid (MapIs w.drew mb s.L) := hP.map.block rfl
 have HLEN := qH hP.ok.len
 have H := qH hP
 have HK := qH hk
 have HSZ := qH (sec_len HB64.out)
 have hu := Tryd.underlying73
 clear hP hr ho h1 h2 h3 n1 n2 n3 hcl hba hrange hk
 go_enter Tryd.func43, Tryd.ntmps43
 obtain ⟨wd, hwd⟩ : ∃ wd, w.drew = wd := ⟨_, rfl⟩
 have HWD := qH hwd
 rw [hwd] at C1 C2 C3 CM HR MD
 clear hwd
 obtain ⟨w5, hrun, hm5, hg5, _⟩ := MD.out.store HLEN.out HK.out (secAt s.L k).1 b
 have HRUN := qH hrun
 have HM5 := qH hm5
 have HG5 := qH (keep_grown hg5)
 clear hrun hm5 hg5
 have HDM : Hid (d ≠ mb) := H.out.dm
 have L1 := qH (World.block_lt_of_cell? wd _ C1.out)
 have L2 := qH (World.block_lt_of_cell? wd _ C2.out)
 have L3 := qH (World.block_lt_of_cell? wd _ C3.out)
 have LD := qH (World.block_lt_of_cell? wd _ CM.out)
 have LB := qH (World.block_lt_of_cell? wd _ (HR.out 0 (bval (b.getD 0 0)) (by rw [List.getElem?_map, List.getElem?_eq_getElem (by rw [HB64.out]; decide)]; simp [List.getD, HB64.out])))
 refine wp_region_held_drew (S := (fun w' => ∀ b', b' < wd.heap.size → b' ≠ mb → w'.heap[b']? = wd.heap[b']?)) (by kernel_rfl) ((by rw [HWD.out]; exact fun _ _ _ => rfl)) (fun hHeld => ?_)
 rw [HWD.out] at hHeld ⊢
 refine tw 0 rfl (by intro w hSw; (try dsimp only at hSw); (have c := (World.cell?_of_block (w := wd) (a := ⟨gd, 0, none⟩) (hSw gd L2.out N2.out)).trans C2.out); clear hSw; go_simp; (try with_reducible rfl)) ?_
 simp only [pR]
 refine tk 1 ?_
 simp only [pR]
 refine tk 2 ?_
 simp only [pR]
 refine tw 3 rfl (by intro w hSw; (try dsimp only at hSw); (have c := (World.cell?_of_block (w := wd) (a := ⟨d, 1, none⟩) (hSw d LD.out HDM.out)).trans CM.out); clear hSw; go_simp; (try with_reducible rfl)) ?_
 simp only [pR]
 refine tw 4 rfl (by intro w hSw; (try dsimp only at hSw); (have c := (World.cell?_of_block (w := wd) (a := ⟨gi, 0, none⟩) (hSw gi L3.out N3.out)).trans C3.out); clear hSw; go_simp; (try with_reducible rfl)) ?_
 simp only [pR]
 refine tw 5 rfl (by intro w hSw; (try dsimp only at hSw); (have c := (World.cell?_of_block (w := wd) (a := ⟨gb, 0, none⟩) (hSw gb L1.out N1.out)).trans C1.out); clear hSw; go_simp; (try with_reducible rfl)) ?_
 simp only [pR]
 refine tw 6 rfl (by intro w hSw; (try dsimp only at hSw); (have c := run_arrayAt64 w (some ⟨ba, oa, none⟩) 64 c (Nat.le_refl _)); clear hSw; go_simp; (try with_reducible rfl)) ?_
 simp only [pR]
 refine tl 7 (.agg (List.toArray (b.map bval))) rfl (yieldsIf_load_mid (by rfl) 73 _ rfl ba oa rfl (b.map bval) _ ((fun w h j v hv => (World.cell?_of_block (w := wd) (h ba LB.out HNB.out)).trans (HR.out j v hv))) hu rfl HSZ.out) ?_
 simp only [pR]
 refine rd1 8 (fun K hK => ?_)
 rw [if_pos (by rfl)]
 refine wp_mapUpdate_run 29 _ _ _ rfl rfl rfl rfl HRUN.out ?_
 refine hK.out _ _ (fun b' hb hne => HG5.out.block b' hb hne) (fun hHeld => ?_)
 clear hK K
 refine wpAnyH_done (by kernel_rfl) ?_ _
 have HP5 := qH ((H.out.kept (R := fun _ => False) (w' := wd) (by rw [← HWD.out]; exact (Keep.refl _ _).drew) (fun _ _ h => h)).cached HG5.out HK.out HB64.out HM5.out)
 have KW : Hid (Keep F w wd) := by rw [← HWD.out]; exact (Keep.refl _ _).drew
 clear hHeld
 go_wp2_with fail
 refine bodyPost_end (results_none rfl _ _ _) rfl ⟨rfl, ⟨fb, mb, stv, HP5.out⟩, KW.out.trans (HG5.out.more (fun k h => by rw [h]; exact H.out.fm))⟩
theorem box_cell (w : World) (v : Value) (T : TypeId) : (w.alloc (.cells #[v] T)).cell? ⟨w.heap.size, 0, none⟩ = some v := by
 have h := cell_one_new w v T 0 v rfl
 rw [Addr.add_mid] at h
 exact h
theorem DkTo.after {w0 w w' : World} {d : Nat} {F : Nat → Prop} {r : Int × DS} {e : Ending} (hb : Below w0.heap.size w0 w) (h : DkTo w d F r e w') : DkTo w0 d F r e w' := by
 obtain ⟨he, F', h1, h2, h3⟩ := h
 exact ⟨he, F', h1, fun k hf => (h2 k hf).imp id (Nat.le_trans hb.size), (Keep.of_below hb).trans h3⟩
theorem DkTo.is {w w' : World} {d : Nat} {F : Nat → Prop} {r r' : Int × DS} {e : Ending} (h : DkTo w d F r e w') (hr : r = r') : DkTo w d F r' e w' := hr ▸ h
theorem dWriteS (d : Nat) (F : Nat → Prop) (s : DS) (i : Int) (A : Option Addr) (n c : Nat) (b : List UInt8) (w : World) (h : DkAt w d F s) (hr : Rd w w.heap.size A n b) (ho : Off A n F) :
  Calls Tryd.prog 31 #[.pointer (some ⟨d, 0, none⟩), .int .i64 i, .slice A n c] w (DkSt w d F (s.write i b)) := by
 obtain ⟨w1, hw1⟩ : ∃ w1, w.alloc (.cells #[.pointer (some ⟨d, 0, none⟩)] 27) = w1 := ⟨_, rfl⟩
 obtain ⟨w2, hw2⟩ : ∃ w2, w1.alloc (.cells #[.int .i64 i] 3) = w2 := ⟨_, rfl⟩
 obtain ⟨w3, hw3⟩ : ∃ w3, w2.alloc (.cells #[.slice A n c] 22) = w3 := ⟨_, rfl⟩
 have B1 : Below w.heap.size w w1 := by rw [← hw1]; exact (Below.refl _ _).alloc (Nat.le_refl _) _
 have B2 : Below w1.heap.size w1 w2 := by rw [← hw2]; exact (Below.refl _ _).alloc (Nat.le_refl _) _
 have B3 : Below w2.heap.size w2 w3 := by rw [← hw3]; exact (Below.refl _ _).alloc (Nat.le_refl _) _
 have e1 : w1.heap.size = w.heap.size + 1 := by rw [← hw1]; simp
 have e2 : w2.heap.size = w.heap.size + 1 + 1 := by rw [← hw2]; simp [e1]
 have e3 : w3.heap.size = w.heap.size + 1 + 1 + 1 := by rw [← hw3]; simp [e2]
 have D1 : w1.cell? ⟨w.heap.size, 0, none⟩ = some (.pointer (some ⟨d, 0, none⟩)) := by rw [← hw1]; exact box_cell _ _ _
 have D2 : w2.cell? ⟨w1.heap.size, 0, none⟩ = some (.int .i64 i) := by rw [← hw2]; exact box_cell _ _ _
 have D3 : w3.cell? ⟨w2.heap.size, 0, none⟩ = some (.slice A n c) := by rw [← hw3]; exact box_cell _ _ _
 have HB : Hid (Below w.heap.size w w3) := (B1.trans (B2.mono B1.size)).trans (B3.mono (Nat.le_trans B1.size B2.size))
 have C1 : Hid (w3.cell? ⟨w.heap.size, 0, none⟩ = some (.pointer (some ⟨d, 0, none⟩))) := (((B2.trans (B3.mono B2.size)).cell (p := ⟨w.heap.size, 0, none⟩) (by show w.heap.size < w1.heap.size; omega)).trans D1)
 have C2 : Hid (w3.cell? ⟨w.heap.size + 1, 0, none⟩ = some (.int .i64 i)) := by
  have := (B3.cell (p := ⟨w1.heap.size, 0, none⟩) (by show w1.heap.size < w2.heap.size; omega)).trans D2
  rw [e1] at this
  exact this
 have C3 : Hid (w3.cell? ⟨w.heap.size + 1 + 1, 0, none⟩ = some (.slice A n c)) := by rw [e2] at D3; exact D3
 have HE : Hid (((w.alloc (.cells #[.pointer (some ⟨d, 0, none⟩)] 27)).alloc (.cells #[.int .i64 i] 3)).alloc (.cells #[.slice A n c] 22) = w3) := by show _ = _; rw [hw1, hw2, hw3]
 have HSZ : Hid (w3.heap.size = w.heap.size + 1 + 1 + 1) := e3
 have H := qH (h.to HB.out)
 have HLT := qH h.lt
 have R := qH (hr.to HB.out)
 have OF := qH ho
 clear B1 B2 B3 e1 e2 e3 D1 D2 D3 hw1 hw2 hw3 h hr ho
 have HST := qH (dState d F s _ H.out)
 have HHS := qH (dHas d F s i _ H.out)
 have hci := enters_of Tryd.func43 (by kernel_rfl) rfl
 go_enter Tryd.func31, Tryd.ntmps31
 go_wp2_with fail
 rw [HE.out]
 clear HE
 have c1 := C1.out
 have c2 := C2.out
 have c3 := C3.out
 refine (HST.out).mono ?_
 rintro e w4 ⟨rfl, rfl⟩
 cases hu : s.up
 ·have HU := qH hu
  clear hu
  go_wp2_with fail
  go_ret
  rw [DS.write, HU.out, if_pos rfl]
  exact (DkSt.same H.out).after HB.out
 have HU := qH hu
 clear hu
 go_wp2_with fail
 refine (HHS.out).mono ?_
 rintro e w4 ⟨rfl, rfl⟩
 cases hh : s.has i
 ·have HH := qH hh
  clear hh
  go_wp2_with fail
  go_ret
  rw [DS.write, HU.out, if_neg (by decide), HH.out, if_pos rfl]
  exact (DkSt.same H.out).after HB.out
 have HH := qH hh
 have hz : 0 ≤ i ∧ i < (s.L.length : Int) := by simpa [DS.has] using hh
 clear hh
 have HN := qH R.out.1
 by_cases h64 : n = 64
 ·subst h64
  obtain ⟨k, rfl⟩ : ∃ k : Nat, i = (k : Int) := ⟨i.toNat, by omega⟩
  have HK : Hid (k < s.L.length) := by show _ < _; omega
  clear hz
  go_wp2_with fail
  replace H : Hid (DkAt w3.drew d F s) := H.out.kept (R := fun _ => False) (Keep.refl _ _).drew (fun _ _ h => h)
  replace C1 : Hid (w3.drew.cell? ⟨w.heap.size, 0, none⟩ = some (.pointer (some ⟨d, 0, none⟩))) := C1.out
  replace C2 : Hid (w3.drew.cell? ⟨w.heap.size + 1, 0, none⟩ = some (.int .i64 (k : Int))) := C2.out
  replace C3 : Hid (w3.drew.cell? ⟨w.heap.size + 1 + 1, 0, none⟩ = some (.slice A 64 c)) := C3.out
  replace R := qH R.out.drew'
  replace HB := qH HB.out.drew
  replace HSZ : Hid (w3.drew.heap.size = w.heap.size + 1 + 1 + 1) := HSZ.out
  clear HST HHS c1 c2 c3
  generalize hwd : w3.drew = wd at *
  have HWD := qH hwd
  clear hwd
  have HFG : Hid (∀ k, w.heap.size ≤ k → ¬ F k) := fun k hk hf => by have := HLT.out k hf; omega
  have HOP := qH (dOperate d F s (s.put k b) wd H.out 43 #[.pointer (some ⟨w.heap.size + 1 + 1, 0, none⟩), .pointer (some ⟨w.heap.size, 0, none⟩), .pointer (some ⟨w.heap.size + 1, 0, none⟩)] hci (fun hne w1 hk hd =>
   dWrite1 d F _ k A c b w1 (w.heap.size + 1 + 1) w.heap.size (w.heap.size + 1) hd HK.out (R.out.kept hk (fun hn bb o e hbb => OF.out hn bb o e (by rw [show bb = d from hbb]; exact H.out.fd))) OF.out
    ((hk.cell (a := ⟨w.heap.size + 1 + 1, 0, none⟩) (by show w.heap.size + 1 + 1 < _; rw [HSZ.out]; omega) (fun e => HFG.out (w.heap.size + 1 + 1) (by omega) (by rw [show w.heap.size + 1 + 1 = d from e]; exact H.out.fd))).trans C3.out)
    ((hk.cell (a := ⟨w.heap.size, 0, none⟩) (by show w.heap.size < _; rw [HSZ.out]; omega) (fun e => HFG.out w.heap.size (by omega) (by rw [show w.heap.size = d from e]; exact H.out.fd))).trans C1.out)
    ((hk.cell (a := ⟨w.heap.size + 1, 0, none⟩) (by show w.heap.size + 1 < _; rw [HSZ.out]; omega) (fun e => HFG.out (w.heap.size + 1) (by omega) (by rw [show w.heap.size + 1 = d from e]; exact H.out.fd))).trans C2.out)
    (HFG.out _ (by omega)) (HFG.out _ (by omega)) (HFG.out _ (by omega))))
  have HFL : Hid ((if s.left = 1 then ((60 : Int), s.fall (selB s.stay)) else (0, s.put k b)) = s.write (k : Int) b) := by
   show _ = _
   unfold DS.write
   rw [if_neg (c := s.up = false) (by rw [HU.out]; decide), if_neg (c := s.has (k : Int) = false) (by rw [HH.out]; decide), if_neg (c := b.length ≠ 64) (by rw [HN.out]; decide), Int.toNat_natCast]
  have HO2 := qH (HOP.out.mono (fun e w' h => h.is HFL.out))
  clear HOP HFL
  have HG : Hid (w.heap.size < wd.heap.size) := by show _ < _; rw [HSZ.out]; omega
  refine wp_region_held_drew (S := (fun w' => w'.cell? ⟨w.heap.size, 0, none⟩ = some (.pointer (some ⟨d, 0, none⟩)) ∧ True)) (by kernel_rfl) ((by rw [HWD.out]; exact ⟨C1.out, trivial⟩)) (fun hHeld => ?_)
  rw [HWD.out] at hHeld ⊢
  refine tw 0 rfl (by intro w hSw; (try dsimp only at hSw); (have c := hSw.1); clear hSw; go_simp; (try with_reducible rfl)) ?_
  simp only [pR]
  refine tw 1 rfl (by intro w hSw; (try dsimp only at hSw); (have c := hSw.1); clear hSw; go_simp; (try with_reducible rfl)) ?_
  simp only [pR]
  refine tk 2 ?_
  simp only [pR]
  refine tk 3 ?_
  simp only [pR]
  refine tk 4 ?_
  simp only [pR]
  refine tk 5 ?_
  simp only [pR]
  refine rd1 6 (fun K hK => ?_)
  go_simp
  refine (HO2.out).mono ?_
  rintro e w6 ⟨rfl, hd, hk⟩
  have D6 := qH hd
  have K6 := qH hk
  clear hd hk
  go_wp2_with fail
  refine hK.out _ _ (⟨(K6.out.cell (a := ⟨w.heap.size, 0, none⟩) HG.out (HFG.out _ (Nat.le_refl _))).trans C1.out, trivial⟩) (fun hHeld => ?_)
  clear hK K
  refine tk 7 ?_
  simp only [pR]
  refine wpAnyH_done (by kernel_rfl) ?_ _
  go_wp2_with fail
  go_ret
  exact ⟨rfl, D6.out, (Keep.of_below HB.out).trans K6.out⟩
 ·have HN64 : Hid (¬ n = 64) := h64
  have hn64 : ¬ (n : Int) = 64 := by omega
  clear h64
  go_wp2_with fail
  go_ret
  rw [DS.write, HU.out, if_neg (by decide), HH.out, if_neg (by decide), if_pos (by rw [HN.out]; exact HN64.out)]
  exact (DkSt.same H.out).after HB.out
theorem dWrite (d : Nat) (F : Nat → Prop) (s : DS) (i : Int) (A : Option Addr) (n c : Nat) (b : List UInt8) (w : World) (h : DkAt w d F s) (hr : Rd w w.heap.size A n b) (ho : Off A n F) :
  Calls Tryd.prog 31 #[.pointer (some ⟨d, 0, none⟩), .int .i64 i, .slice A n c] w (DkTo w d F (s.write i b)) := (dWriteS d F s i A n c b w h hr ho).mono fun e w' h => DkSt.to h
end Go.Proofs.YtopilgedcnbdaaaDoor