/- Several texts in one (a claim has 60 files at most): CfV. -/
import Derived.Test.YtlmdidblgeeplaaGreatDoorTz
import Derived.Test.YtlmdidblgeeplaaGreatDoorPCfSx
import Derived.Test.YtlmdidblgeeplaaGreatDoorPShaRefHx
namespace Go.Proofs.YtlmdidblgeeplaaGreatDoor
set_option maxRecDepth 1000000
set_option maxHeartbeats 8000000
set_option linter.unusedVariables false
set_option linter.unusedSimpArgs false
section
open Go.RowKit
def FRel (w1 : World) (bs : List UInt8) (v : Value) (wr : World) : Prop :=
 ∃ A n c, v = .slice A n c ∧ wr.ownsRow w1.heap.size 5 1 (.slice A n c) n (bs.map bval) ∧ Below w1.heap.size w1 wr
structure Ptb (w : World) (g : Nat) (p : Pt) (A : Option Addr) (m c : Nat) : Prop where
 c0 : w.cell? ⟨g, 0, none⟩ = some (.int .i64 p.id)
 c1 : w.cell? ⟨g, 1, none⟩ = some (.int .i64 p.base)
 c2 : w.cell? ⟨g, 2, none⟩ = some (.int .i64 p.size)
 c3 : w.cell? ⟨g, 3, none⟩ = some (.bool p.keep)
 c4 : w.cell? ⟨g, 4, none⟩ = some (.slice A m c)
 lt : g < w.heap.size
theorem Ptb.to {w w' : World} {g : Nat} {p : Pt} {A : Option Addr} {m c : Nat} (h : Ptb w g p A m c) (hb : Below w.heap.size w w') : Ptb w' g p A m c :=
 ⟨(hb.cell h.lt).trans h.c0, (hb.cell h.lt).trans h.c1, (hb.cell h.lt).trans h.c2, (hb.cell h.lt).trans h.c3, (hb.cell h.lt).trans h.c4, Nat.lt_of_lt_of_le h.lt hb.size⟩
theorem Ptb.kept {R : Nat → Prop} {w w' : World} {g : Nat} {p : Pt} {A : Option Addr} {m c : Nat} (h : Ptb w g p A m c) (hk : Keep R w w') (hn : ¬ R g) : Ptb w' g p A m c :=
 ⟨(hk.cell h.lt hn).trans h.c0, (hk.cell h.lt hn).trans h.c1, (hk.cell h.lt hn).trans h.c2, (hk.cell h.lt hn).trans h.c3, (hk.cell h.lt hn).trans h.c4, Nat.lt_of_lt_of_le h.lt hk.size⟩
theorem Ptb.new (w : World) (p : Pt) (A : Option Addr) (m c : Nat) (T : TypeId) : Ptb (w.alloc (.cells #[.int .i64 p.id, .int .i64 p.base, .int .i64 p.size, .bool p.keep, .slice A m c] T)) w.heap.size p A m c := ⟨by simp, by simp, by simp, by simp, by simp, by simp⟩
theorem own_lt {w : World} {B n : Nat} {T : TypeId} {v : Value} {xs : List Value} {b : Nat} (h : w.ownsRow B T 1 v n xs) (hb : v.ownBlock = some b) : b < w.heap.size := (h.lt b hb).2
theorem numsB_snoc {l : List Int} {j : Nat} (h : j < l.length) : numsB (l.take (j + 1)) = numsB (l.take j) ++ enc (u64N (l.getD j 0)) 8 := by
 rw [numsB, flat_snoc _ h, numsB]; simp [List.getD, List.getElem?_eq_getElem h]
theorem chN_cell {w : World} {g : Nat} {p : Ch} {T : TypeId} (hg : g = w.heap.size) : ∀ i, i < 5 → (w.alloc (.cells #[.int .i64 p.id, .int .i64 p.fr, .int .i64 p.dst, .int .i64 p.cap, .int .i64 p.size] T)).cell? ⟨g, i, none⟩ = some (.int .i64 ((chN p).getD i 0)) := by
 intro i hi
 subst hg
 match i, hi with
 | 0, _ => simp [chN]
 | 1, _ => simp [chN]
 | 2, _ => simp [chN]
 | 3, _ => simp [chN]
 | 4, _ => simp [chN]
def NRel (w1 wr : World) (l : List Int) (bs : List UInt8) (g : Nat) (s3 : Value) (wX : World) : Prop :=
 ∃ A n c, s3 = .slice A n c ∧ wX.ownsRow w1.heap.size 5 1 (.slice A n c) n (bs.map bval) ∧ Below w1.heap.size wr wX ∧ (∀ i, i < 5 → wX.cell? ⟨g, i, none⟩ = some (.int .i64 (l.getD i 0))) ∧
  (∀ b, (Value.slice A n c).ownBlock = some b → b ≠ g) ∧ g < wX.heap.size
theorem rForm (v : CV) (c : Cf) (w : World) (h : RdCf w w.heap.size v c) (hcan : canC c = true) :
  Calls Tryz.prog 88 #[.agg #[.slice v.aw v.nw v.kw, .slice v.ap v.np v.kp, .slice v.ac v.nc v.kc]] w fun x w' => RetB 5 w (formC c) x w' := by
 have hb := (Below.refl w.heap.size w).alloc (Nat.le_refl _) (.cells #[.slice v.aw v.nw v.kw, .slice v.ap v.np v.kp, .slice v.ac v.nc v.kc] 28)
 have B0 := qH hb
 have X := qH (Cfx.new w v 28)
 have R := qH (h.to hb)
 obtain ⟨hi, hw, hp, hc⟩ := canC_iff.1 hcan
 have HI := qH hi
 have HNW : Hid (v.nw ≤ 12) := by (show _ ≤ _); rw [← h.ww.1]; exact hw
 have HNP : Hid (v.np ≤ 6) := by (show _ ≤ _); rw [← h.pp.1]; exact hp
 have HNC : Hid (v.nc ≤ 8) := by (show _ ≤ _); rw [← h.cc.1]; exact hc
 have LW : Hid (c.ws.length = v.nw) := h.ww.1
 have LP : Hid (c.ps.length = v.np) := h.pp.1
 have LC : Hid (c.cs.length = v.nc) := h.cc.1
 clear h hb hcan hi hw hp hc
 go_enter Tryz.func88, Tryz.ntmps88
 go_wp2_with fail
 generalize w.alloc (.cells #[.slice v.aw v.nw v.kw, .slice v.ap v.np v.kp, .slice v.ac v.nc v.kc] 28) = w1 at *
 obtain ⟨x0, x1, x2, _⟩ := X.out
 refine (rIntB (v.nw : Int) w1).mono ?_
 rintro e w2 ⟨A2, n2, c2, rfl, hown, hb2⟩
 rw [show enc (u64N (v.nw : Int)) 8 = wsB c.ws 0 by rw [wsB_zero, LW.out]; rfl] at hown
 have HR : Hid (FRel w1 (wsB c.ws 0) (.slice A2 n2 c2) w2) := ⟨A2, n2, c2, rfl, hown, hb2⟩
 clear hown hb2
 go_wp2_with fail
 go_loopw [3, 4] (fun s3 s4 wr => ∃ k : Nat, k ≤ v.nw ∧ s4 = .int .i64 (k : Int) ∧ FRel w1 (wsB c.ws k) s3 wr) (fun _ s4 _ => v.nw - (intOf s4).toNat)
 case atStart => exact ⟨0, Nat.zero_le _, rfl, HR.out⟩
 case round =>
  clear HR
  obtain ⟨k, hk, rfl, A3, n3, c3, rfl, ho, hb⟩ := hrel
  have O := qH ho
  have B := qH hb
  have HK := qH hk
  obtain ⟨y0, _, _, _⟩ := X.out.to hb
  have hn3 : n3 ≤ 200 := by rw [← (Rd.of_own ho).1]; exact wsB_le _ _ (by rw [LW.out]; exact HNW.out)
  have H3 := qH hn3
  clear ho hb hk hn3 x0 x1 x2
  by_cases hlt : k < v.nw
  ·have hltI : (k : Int) < (v.nw : Int) := by omega
   have hwk : IntKind.i64.wrap ((k : Int) + 1) = (k : Int) + 1 := by have := HNW.out; rw [IntKind.wrap_i64]; omega
   have HLT : Hid (k < v.nw) := hlt
   have HS := qH (wsB_snoc (l := c.ws) (k := k) (by rw [LW.out]; exact hlt))
   obtain ⟨bb, o, hA, hbb, hcell⟩ := R.out.ww.2 (by omega)
   obtain ⟨z0, z1⟩ := hcell k hlt
   replace z0 := (B.out.cell (p := ⟨bb, _, none⟩) hbb).trans z0
   replace z1 := qH z1
   have HBB := qH hbb
   rw [hA] at y0 ⊢
   clear hcell hbb
   generalize hr : rat c.ws k = r at *
   go_wp2_with fail
   refine (rIntB r.1 wr).mono ?_
   rintro e w4 ⟨A4, n4, c4, rfl, hown, hb4⟩
   obtain rfl : n4 = 8 := by rw [← (Rd.of_own hown).1, enc_len]
   have R4 := qH (Rd.of_own hown)
   have O4 := qH (own_below O.out hb4)
   have B4 := qH (B.out.trans (hb4.mono B.out.size))
   clear hown hb4 y0 z0
   go_wp2_with (at_builtin; refine wpList_pushAll isU8 rfl _ _ rfl rfl rfl O4.out R4.out B4.out B4.out.size (by have := H3.out; omega) ?_; intro v5 w5 hown5 hb5 hs5; obtain ⟨A5, c5, rfl⟩ := own_slice hown5; obtain ⟨y0, _, _, _⟩ := X.out.to hb5; rw [hA] at y0; have z1' := (hb5.cell (p := ⟨bb, o + k * 2 + 1, none⟩) HBB.out).trans z1.out)
   have O5 := qH hown5
   have B5 := qH hb5
   clear hown5 hb5 hs5 O4 R4 B4 O B
   refine (rIntB r.2 w5).mono ?_
   rintro e w6 ⟨A6, n6, c6, rfl, hown, hb6⟩
   obtain rfl : n6 = 8 := by rw [← (Rd.of_own hown).1, enc_len]
   have R6 := qH (Rd.of_own hown)
   have O6 := qH (own_below O5.out hb6)
   have B6 := qH (B5.out.trans (hb6.mono B5.out.size))
   clear hown hb6 y0 z1' O5 B5
   go_wp2_with (at_builtin; refine wpList_pushAll isU8 rfl _ _ rfl rfl rfl O6.out R6.out B6.out B6.out.size (by have := H3.out; omega) ?_; intro v7 w7 hown7 hb7 hs7; obtain ⟨A7, c7, rfl⟩ := own_slice hown7)
   have HF : Hid (FRel w1 (wsB c.ws (k + 1)) (.slice A7 (n3 + 8 + 8) c7) w7) := ⟨A7, _, c7, rfl, by rw [HS.out, winB]; simpa using hown7, hb7⟩
   go_roundw
   case rel => exact ⟨k + 1, HLT.out, by go_num, HF.out⟩
   case measure => simp [intOf]; omega
  ·obtain rfl : k = v.nw := by have := HK.out; omega
   obtain ⟨_, y1, _, _⟩ := X.out.to B.out
   go_wp2_with fail
   refine (rIntB (v.np : Int) wr).mono ?_
   rintro e w4 ⟨A4, n4, c4, rfl, hown, hb4⟩
   obtain rfl : n4 = 8 := by rw [← (Rd.of_own hown).1, enc_len]
   rw [show enc (u64N (v.np : Int)) 8 = psB c.ps 0 by rw [psB_zero, LP.out]; rfl] at hown
   have R4 := qH (Rd.of_own hown)
   have O4 := qH (own_below O.out hb4)
   have B4 := qH (B.out.trans (hb4.mono B.out.size))
   clear hown hb4 y0 y1
   go_wp2_with (at_builtin; refine wpList_pushAll isU8 rfl _ _ rfl rfl rfl O4.out R4.out B4.out B4.out.size (by have := H3.out; omega) ?_; intro v5 w5 hown5 hb5 hs5; obtain ⟨A5, c5, rfl⟩ := own_slice hown5)
   have HR : Hid (FRel w1 (wsB c.ws v.nw ++ psB c.ps 0) (.slice A5 (n3 + 8) c5) w5) := ⟨A5, _, c5, rfl, hown5, hb5⟩
   clear hown5 hb5 hs5 O4 R4 B4 O B H3
   obtain ⟨pre, hpre⟩ : ∃ l, wsB c.ws v.nw = l := ⟨_, rfl⟩
   have HPRE : Hid (pre.length ≤ 200) := by (show _ ≤ _); rw [← hpre]; exact wsB_le _ _ (by rw [LW.out]; exact HNW.out)
   rw [hpre] at HR
   replace hpre := qH hpre
   go_loopw [3, 5, 6] (fun s3 s5 s6 wr => ∃ k : Nat, k ≤ v.np ∧ s5 = .int .i64 (k : Int) ∧ FRel w1 (pre ++ psB c.ps k) s3 wr) (fun _ s5 _ _ => v.np - (intOf s5).toNat)
   case atStart => exact ⟨0, Nat.zero_le _, rfl, HR.out⟩
   case round =>
    clear HR HK
    obtain ⟨k, hk, rfl, A3, n3, c3, rfl, ho, hb⟩ := hrel
    have O := qH ho
    have B := qH hb
    have HK := qH hk
    obtain ⟨_, y1, _, _⟩ := X.out.to hb
    have hn3 : n3 ≤ 3454 := by
     rw [← (Rd.of_own ho).1, List.length_append]
     have := HPRE.out
     have := psB_le c.ps k (by rw [LP.out]; exact HNP.out) HI.out
     omega
    have H3 := qH hn3
    clear ho hb hk hn3
    by_cases hlt : k < v.np
    ·have hltI : (k : Int) < (v.np : Int) := by omega
     have hwk : IntKind.i64.wrap ((k : Int) + 1) = (k : Int) + 1 := by have := HNP.out; rw [IntKind.wrap_i64]; omega
     have HLT : Hid (k < v.np) := hlt
     have HS := qH (psB_snoc (l := c.ps) (k := k) (by rw [LP.out]; exact hlt))
     obtain ⟨bb, o, A', m, c', hA, z0, z1, z2, z3, z4, hrd, hmc, hc'⟩ := (R.out.pp.below B.out).at_ hlt
     have hm : m ≤ 512 := by
      rw [← hrd.1, ptAt_lt (by rw [LP.out]; exact hlt)]; exact HI.out _ (List.getElem_mem _)
     have HM := qH hm
     have HRD := qH hrd
     rw [hA] at y1 ⊢
     clear hrd hm hmc hc'
     generalize hr : ptAt c.ps k = p at *
     go_wp2_with fail
     have Pa0 := qH (Ptb.new wr p A' m c' 58)
     have Oa0 := qH (own_below O.out ((Below.refl wr.heap.size wr).alloc (Nat.le_refl _) (.cells #[.int .i64 p.id, .int .i64 p.base, .int .i64 p.size, .bool p.keep, .slice A' m c'] 58)))
     have Ba0 := qH ((Below.refl w1.heap.size wr).alloc B.out.size (.cells #[.int .i64 p.id, .int .i64 p.base, .int .i64 p.size, .bool p.keep, .slice A' m c'] 58))
     have HD0 : Hid (∀ b, (Value.slice A3 n3 c3).ownBlock = some b → b ≠ wr.heap.size) := fun b hb => by have := own_lt O.out hb; omega
     obtain ⟨wa0, hwa⟩ : ∃ x, wr.alloc (.cells #[.int .i64 p.id, .int .i64 p.base, .int .i64 p.size, .bool p.keep, .slice A' m c'] 58) = x := ⟨_, rfl⟩
     rw [hwa] at Pa0 Oa0 Ba0 ⊢
     clear hwa z0 z1 z2 z3 z4 y1
     have hg : Hid (w1.heap.size ≤ wr.heap.size) := B.out.size
     refine (((rIntB p.id wa0))).mono ?_
     rintro e wb0 ⟨Ab0, nb0, cb0, rfl, hown, hbb⟩
     obtain rfl : nb0 = 8 := by rw [← (Rd.of_own hown).1, enc_len]
     have Rb0 := qH (Rd.of_own hown)
     have Ob0 := qH (own_below Oa0.out hbb)
     have Bb0 := qH (Ba0.out.trans (hbb.mono (Nat.le_trans hg.out Ba0.out.size)))
     have Pb0 := qH (Pa0.out.to hbb)
     clear hown hbb
     go_wp2_with (at_builtin; refine wpList_pushAllL isU8 rfl _ _ rfl rfl rfl (by omega) Ob0.out Rb0.out Bb0.out (Nat.le_trans hg.out Bb0.out.size) (by have := H3.out; have := HM.out; omega) ?_; intro v1 wa1 hown1 hb1 hk1 hd1; obtain ⟨Aa1, ca1, rfl⟩ := own_slice hown1; have hp1 := Pb0.out.kept hk1 (fun h => HD0.out _ h rfl); obtain ⟨q0, q1, q2, q3, q4, _⟩ := hp1)
     have Pa1 : Hid (Ptb wa1 wr.heap.size p A' m c') := Pb0.out.kept hk1 (fun h => HD0.out _ h rfl)
     have Oa1 := qH hown1
     have Ba1 := qH hb1
     have HD1 : Hid (∀ b, (Value.slice Aa1 _ ca1).ownBlock = some b → b ≠ wr.heap.size) := fun b hb => by
      rcases hd1 b hb with h | h
      ·exact HD0.out b h
      ·have := Pb0.out.lt; omega
     clear hown1 hb1 hk1 hd1 q0 q1 q2 q3 q4 Oa0 Ba0 Pa0 Ob0 Bb0 Pb0 Rb0 HD0
     refine (((rIntB p.base wa1))).mono ?_
     rintro e wb1 ⟨Ab1, nb1, cb1, rfl, hown, hbb⟩
     obtain rfl : nb1 = 8 := by rw [← (Rd.of_own hown).1, enc_len]
     have Rb1 := qH (Rd.of_own hown)
     have Ob1 := qH (own_below Oa1.out hbb)
     have Bb1 := qH (Ba1.out.trans (hbb.mono (Nat.le_trans hg.out Ba1.out.size)))
     have Pb1 := qH (Pa1.out.to hbb)
     clear hown hbb
     go_wp2_with (at_builtin; refine wpList_pushAllL isU8 rfl _ _ rfl rfl rfl (by omega) Ob1.out Rb1.out Bb1.out (Nat.le_trans hg.out Bb1.out.size) (by have := H3.out; have := HM.out; omega) ?_; intro v2 wa2 hown2 hb2 hk2 hd2; obtain ⟨Aa2, ca2, rfl⟩ := own_slice hown2; have hp2 := Pb1.out.kept hk2 (fun h => HD1.out _ h rfl); obtain ⟨q0, q1, q2, q3, q4, _⟩ := hp2)
     have Pa2 : Hid (Ptb wa2 wr.heap.size p A' m c') := Pb1.out.kept hk2 (fun h => HD1.out _ h rfl)
     have Oa2 := qH hown2
     have Ba2 := qH hb2
     have HD2 : Hid (∀ b, (Value.slice Aa2 _ ca2).ownBlock = some b → b ≠ wr.heap.size) := fun b hb => by
      rcases hd2 b hb with h | h
      ·exact HD1.out b h
      ·have := Pb1.out.lt; omega
     clear hown2 hb2 hk2 hd2 q0 q1 q2 q3 q4 Oa1 Ba1 Pa1 Ob1 Bb1 Pb1 Rb1 HD1
     refine (((rIntB p.size wa2))).mono ?_
     rintro e wb2 ⟨Ab2, nb2, cb2, rfl, hown, hbb⟩
     obtain rfl : nb2 = 8 := by rw [← (Rd.of_own hown).1, enc_len]
     have Rb2 := qH (Rd.of_own hown)
     have Ob2 := qH (own_below Oa2.out hbb)
     have Bb2 := qH (Ba2.out.trans (hbb.mono (Nat.le_trans hg.out Ba2.out.size)))
     have Pb2 := qH (Pa2.out.to hbb)
     clear hown hbb
     go_wp2_with (at_builtin; refine wpList_pushAllL isU8 rfl _ _ rfl rfl rfl (by omega) Ob2.out Rb2.out Bb2.out (Nat.le_trans hg.out Bb2.out.size) (by have := H3.out; have := HM.out; omega) ?_; intro v3 wa3 hown3 hb3 hk3 hd3; obtain ⟨Aa3, ca3, rfl⟩ := own_slice hown3; have hp3 := Pb2.out.kept hk3 (fun h => HD2.out _ h rfl); obtain ⟨q0, q1, q2, q3, q4, _⟩ := hp3)
     have Pa3 : Hid (Ptb wa3 wr.heap.size p A' m c') := Pb2.out.kept hk3 (fun h => HD2.out _ h rfl)
     have Oa3 := qH hown3
     have Ba3 := qH hb3
     have HD3 : Hid (∀ b, (Value.slice Aa3 _ ca3).ownBlock = some b → b ≠ wr.heap.size) := fun b hb => by
      rcases hd3 b hb with h | h
      ·exact HD2.out b h
      ·have := Pb2.out.lt; omega
     clear hown3 hb3 hk3 hd3 q0 q1 q2 q3 q4 Oa2 Ba2 Pa2 Ob2 Bb2 Pb2 Rb2 HD2
     refine (((rFlagB p.keep wa3))).mono ?_
     rintro e wb3 ⟨Ab3, nb3, cb3, rfl, hown, hbb⟩
     obtain rfl : nb3 = 1 := by rw [← (Rd.of_own hown).1]; rfl
     have Rb3 := qH (Rd.of_own hown)
     have Ob3 := qH (own_below Oa3.out hbb)
     have Bb3 := qH (Ba3.out.trans (hbb.mono (Nat.le_trans hg.out Ba3.out.size)))
     have Pb3 := qH (Pa3.out.to hbb)
     clear hown hbb
     go_wp2_with (at_builtin; refine wpList_pushAllL isU8 rfl _ _ rfl rfl rfl (by omega) Ob3.out Rb3.out Bb3.out (Nat.le_trans hg.out Bb3.out.size) (by have := H3.out; have := HM.out; omega) ?_; intro v4 wa4 hown4 hb4 hk4 hd4; obtain ⟨Aa4, ca4, rfl⟩ := own_slice hown4; have hp4 := Pb3.out.kept hk4 (fun h => HD3.out _ h rfl); obtain ⟨q0, q1, q2, q3, q4, _⟩ := hp4)
     have Pa4 : Hid (Ptb wa4 wr.heap.size p A' m c') := Pb3.out.kept hk4 (fun h => HD3.out _ h rfl)
     have Oa4 := qH hown4
     have Ba4 := qH hb4
     have HD4 : Hid (∀ b, (Value.slice Aa4 _ ca4).ownBlock = some b → b ≠ wr.heap.size) := fun b hb => by
      rcases hd4 b hb with h | h
      ·exact HD3.out b h
      ·have := Pb3.out.lt; omega
     clear hown4 hb4 hk4 hd4 q0 q1 q2 q3 q4 Oa3 Ba3 Pa3 Ob3 Bb3 Pb3 Rb3 HD3
     refine ((rBytesB A' m c' p.img wa4 ((HRD.out.below Ba4.out).more (Nat.le_trans hg.out Ba4.out.size)) (by have := HM.out; omega))).mono ?_
     rintro e wb4 ⟨Ab4, nb4, cb4, rfl, hown, hbb⟩
     obtain rfl : nb4 = 4 + m := by rw [← (Rd.of_own hown).1, List.length_append, enc_len, HRD.out.1]
     have Rb4 := qH (Rd.of_own hown)
     have Ob4 := qH (own_below Oa4.out hbb)
     have Bb4 := qH (Ba4.out.trans (hbb.mono (Nat.le_trans hg.out Ba4.out.size)))
     have Pb4 := qH (Pa4.out.to hbb)
     clear hown hbb
     go_wp2_with (at_builtin; refine wpList_pushAllL isU8 rfl _ _ rfl rfl rfl (by omega) Ob4.out Rb4.out Bb4.out (Nat.le_trans hg.out Bb4.out.size) (by have := H3.out; have := HM.out; omega) ?_; intro v5 wa5 hown5 hb5 hk5 hd5; obtain ⟨Aa5, ca5, rfl⟩ := own_slice hown5; have hp5 := Pb4.out.kept hk5 (fun h => HD4.out _ h rfl); obtain ⟨q0, q1, q2, q3, q4, _⟩ := hp5)
     have Pa5 : Hid (Ptb wa5 wr.heap.size p A' m c') := Pb4.out.kept hk5 (fun h => HD4.out _ h rfl)
     have Oa5 := qH hown5
     have Ba5 := qH hb5
     have HD5 : Hid (∀ b, (Value.slice Aa5 _ ca5).ownBlock = some b → b ≠ wr.heap.size) := fun b hb => by
      rcases hd5 b hb with h | h
      ·exact HD4.out b h
      ·have := Pb4.out.lt; omega
     clear hown5 hb5 hk5 hd5 q0 q1 q2 q3 q4 Oa4 Ba4 Pa4 Ob4 Bb4 Pb4 Rb4 HD4
     go_roundw
     case rel => exact ⟨k + 1, HLT.out, by go_num, _, _, _, rfl, by rw [HS.out, ptB, HRD.out.1]; simpa [List.append_assoc] using Oa5.out, B.out.trans Ba5.out⟩
     case measure => simp [intOf]; omega
    ·obtain rfl : k = v.np := by have := HK.out; omega
     obtain ⟨_, _, y2, _⟩ := X.out.to B.out
     go_wp2_with fail
     refine (rIntB (v.nc : Int) wr).mono ?_
     rintro e w4 ⟨A4, n4, c4, rfl, hown, hb4⟩
     obtain rfl : n4 = 8 := by rw [← (Rd.of_own hown).1, enc_len]
     rw [show enc (u64N (v.nc : Int)) 8 = csB c.cs 0 by rw [csB_zero, LC.out]; rfl] at hown
     have R4 := qH (Rd.of_own hown)
     have O4 := qH (own_below O.out hb4)
     have B4 := qH (B.out.trans (hb4.mono B.out.size))
     clear hown hb4 y1 y2
     go_wp2_with (at_builtin; refine wpList_pushAll isU8 rfl _ _ rfl rfl rfl O4.out R4.out B4.out B4.out.size (by have := H3.out; omega) ?_; intro v5 w5 hown5 hb5 hs5; obtain ⟨A5, c5, rfl⟩ := own_slice hown5)
     have HR : Hid (FRel w1 (pre ++ psB c.ps v.np ++ csB c.cs 0) (.slice A5 (n3 + 8) c5) w5) := ⟨A5, _, c5, rfl, hown5, hb5⟩
     clear hown5 hb5 hs5 O4 R4 B4 O B H3
     have HFC : Hid (formC c = pre ++ psB c.ps v.np ++ csB c.cs v.nc) := by (show _ = _); rw [formC, LW.out, LP.out, LC.out, hpre.out]
     obtain ⟨pre2, hpre2⟩ : ∃ l, pre ++ psB c.ps v.np = l := ⟨_, rfl⟩
     have HPRE2 : Hid (pre2.length ≤ 3454) := by
      (show _ ≤ _); rw [← hpre2, List.length_append]
      have := HPRE.out
      have := psB_le c.ps v.np (by rw [LP.out]; exact HNP.out) HI.out
      omega
     rw [hpre2] at HR HFC
     clear hpre2
     go_loopw [3, 7, 8, 9, 10] (fun s3 s7 s8 s9 s10 wr => ∃ k : Nat, k ≤ v.nc ∧ s7 = .int .i64 (k : Int) ∧ FRel w1 (pre2 ++ csB c.cs k) s3 wr) (fun _ s7 _ _ _ _ => v.nc - (intOf s7).toNat)
     case atStart => exact ⟨0, Nat.zero_le _, rfl, HR.out⟩
     case round =>
      clear HR HK
      obtain ⟨k, hk, rfl, A3, n3, c3, rfl, ho, hb⟩ := hrel
      have O := qH ho
      have B := qH hb
      have HK := qH hk
      obtain ⟨_, _, y2, _⟩ := X.out.to hb
      have hn3 : n3 ≤ 3782 := by
       rw [← (Rd.of_own ho).1, List.length_append]
       have := HPRE2.out
       have := csB_le c.cs k (by rw [LC.out]; exact HNC.out)
       omega
      have H3 := qH hn3
      clear ho hb hk hn3
      by_cases hlt : k < v.nc
      ·have hltI : (k : Int) < (v.nc : Int) := by omega
       have hwk : IntKind.i64.wrap ((k : Int) + 1) = (k : Int) + 1 := by have := HNC.out; rw [IntKind.wrap_i64]; omega
       have HLT : Hid (k < v.nc) := hlt
       have HS := qH (csB_snoc (l := c.cs) (k := k) (by rw [LC.out]; exact hlt))
       obtain ⟨bb, o, hA, z0, z1, z2, z3, z4⟩ := (R.out.cc.below B.out).at_ hlt
       rw [hA] at y2 ⊢
       generalize hr : chAt c.cs k = p at *
       go_wp2_with fail
       obtain ⟨wo, hwo⟩ : ∃ x, x = wr := ⟨_, rfl⟩
       subst hwo
       have HN0 : Hid (NRel w1 wo (chN p) (pre2 ++ csB c.cs k ++ numsB ((chN p).take 0)) (wo.heap.size + 1) (.slice A3 n3 c3) ((wo.alloc (.cells #[.int .i64 p.id, .int .i64 p.fr, .int .i64 p.dst, .int .i64 p.cap, .int .i64 p.size] 130)).alloc (.cells #[.int .i64 p.id, .int .i64 p.fr, .int .i64 p.dst, .int .i64 p.cap, .int .i64 p.size] 3))) := by
        (show NRel _ _ _ _ _ _ _)
        refine ⟨A3, n3, c3, rfl, ?_, ((Below.refl w1.heap.size wo).alloc B.out.size _).alloc (by have := B.out.size; simp; omega) _, chN_cell (by simp), fun b hb => by have := own_lt O.out hb; omega, by simp⟩
        have := own_below O.out (((Below.refl wo.heap.size wo).alloc (Nat.le_refl _) (.cells #[.int .i64 p.id, .int .i64 p.fr, .int .i64 p.dst, .int .i64 p.cap, .int .i64 p.size] 130)).alloc (by simp) (.cells #[.int .i64 p.id, .int .i64 p.fr, .int .i64 p.dst, .int .i64 p.cap, .int .i64 p.size] 3))
        simpa [numsB] using this
       generalize (wo.alloc (.cells #[.int .i64 p.id, .int .i64 p.fr, .int .i64 p.dst, .int .i64 p.cap, .int .i64 p.size] 130)).alloc (.cells #[.int .i64 p.id, .int .i64 p.fr, .int .i64 p.dst, .int .i64 p.cap, .int .i64 p.size] 3) = wa at *
       have hg : Hid (w1.heap.size ≤ wo.heap.size) := B.out.size
       clear z0 z1 z2 z3 z4 y2
       go_loopw [3, 10] (fun s3 s10 wr => ∃ j : Nat, j ≤ 5 ∧ s10 = .int .i64 (j : Int) ∧ NRel w1 wo (chN p) (pre2 ++ csB c.cs k ++ numsB ((chN p).take j)) (wo.heap.size + 1) s3 wr) (fun _ s10 _ => 5 - (intOf s10).toNat)
       case atStart => exact ⟨0, by omega, rfl, HN0.out⟩
       case round =>
        clear HN0
        obtain ⟨j, hj, rfl, A4, n4, c4, rfl, ho4, hb4, hc4, hd4, hl4⟩ := hrel
        have O4 := qH ho4
        have B4 := qH hb4
        have C4 := qH hc4
        have D4 := qH hd4
        have L4 := qH hl4
        have HJ := qH hj
        have hn4 : n4 ≤ 3782 + 40 := by
         rw [← (Rd.of_own ho4).1, List.length_append, List.length_append, numsB_len, List.length_take]
         have := HPRE2.out
         have := csB_le c.cs k (by rw [LC.out]; exact HNC.out)
         omega
        have H4 := qH hn4
        clear ho4 hb4 hc4 hd4 hl4 hj hn4
        by_cases hj5 : j < 5
        ·have hj5I : (j : Int) < 5 := by omega
         have HJ5 : Hid (j < 5) := hj5
         have hwj : IntKind.i64.wrap ((j : Int) + 1) = (j : Int) + 1 := by rw [IntKind.wrap_i64]; omega
         have HNS := qH (numsB_snoc (l := chN p) (j := j) hj5)
         have q0 := C4.out j hj5
         generalize hx : (chN p).getD j 0 = x at HNS q0
         go_wp2_with fail
         refine (rIntB x wr).mono ?_
         rintro e wb ⟨Ab, nb, cb, rfl, hown, hbb⟩
         obtain rfl : nb = 8 := by rw [← (Rd.of_own hown).1, enc_len]
         have Rb := qH (Rd.of_own hown)
         have Ob := qH (own_below O4.out hbb)
         have Bb := qH (B4.out.trans (hbb.mono (Nat.le_trans hg.out B4.out.size)))
         have Cb : Hid (∀ i, i < 5 → wb.cell? ⟨wo.heap.size + 1, i, none⟩ = some (.int .i64 ((chN p).getD i 0))) := fun i hi => (hbb.cell (p := ⟨_, i, none⟩) L4.out).trans (C4.out i hi)
         have Lb : Hid (wo.heap.size + 1 < wb.heap.size) := Nat.lt_of_lt_of_le L4.out hbb.size
         clear hown hbb q0
         go_wp2_with (at_builtin; refine wpList_pushAllL isU8 rfl _ _ rfl rfl rfl (by omega) Ob.out Rb.out Bb.out (Nat.le_trans hg.out Bb.out.size) (by have := H4.out; omega) ?_; intro v5 w5 hown5 hb5 hk5 hd5; obtain ⟨A5, c5, rfl⟩ := own_slice hown5)
         have HN5 : Hid (NRel w1 wo (chN p) (pre2 ++ csB c.cs k ++ numsB ((chN p).take (j + 1))) (wo.heap.size + 1) (.slice A5 (n4 + 8) c5) w5) := by
          (show NRel _ _ _ _ _ _ _)
          refine ⟨A5, _, c5, rfl, by rw [HNS.out]; simpa [List.append_assoc] using hown5, hb5, fun i hi => (hk5.cell (show (⟨wo.heap.size + 1, i, none⟩ : Addr).block < _ from Lb.out) (fun h => D4.out (wo.heap.size + 1) h rfl)).trans (Cb.out i hi), fun b hb => ?_, Nat.lt_of_lt_of_le Lb.out hk5.size⟩
          rcases hd5 b hb with h | h
          ·exact D4.out b h
          ·have := Lb.out; omega
         clear hown5 hb5 hk5 hd5 hx
         go_roundw
         case rel => exact ⟨j + 1, HJ5.out, by go_num, HN5.out⟩
         case measure => simp [intOf]; omega
        ·obtain rfl : j = 5 := by have := HJ.out; omega
         have HF : Hid (FRel w1 (pre2 ++ csB c.cs (k + 1)) (.slice A4 n4 c4) wr) := by
          (show FRel _ _ _ _)
          refine ⟨A4, _, c4, rfl, ?_, B.out.trans B4.out⟩
          have := O4.out
          rw [HS.out, chB]
          rw [show (chN p).take 5 = chN p from rfl, List.append_assoc] at this
          exact this
         go_wp2_with fail
         go_roundw
         case rel => exact ⟨k + 1, HLT.out, by go_num, HF.out⟩
         case measure => simp [intOf]; omega
      ·obtain rfl : k = v.nc := by have := HK.out; omega
       have HE : Hid (RetB 5 w (formC c) (.returned (.slice A3 n3 c3)) wr) := by
        (show RetB _ _ _ _ _)
        refine ⟨A3, n3, c3, rfl, own_mono (by rw [HFC.out]; exact O.out) B0.out.size, B0.out.trans (B.out.mono B0.out.size)⟩
       go_wp2_with fail
       go_ret
       exact HE.out
end
end Go.Proofs.YtlmdidblgeeplaaGreatDoor