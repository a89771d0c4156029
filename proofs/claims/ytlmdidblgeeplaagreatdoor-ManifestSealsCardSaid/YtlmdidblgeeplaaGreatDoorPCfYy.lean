/- Several texts in one (a claim has 60 files at most): CfY. -/
import Derived.Test.YtlmdidblgeeplaaGreatDoorTz
import Derived.Test.YtlmdidblgeeplaaGreatDoorPCfLcx
import Derived.Deep.Cut
namespace Go.Proofs.YtlmdidblgeeplaaGreatDoor
set_option maxRecDepth 1000000
set_option maxHeartbeats 8000000
set_option linter.unusedVariables false
set_option linter.unusedSimpArgs false
section
open Go.RowKit
theorem count_nat (s : RS) (most : Nat) : ∃ N : Nat, countV s (most : Int) = (N : Int) ∧ N ≤ most := by
 have := count_range s most
 exact ⟨(countV s (most : Int)).toNat, by omega, by omega⟩
structure BSt (w4 : World) (gr : Nat) (gb : Option Nat) (T : TypeId) (w : World) (s : RS) (cs : List Value) : Prop where
 k : Keep (fun j => j = gr ∨ w4.heap.size ≤ j) w4 w
 r : RefAt w gr gb s
 x : Bx w w4.heap.size T cs
 grl : gr < w4.heap.size
 gbl : ∀ b, gb = some b → b < w4.heap.size
section
variable {w0 w4 w : World} {T gr g : Nat} {gb : Option Nat} {s : RS} {vw vp vc : Value} {lw : List Reg} {lp : List QP} {lc : List Ch} {U : TypeId} {cs : List Value}
theorem BSt.new (h : PSt w0 T gr g gb w4 s vw vp vc lw lp lc) (U : TypeId) (cs : List Value) : BSt w4 gr gb U (w4.alloc (.cells cs.toArray U)) s cs := by
 have hal := (Below.refl w4.heap.size w4).alloc (Nat.le_refl _) (.cells cs.toArray U)
 exact ⟨Keep.of_below hal, h.ref.below hal, Bx.new w4 U cs, h.ref.lt, fun b hb => by have := h.gbt b hb; have := h.tw; omega⟩
theorem BSt.read {w' : World} {s' : RS} (h : BSt w4 gr gb U w s cs) (hk : Keep (· = gr) w w') (hr : RefAt w' gr gb s') : BSt w4 gr gb U w' s' cs :=
 ⟨h.k.trans (hk.more fun j hj => .inl hj), hr, h.x.kept hk (fun hh => by have := h.grl; omega), h.grl, h.gbl⟩
theorem BSt.put (h : BSt w4 gr gb U w s cs) (j : Nat) (v : Value) : BSt w4 gr gb U (w.setCell ⟨w4.heap.size, j, none⟩ v) s (cs.set j v) :=
 ⟨h.k.setCell _ _ (.inr (Nat.le_refl _)), h.r.kept (R := (· = w4.heap.size)) ((Keep.refl _ _).setCell _ _ rfl) (fun hh => by have := h.grl; omega) (fun b hb hh => by have := h.gbl b hb; omega), h.x.set j v, h.grl, h.gbl⟩
theorem BSt.more {w' : World} (h : BSt w4 gr gb U w s cs) (hb : Below w.heap.size w w') : BSt w4 gr gb U w' s cs :=
 ⟨h.k.trans (Keep.of_below hb), h.r.below hb, h.x.to hb, h.grl, h.gbl⟩
theorem BSt.other {w' : World} {R : Nat → Prop} (h : BSt w4 gr gb U w s cs) (hk : Keep R w w') (hR : ∀ k, R k → w4.heap.size < k) : BSt w4 gr gb U w' s cs :=
 ⟨h.k.trans (hk.more fun j hj => .inr (Nat.le_of_lt (hR j hj))), h.r.kept hk (fun hh => by have := hR _ hh; have := h.grl; omega) (fun b hb hh => by have := hR _ hh; have := h.gbl b hb; omega), h.x.kept hk (fun hh => by have := hR _ hh; omega), h.grl, h.gbl⟩
theorem BSt.pst {s' : RS} (h : BSt w4 gr gb U w s cs) (h4 : PSt w0 T gr g gb w4 s' vw vp vc lw lp lc) : PSt w0 T gr g gb w s vw vp vc lw lp lc := h4.step h.k h.r
end
theorem bytesV_le (s : RS) : (bytesV s).length ≤ 65536 := by
 unfold bytesV
 by_cases h : 65536 < s.numb 4
 ·rw [if_pos h]; exact Nat.zero_le _
 ·rw [if_neg h]
  have := (s.next 4).got_len (n := s.numb 4)
  omega
def WinRel (w0 : World) (T gr g : Nat) (gb : Option Nat) (s1 : RS) (k : Nat) (wr : World) : Prop :=
 ∃ vw, PSt w0 T gr g gb wr (manyR winV winS k s1).2 vw (.slice none 0 0) (.slice none 0 0) (manyR winV winS k s1).1 [] []
def PtRel (w0 : World) (T gr g : Nat) (gb : Option Nat) (s2 : RS) (vw : Value) (lw : List Reg) (k : Nat) (wr : World) : Prop :=
 ∃ vp lp, PSt w0 T gr g gb wr (manyR ptV ptS k s2).2 vw vp (.slice none 0 0) lw lp [] ∧ lp.map QP.p = (manyR ptV ptS k s2).1
def ChRel (w0 : World) (T gr g : Nat) (gb : Option Nat) (s3 : RS) (vw vp : Value) (lw : List Reg) (lp : List QP) (k : Nat) (wr : World) : Prop :=
 ∃ vc, PSt w0 T gr g gb wr (manyR chV chS k s3).2 vw vp vc lw lp (manyR chV chS k s3).1
theorem rParseO (A : Option Addr) (n c : Nat) (bs : List UInt8) (w : World) (ha : Rd w w.heap.size A n bs) (hn : n ≤ 140737488355328) :
  Calls Tryz.prog 46 #[.slice A n c] w fun e w' => ∃ v : CV, e = .returned (.tuple #[v.val, .int .i64 (cfErr bs)]) ∧ OwCf w' w.heap.size v (cfOut bs) ∧ Below w.heap.size w w' := by
 have hb0 := (Below.refl w.heap.size w).alloc (Nat.le_refl _) (.cells #[.slice none 0 0, .slice none 0 0, .slice none 0 0] 28)
 have X0 := qH (Bx.new w 28 (fld3 (.slice none 0 0) (.slice none 0 0) (.slice none 0 0)))
 have B0 := qH hb0
 have RA := qH (ha.to hb0)
 have S0 : Hid ((w.alloc (.cells #[.slice none 0 0, .slice none 0 0, .slice none 0 0] 28)).heap.size = w.heap.size + 1) := by show _ = _; simp
 have HN := qH hn
 clear ha hb0 hn
 go_enter Tryz.func46, Tryz.ntmps46
 go_wp2_with fail
 simp only [fld3] at X0
 generalize w.alloc (.cells #[.slice none 0 0, .slice none 0 0, .slice none 0 0] 28) = wa at *
 refine (rdNew A n c bs wa RA.out HN.out).mono ?_
 rintro e w1 ⟨gr, gb, rfl, hr, hgr, hgb, hb⟩
 have H0 : Hid (PSt wa (w1.heap.size + 1) gr w1.heap.size gb (w1.alloc (.cells #[.slice none 0 0, .slice none 0 0, .slice none 0 0] 28)) (newRS bs) (.slice none 0 0) (.slice none 0 0) (.slice none 0 0) [] [] []) := by
  have hal := (Below.refl w1.heap.size w1).alloc (Nat.le_refl _) (.cells #[.slice none 0 0, .slice none 0 0, .slice none 0 0] 28)
  have hlt := hr.lt
  have hs := hb.size
  exact ⟨hr.below hal, Bx.new w1 28 (fld3 (.slice none 0 0) (.slice none 0 0) (.slice none 0 0)), World.ownsRow_nil _ _ _ _, OwnP.nil _ _, World.ownsRow_nil _ _ _ _, fun _ hq => absurd hq List.not_mem_nil,
   hb.trans (hal.mono hb.size), by simp, by omega, by omega, fun b hb => by have := hgb b hb; omega, by omega, hs, hgr⟩
 clear hr hgb hb hgr RA
 go_wp2_with fail
 generalize w1.alloc (.cells #[.slice none 0 0, .slice none 0 0, .slice none 0 0] 28) = w2 at *
 obtain ⟨g, hg⟩ : ∃ g, w1.heap.size = g := ⟨_, rfl⟩
 obtain ⟨T, hT⟩ : ∃ T, g + 1 = T := ⟨_, rfl⟩
 rw [hg] at H0 ⊢
 rw [hT] at H0
 clear hg hT
 refine (rdCount gr gb (newRS bs) 12 w2 H0.out.ref (by decide)).mono ?_
 rintro e w3 ⟨rfl, hr, hk⟩
 obtain ⟨N, hN, hN12⟩ := count_nat (newRS bs) 12
 have hN' : countV (newRS bs) 12 = (N : Int) := hN
 rw [hN']
 have HN12 := qH hN12
 have L1 : Hid (listR 12 winV winS (newRS bs) = manyR winV winS N (countS (newRS bs) 12)) := by
  (show _ = _)
  unfold listR
  rw [hN, Int.toNat_natCast]
  rfl
 obtain ⟨s1, hs1⟩ : ∃ s1, countS (newRS bs) 12 = s1 := ⟨_, rfl⟩
 rw [hs1] at hr L1
 have H1 : Hid (WinRel wa T gr g gb s1 0 w3) := ⟨_, H0.out.read hk hr⟩
 clear hr hk hN hN' hN12 hs1 H0
 go_wp2_with fail
 go_loopw [7, 8] (fun s7 s8 wr => ∃ k : Nat, k ≤ N ∧ s7 = .int .i64 (k : Int) ∧ WinRel wa T gr g gb s1 k wr) (fun s7 _ _ => N - (intOf s7).toNat)
 case atStart => exact ⟨0, Nat.zero_le _, rfl, H1.out⟩
 case round =>
  clear H1
  obtain ⟨k, hk, rfl, vw, hp⟩ := hrel
  have H := qH hp
  have HK := qH hk
  clear hp hk
  by_cases hlt : k < N
  ·have hltI : (k : Int) < (N : Int) := by omega
   have hwk : IntKind.i64.wrap ((k : Int) + 1) = (k : Int) + 1 := by have := HN12.out; rw [IntKind.wrap_i64]; omega
   have HLT : Hid (k < N) := hlt
   generalize hM : manyR winV winS k s1 = M at *
   go_wp2_with fail
   refine (rdInt gr gb M.2 wr H.out.ref).mono ?_
   rintro e w4 ⟨rfl, hr4, hk4⟩
   have H4 := qH (H.out.read hk4 hr4)
   clear hr4 hk4
   go_wp2_with fail
   obtain ⟨x, hx⟩ : ∃ x, intV M.2 = x := ⟨_, rfl⟩
   rw [hx]
   have Y0 := qH (BSt.new H4.out 82 [.int .i64 x, .int .i64 0])
   refine (rdInt gr gb (M.2.next 8) _ Y0.out.r).mono ?_
   rintro e w6 ⟨rfl, hr6, hk6⟩
   have Y1 := qH (Y0.out.read hk6 hr6)
   obtain ⟨y, hy⟩ : ∃ y, intV (M.2.next 8) = y := ⟨_, rfl⟩
   rw [hy]
   have z1 := Y1.out.x.at (j := 1) rfl
   have f1 := Y1.out.x.fz 1
   have HXY : Hid (winV M.2 = (x, y)) := by (show _ = _); rw [← hx, ← hy]; rfl
   clear hr6 hk6 hx hy
   go_upto_region 9 with (fail)
   have Y2 := qH (Y1.out.put 1 (.int .i64 y))
   generalize w6.setCell ⟨w4.heap.size, 1, none⟩ (.int .i64 y) = w7 at *
   have q0 := Y2.out.x.at (j := 0) rfl
   have q1 := Y2.out.x.at (j := 1) rfl
   have H7 := qH (Y2.out.pst H4.out)
   have b0 := H7.out.box.at (j := 0) rfl
   have hal := (Below.refl w7.heap.size w7).alloc (Nat.le_refl _) (.cells #[.int .i64 x, .int .i64 y] 82)
   have H8 := qH (H7.out.step (Keep.of_below hal) (H7.out.ref.below hal))
   have HNW := qH (cells_newV w7 82 (regL (x, y)))
   have HML : Hid (M.1.length ≤ 12) := by (show _ ≤ _); rw [← hM, manyR_len]; have := HLT.out; have := HN12.out; omega
   replace hM := qH hM
   clear z1 f1 hal Y0 Y1
   go_wp2_with (at_builtin; refine wpList_pushV vtW rfl _ _ rfl rfl rfl H8.out.ow (m := 1) (news := regL (x, y)) rfl (fun _ => ⟨_, rfl, HNW.out⟩) (winsV_one [(x, y)]) H8.out.tw (by have := HML.out; omega) ?_; intro v9 w9 hown9 hk9 hv9; obtain ⟨A9, c9, rfl⟩ := own_slV hown9; have xb9 := H8.out.box.kept hk9 (fun hh => by have := (H8.out.ow.lt _ hh).1; have := H8.out.gt; omega); have z9 := xb9.at (j := 0) rfl; have f9 := xb9.fz 0)
   have H9 := qH (H8.out.putW hown9 hk9)
   go_roundw
   case rel => exact ⟨k + 1, HLT.out, by go_num, _, by rw [manyR, hM.out, HXY.out]; exact H9.out⟩
   case measure => simp [intOf]; omega
  ·obtain rfl : k = N := by have := HK.out; omega
   clear hlt
   rw [← L1.out] at H
   clear L1 HK
   go_wp2_with fail
   refine (rdCount gr gb _ 6 wr H.out.ref (by decide)).mono ?_
   rintro e w3' ⟨rfl, hr, hk⟩
   have HP0 := qH (H.out.read hk hr)
   clear H hr hk HN12
   generalize hL1 : listR 12 winV winS (newRS bs) = L1 at *
   replace hL1 := qH hL1
   obtain ⟨N, hN, hN6⟩ := count_nat L1.2 6
   have hN' : countV L1.2 6 = (N : Int) := hN
   rw [hN']
   have HN6 := qH hN6
   have L2 : Hid (listR 6 ptV ptS L1.2 = manyR ptV ptS N (countS L1.2 6)) := by
    (show _ = _)
    unfold listR
    rw [hN, Int.toNat_natCast]
    rfl
   obtain ⟨s2, hs2⟩ : ∃ s2, countS L1.2 6 = s2 := ⟨_, rfl⟩
   rw [hs2] at HP0 L2
   have H1 : Hid (PtRel wa T gr g gb s2 vw L1.1 0 w3') := ⟨_, [], HP0.out, rfl⟩
   clear hN hN' hN6 hs2 HP0
   go_wp2_with fail
   go_loopw [9, 10] (fun s9 s10 wr => ∃ k : Nat, k ≤ N ∧ s9 = .int .i64 (k : Int) ∧ PtRel wa T gr g gb s2 vw L1.1 k wr) (fun s9 _ _ => N - (intOf s9).toNat)
   case atStart => exact ⟨0, Nat.zero_le _, rfl, H1.out⟩
   case round =>
    clear H1
    obtain ⟨k, hk, rfl, vp, lp, hp, hlp⟩ := hrel
    have H := qH hp
    have HLP := qH hlp
    have HK := qH hk
    clear hp hk hlp
    by_cases hlt : k < N
    ·have hltI : (k : Int) < (N : Int) := by omega
     have hwk : IntKind.i64.wrap ((k : Int) + 1) = (k : Int) + 1 := by have := HN6.out; rw [IntKind.wrap_i64]; omega
     have HLT : Hid (k < N) := hlt
     have HML : Hid (lp.length ≤ 6) := by (show _ ≤ _); have e := congrArg List.length HLP.out; rw [List.length_map, manyR_len] at e; have := HLT.out; have := HN6.out; omega
     generalize hM : manyR ptV ptS k s2 = M at *
     replace hM := qH hM
     go_wp2_with fail
     refine (rdInt gr gb M.2 wr H.out.ref).mono ?_
     rintro e w4 ⟨rfl, hr4, hk4⟩
     have H4 := qH (H.out.read hk4 hr4)
     clear hr4 hk4 H
     go_wp2_with fail
     obtain ⟨p0, hp0⟩ : ∃ x, intV M.2 = x := ⟨_, rfl⟩
     rw [hp0]
     have Y0 := qH (BSt.new H4.out 58 [.int .i64 p0, .int .i64 0, .int .i64 0, .bool false, .slice none 0 0])
     refine (rdInt gr gb _ _ Y0.out.r).mono ?_
     rintro e w5 ⟨rfl, hr5, hk5⟩
     have Y1 := qH (Y0.out.read hk5 hr5)
     obtain ⟨p1, hp1⟩ : ∃ x, intV (M.2.next 8) = x := ⟨_, rfl⟩
     rw [hp1]
     have z1 := Y1.out.x.at (j := 1) rfl
     have f1 := Y1.out.x.fz 1
     clear hr5 hk5 Y0
     go_wp2_with fail
     have Y2 := qH (Y1.out.put 1 (.int .i64 p1))
     clear Y1 z1 f1
     refine (rdInt gr gb _ _ Y2.out.r).mono ?_
     rintro e w6 ⟨rfl, hr6, hk6⟩
     have Y3 := qH (Y2.out.read hk6 hr6)
     obtain ⟨p2, hp2⟩ : ∃ x, intV ((M.2.next 8).next 8) = x := ⟨_, rfl⟩
     rw [hp2]
     have z1 := Y3.out.x.at (j := 2) rfl
     have f1 := Y3.out.x.fz 2
     clear hr6 hk6 Y2
     go_wp2_with fail
     have Y4 := qH (Y3.out.put 2 (.int .i64 p2))
     clear Y3 z1 f1
     refine (rdFlag gr gb _ _ Y4.out.r).mono ?_
     rintro e w7 ⟨rfl, hr7, hk7⟩
     have Y5 := qH (Y4.out.read hk7 hr7)
     obtain ⟨p3, hp3⟩ : ∃ x, decide ((((M.2.next 8).next 8).next 8).numb 1 = 1) = x := ⟨_, rfl⟩
     rw [hp3]
     have z1 := Y5.out.x.at (j := 3) rfl
     have f1 := Y5.out.x.fz 3
     clear hr7 hk7 Y4
     go_wp2_with fail
     have Y6 := qH (Y5.out.put 3 (.bool p3))
     clear Y5 z1 f1
     have hbx := Bx.new (w7.setCell ⟨w4.heap.size, 3, none⟩ (.bool p3)) 5 []
     rw [World.size_setCell] at hbx
     have O0 := qH (own_nilV (B := w4.heap.size + 1) (z := 1) hbx (by have := Y6.out.x.lt; rw [World.size_setCell] at this; omega))
     clear hbx
     have Y7 := qH (Y6.out.more ((Below.refl _ _).alloc (Nat.le_refl _) (.cells #[] 5)))
     clear Y6
     generalize w7.setCell ⟨w4.heap.size, 3, none⟩ (.bool p3) = w8 at *
     refine (rdBytes gr gb _ _ Y7.out.r).mono ?_
     rintro e w9 ⟨A8, m, c8, rfl, hO, hr9, hk9⟩
     have Y8 := qH (Y7.out.read hk9 hr9)
     have O1 := qH (own_tv O0.out hk9 (fun k hk => .inl (by have := Y7.out.grl; omega)))
     have hm : m ≤ 65536 := by rw [← hO.1.1]; exact bytesV_le _
     have HM5 := qH hm
     have HNW := qH hO.1.news
     have z1 := Y8.out.x.at (j := 4) rfl
     clear hO hr9 hk9 Y7 O0 hm
     go_upto_region 19 with (at_builtin; refine wpList_pushV vtB rfl _ _ rfl rfl rfl O1.out HNW.out.1 HNW.out.2 (bytes_one _) (by have := Y8.out.x.lt; omega) (by have := HM5.out; omega) ?_; intro v10 w10 hown10 hk10 hv10; rw [Nat.zero_add, List.nil_append] at hown10; obtain ⟨A10, c10, rfl⟩ := own_slV hown10; have xb10 := Y8.out.x.kept hk10 (fun hh => by have := (O1.out.lt _ hh).1; omega); have z10 := xb10.at (j := 4) rfl; have f10 := xb10.fz 4)
     have Y9 := qH ((Y8.out.other hk10 (fun k hk => by have := (O1.out.lt _ hk).1; omega)).put 4 (.slice A10 m c10))
     have O2 := qH (own_tv hown10 ((Keep.refl (· = w4.heap.size) _).setCell ⟨w4.heap.size, 4, none⟩ (.slice A10 m c10) rfl) (fun k hk => .inl (by omega)))
     clear hown10 hk10 hv10 xb10 z10 f10 z1 Y8 O1
     generalize w10.setCell ⟨w4.heap.size, 4, none⟩ (.slice A10 m c10) = w11 at *
     have HI : Hid (Img w11 T ⟨⟨p0, p1, p2, p3, bytesV (flagS (((M.2.next 8).next 8).next 8))⟩, A10, m, c10⟩) := by
      have hc := own_capV O2.out
      exact ⟨(OwR.of_own O2.out).mono (by have := H4.out.tw; omega), hc.2.1, hc.2.2, Nat.le_trans HM5.out (by decide)⟩
     have HIO : Hid (∀ b, vp.ownBlock = some b → Off A10 m (· = b)) := fun b hb => (OwR.of_own O2.out).off (fun k hk => by have := (H4.out.op.row.lt b hb).2; omega)
     have HPT : Hid (ptV M.2 = ⟨p0, p1, p2, p3, bytesV (flagS (((M.2.next 8).next 8).next 8))⟩) := by (show _ = _); rw [← hp0, ← hp1, ← hp2, ← hp3]; rfl
     generalize bytesV (flagS (((M.2.next 8).next 8).next 8)) = img at *
     replace hp0 := qH hp0
     replace hp1 := qH hp1
     replace hp2 := qH hp2
     replace hp3 := qH hp3
     have q0 := Y9.out.x.at (j := 0) rfl
     have q1 := Y9.out.x.at (j := 1) rfl
     have q2 := Y9.out.x.at (j := 2) rfl
     have q3 := Y9.out.x.at (j := 3) rfl
     have q4 := Y9.out.x.at (j := 4) rfl
     have H10 := qH (Y9.out.pst H4.out)
     have b1 := H10.out.box.at (j := 1) rfl
     have hal := (Below.refl w11.heap.size w11).alloc (Nat.le_refl _) (.cells #[.int .i64 p0, .int .i64 p1, .int .i64 p2, .bool p3, .slice A10 m c10] 58)
     have H11 := qH (H10.out.step (Keep.of_below hal) (H10.out.ref.below hal))
     have HI2 := qH (HI.out.kept (R := fun _ => False) (Keep.of_below hal) (fun _ _ _ _ h => h))
     have HNW2 := qH (cells_newV w11 58 (QP.cells ⟨⟨p0, p1, p2, p3, img⟩, A10, m, c10⟩))
     clear HM5 HNW hal Y9 O2 HI H10
     go_wp2_with (at_builtin; refine wpList_pushV vtP rfl _ _ rfl rfl rfl H11.out.op.row (m := 1) (news := QP.cells ⟨⟨p0, p1, p2, p3, img⟩, A10, m, c10⟩) rfl (fun _ => ⟨_, rfl, HNW2.out⟩) (by have := partsV_one [⟨⟨p0, p1, p2, p3, img⟩, A10, m, c10⟩]; simpa [partsV] using this) H11.out.tw (by have := HML.out; omega) ?_; intro v12 w12 hown12 hk12 hv12; obtain ⟨A12, c12, rfl⟩ := own_slV hown12; have xb12 := H11.out.box.kept hk12 (fun hh => by have := (H11.out.op.row.lt _ hh).1; have := H11.out.gt; omega); have z12 := xb12.at (j := 1) rfl; have f12 := xb12.fz 1)
     have H12 := qH (H11.out.putP HI2.out HIO.out hown12 hk12 hv12)
     go_roundw
     case rel => exact ⟨k + 1, HLT.out, by go_num, _, _, by rw [manyR, hM.out]; exact H12.out, by rw [manyR, hM.out, HPT.out, List.map_append, HLP.out]; rfl⟩
     case measure => simp [intOf]; omega
    ·obtain rfl : k = N := by have := HK.out; omega
     clear hlt
     rw [← L2.out] at H HLP
     clear L2 HK
     go_wp2_with fail
     refine (rdCount gr gb _ 8 wr H.out.ref (by decide)).mono ?_
     rintro e w3'' ⟨rfl, hr, hk⟩
     have HP0 := qH (H.out.read hk hr)
     clear H hr hk HN6
     generalize hL2 : listR 6 ptV ptS L1.2 = L2 at *
     replace hL2 := qH hL2
     obtain ⟨N, hN, hN8⟩ := count_nat L2.2 8
     have hN' : countV L2.2 8 = (N : Int) := hN
     rw [hN']
     have HN8 := qH hN8
     have L3 : Hid (listR 8 chV chS L2.2 = manyR chV chS N (countS L2.2 8)) := by
      (show _ = _)
      unfold listR
      rw [hN, Int.toNat_natCast]
      rfl
     obtain ⟨s3, hs3⟩ : ∃ s3, countS L2.2 8 = s3 := ⟨_, rfl⟩
     rw [hs3] at HP0 L3
     have H1 : Hid (ChRel wa T gr g gb s3 vw vp L1.1 lp 0 w3'') := ⟨_, HP0.out⟩
     clear hN hN' hN8 hs3 HP0
     go_wp2_with fail
     go_loopw [11, 12] (fun s11 s12 wr => ∃ k : Nat, k ≤ N ∧ s11 = .int .i64 (k : Int) ∧ ChRel wa T gr g gb s3 vw vp L1.1 lp k wr) (fun s11 _ _ => N - (intOf s11).toNat)
     case atStart => exact ⟨0, Nat.zero_le _, rfl, H1.out⟩
     case round =>
      clear H1
      obtain ⟨k, hk, rfl, vc, hp⟩ := hrel
      have H := qH hp
      have HK := qH hk
      clear hp hk
      by_cases hlt : k < N
      ·have hltI : (k : Int) < (N : Int) := by omega
       have hwk : IntKind.i64.wrap ((k : Int) + 1) = (k : Int) + 1 := by have := HN8.out; rw [IntKind.wrap_i64]; omega
       have HLT : Hid (k < N) := hlt
       have HML : Hid ((manyR chV chS k s3).1.length ≤ 8) := by (show _ ≤ _); rw [manyR_len]; have := HLT.out; have := HN8.out; omega
       generalize hM : manyR chV chS k s3 = M at *
       replace hM := qH hM
       go_wp2_with fail
       refine (rdInt gr gb M.2 wr H.out.ref).mono ?_
       rintro e w4 ⟨rfl, hr4, hk4⟩
       have H4 := qH (H.out.read hk4 hr4)
       clear hr4 hk4 H
       go_wp2_with fail
       obtain ⟨p0, hp0⟩ : ∃ x, intV M.2 = x := ⟨_, rfl⟩
       rw [hp0]
       have Y0 := qH (BSt.new H4.out 130 [.int .i64 p0, .int .i64 0, .int .i64 0, .int .i64 0, .int .i64 0])
       refine (rdInt gr gb _ _ Y0.out.r).mono ?_
       rintro e w5 ⟨rfl, hr5, hk5⟩
       have Y1 := qH (Y0.out.read hk5 hr5)
       obtain ⟨p1, hp1⟩ : ∃ x, intV (M.2.next 8) = x := ⟨_, rfl⟩
       rw [hp1]
       have z1 := Y1.out.x.at (j := 1) rfl
       have f1 := Y1.out.x.fz 1
       clear hr5 hk5 Y0
       go_wp2_with fail
       have Y2 := qH (Y1.out.put 1 (.int .i64 p1))
       clear Y1 z1 f1
       refine (rdInt gr gb _ _ Y2.out.r).mono ?_
       rintro e w6 ⟨rfl, hr6, hk6⟩
       have Y3 := qH (Y2.out.read hk6 hr6)
       obtain ⟨p2, hp2⟩ : ∃ x, intV ((M.2.next 8).next 8) = x := ⟨_, rfl⟩
       rw [hp2]
       have z1 := Y3.out.x.at (j := 2) rfl
       have f1 := Y3.out.x.fz 2
       clear hr6 hk6 Y2
       go_wp2_with fail
       have Y4 := qH (Y3.out.put 2 (.int .i64 p2))
       clear Y3 z1 f1
       refine (rdInt gr gb _ _ Y4.out.r).mono ?_
       rintro e w7 ⟨rfl, hr7, hk7⟩
       have Y5 := qH (Y4.out.read hk7 hr7)
       obtain ⟨p3, hp3⟩ : ∃ x, intV (((M.2.next 8).next 8).next 8) = x := ⟨_, rfl⟩
       rw [hp3]
       have z1 := Y5.out.x.at (j := 3) rfl
       have f1 := Y5.out.x.fz 3
       clear hr7 hk7 Y4
       go_wp2_with fail
       have Y6 := qH (Y5.out.put 3 (.int .i64 p3))
       clear Y5 z1 f1
       refine (rdInt gr gb _ _ Y6.out.r).mono ?_
       rintro e w8 ⟨rfl, hr8, hk8⟩
       have Y7 := qH (Y6.out.read hk8 hr8)
       obtain ⟨p4, hp4⟩ : ∃ x, intV ((((M.2.next 8).next 8).next 8).next 8) = x := ⟨_, rfl⟩
       rw [hp4]
       have z1 := Y7.out.x.at (j := 4) rfl
       have f1 := Y7.out.x.fz 4
       clear hr8 hk8 Y6
       have HCV : Hid (chV M.2 = ⟨p0, p1, p2, p3, p4⟩) := by (show _ = _); rw [← hp0, ← hp1, ← hp2, ← hp3, ← hp4]; rfl
       replace hp0 := qH hp0
       replace hp1 := qH hp1
       replace hp2 := qH hp2
       replace hp3 := qH hp3
       replace hp4 := qH hp4
       go_upto_region 29 with (fail)
       have Y8 := qH (Y7.out.put 4 (.int .i64 p4))
       clear Y7 z1 f1
       generalize w8.setCell ⟨w4.heap.size, 4, none⟩ (.int .i64 p4) = w11 at *
       have q0 := Y8.out.x.at (j := 0) rfl
       have q1 := Y8.out.x.at (j := 1) rfl
       have q2 := Y8.out.x.at (j := 2) rfl
       have q3 := Y8.out.x.at (j := 3) rfl
       have q4 := Y8.out.x.at (j := 4) rfl
       have H10 := qH (Y8.out.pst H4.out)
       have b2 := H10.out.box.at (j := 2) rfl
       have hal := (Below.refl w11.heap.size w11).alloc (Nat.le_refl _) (.cells #[.int .i64 p0, .int .i64 p1, .int .i64 p2, .int .i64 p3, .int .i64 p4] 130)
       have H11 := qH (H10.out.step (Keep.of_below hal) (H10.out.ref.below hal))
       have HNW2 := qH (cells_newV w11 130 (chL ⟨p0, p1, p2, p3, p4⟩))
       clear hal Y8 H10
       go_wp2_with (at_builtin; refine wpList_pushV vtC rfl _ _ rfl rfl rfl H11.out.oc (m := 1) (news := chL ⟨p0, p1, p2, p3, p4⟩) rfl (fun _ => ⟨_, rfl, HNW2.out⟩) (by have := chsV_one [⟨p0, p1, p2, p3, p4⟩]; simpa [chsV] using this) H11.out.tw (by have := HML.out; omega) ?_; intro v12 w12 hown12 hk12 hv12; obtain ⟨A12, c12, rfl⟩ := own_slV hown12; have xb12 := H11.out.box.kept hk12 (fun hh => by have := (H11.out.oc.lt _ hh).1; have := H11.out.gt; omega); have z12 := xb12.at (j := 2) rfl; have f12 := xb12.fz 2)
       have H12 := qH (H11.out.putC hown12 hk12 hv12)
       go_roundw
       case rel => exact ⟨k + 1, HLT.out, by go_num, _, by rw [manyR, hM.out, HCV.out]; exact H12.out⟩
       case measure => simp [intOf]; omega
      ·obtain rfl : k = N := by have := HK.out; omega
       clear hlt
       rw [← L3.out] at H
       clear L3 HK
       generalize hL3 : listR 8 chV chS L2.2 = L3 at *
       have HG : Hid (cfR (newRS bs) = (⟨L1.1, L2.1, L3.1⟩, L3.2)) := by
        (show _ = _)
        unfold cfR
        rw [hL1.out, hL2.out, hL3]
       replace hL3 := qH hL3
       obtain ⟨v, rfl, rfl, rfl, hnw, hnp, hnc, _⟩ := H.out.rd
       have HNP : Hid (v.np ≤ 1000) := by
        (show _ ≤ _)
        have e := congrArg List.length HLP.out
        have e6 : L2.1.length ≤ 6 := by
         rw [← hL2.out]
         unfold listR
         rw [manyR_len]
         have := count_range L1.2 6
         have h6 : ((6 : Nat) : Int) = 6 := rfl
         omega
        rw [List.length_map] at e
        omega
       have X1 := qH (X0.out.below (by have := S0.out; omega) H.out.bel)
       clear hnw hnp hnc
       go_wp2_with fail
       refine (rdEnd gr gb L3.2 wr H.out.ref).mono ?_
       rintro e w4 ⟨rfl, q, rfl⟩
       have HQ := qH (H.out.step ((Keep.refl _ _).drewN q) (H.out.ref.drewN q))
       have X2 : Hid (Bx (wr.drewN q) w.heap.size 28 [.slice none 0 0, .slice none 0 0, .slice none 0 0]) := X1.out
       generalize wr.drewN q = wq at *
       clear H X1 X0
       have b0 := HQ.out.box.at (j := 0) rfl
       have b1 := HQ.out.box.at (j := 1) rfl
       have b2 := HQ.out.box.at (j := 2) rfl
       have z0 := X2.out.at (j := 0) rfl
       have z1 := X2.out.at (j := 1) rfl
       have z2 := X2.out.at (j := 2) rfl
       have f0 := X2.out.fz 0
       have f1 := X2.out.fz 1
       have f2 := X2.out.fz 2
       have HWT : Hid (w.heap.size < T) := by (show _ < _); have := HQ.out.g0; have := HQ.out.gt; have := S0.out; omega
       have BW : Hid (Below w.heap.size w wq) := B0.out.trans (HQ.out.bel.mono B0.out.size)
       clear B0 S0
       by_cases hE : endV L3.2 = 0
       ·have HE := qH hE
        rw [hE]
        clear hE
        have hne : (((0 : Nat) : Int) != 0) = false := rfl
        go_wp2_with fail
        have HRD := qH (HQ.out.out (R := fun _ => False) (Keep.refl _ wq) (fun _ h => h.elim)).rd
        rw [HLP.out] at HRD
        refine (rCan v _ wq HRD.out HNP.out).mono ?_
        rintro e wc ⟨rfl, hbc⟩
        have HC := qH (HQ.out.step (Keep.of_below hbc) (HQ.out.ref.below hbc))
        replace X2 := qH (X2.out.to hbc)
        replace BW := qH (BW.out.trans (hbc.mono BW.out.size))
        clear b0 b1 b2 z0 z1 z2 f0 f1 f2 hbc HRD HQ
        have b0 := HC.out.box.at (j := 0) rfl
        have b1 := HC.out.box.at (j := 1) rfl
        have b2 := HC.out.box.at (j := 2) rfl
        have z0 := X2.out.at (j := 0) rfl
        have z1 := X2.out.at (j := 1) rfl
        have z2 := X2.out.at (j := 2) rfl
        have f0 := X2.out.fz 0
        have f1 := X2.out.fz 1
        have f2 := X2.out.fz 2
        cases hcan : canC ⟨L1.1, L2.1, L3.1⟩
        ·have HE : Hid (okC bs = false) := by
          (show _ = _)
          unfold okC gotC
          rw [HG.out, hcan, Bool.and_false]
         replace hcan := qH hcan
         go_wp2_with fail
         change bodyPost _ _ _ _ _ (setsC wc w.heap.size 0 [.slice none 0 0, .slice none 0 0, .slice none 0 0])
         have P9 := X2.out.sets [.slice none 0 0, .slice none 0 0, .slice none 0 0] rfl
         have B9 := below_sets (Nat.le_refl w.heap.size) [.slice none 0 0, .slice none 0 0, .slice none 0 0] 0 BW.out
         generalize setsC wc w.heap.size 0 [.slice none 0 0, .slice none 0 0, .slice none 0 0] = w9 at *
         refine bodyPost_ret (res_cf rfl _ _ w.heap.size (.slice none 0 0) (.slice none 0 0) (.slice none 0 0) (.int .i64 110) rfl rfl P9) rfl ⟨⟨none, 0, 0, none, 0, 0, none, 0, 0⟩, ?_, ?_, B9⟩
         ·rw [(cfOut_no HE.out).2]; rfl
         ·rw [(cfOut_no HE.out).1]; exact ⟨rdCf_nil _ _, sp_nil _ _⟩
        ·have HO : Hid (okC bs = true) := by
          (show _ = _)
          unfold okC gotC
          rw [HG.out, hcan, HE.out]; rfl
         replace hcan := qH hcan
         go_wp2_with fail
         change bodyPost _ _ _ _ _ (setsC wc w.heap.size 0 [.slice v.aw v.nw v.kw, .slice v.ap v.np v.kp, .slice v.ac v.nc v.kc])
         have P9 := X2.out.sets [.slice v.aw v.nw v.kw, .slice v.ap v.np v.kp, .slice v.ac v.nc v.kc] rfl
         have B9 := below_sets (Nat.le_refl w.heap.size) [.slice v.aw v.nw v.kw, .slice v.ap v.np v.kp, .slice v.ac v.nc v.kc] 0 BW.out
         have HR := (HC.out.out (Keep.sets (R := (· = w.heap.size)) rfl [.slice v.aw v.nw v.kw, .slice v.ap v.np v.kp, .slice v.ac v.nc v.kc] 0 (Keep.refl _ wc)) (fun k hk => .inl (by have := HWT.out; omega)))
         rw [HLP.out] at HR
         generalize setsC wc w.heap.size 0 [.slice v.aw v.nw v.kw, .slice v.ap v.np v.kp, .slice v.ac v.nc v.kc] = w9 at *
         refine bodyPost_ret (res_cf rfl _ _ w.heap.size _ _ _ (.int .i64 0) rfl rfl P9) rfl ⟨v, ?_, ?_, B9⟩
         ·rw [(cfOut_yes HO.out).2]; rfl
         ·rw [(cfOut_yes HO.out).1]
          unfold gotC
          rw [HG.out]
          exact ⟨HR.rd, HR.sp.mono (by have := HWT.out; omega)⟩
       ·have HE : Hid (okC bs = false) := by
         (show _ = _)
         unfold okC
         rw [HG.out, decide_eq_false hE]
         rfl
        have hne : ((endV L3.2 : Int) != 0) = true := bne_iff_ne.2 (by omega)
        clear hE
        go_wp2_with fail
        change bodyPost _ _ _ _ _ (setsC wq w.heap.size 0 [.slice none 0 0, .slice none 0 0, .slice none 0 0])
        have P9 := X2.out.sets [.slice none 0 0, .slice none 0 0, .slice none 0 0] rfl
        have B9 := below_sets (Nat.le_refl w.heap.size) [.slice none 0 0, .slice none 0 0, .slice none 0 0] 0 BW.out
        generalize setsC wq w.heap.size 0 [.slice none 0 0, .slice none 0 0, .slice none 0 0] = w9 at *
        refine bodyPost_ret (res_cf rfl _ _ w.heap.size (.slice none 0 0) (.slice none 0 0) (.slice none 0 0) (.int .i64 110) rfl rfl P9) rfl ⟨⟨none, 0, 0, none, 0, 0, none, 0, 0⟩, ?_, ?_, B9⟩
        ·rw [(cfOut_no HE.out).2]; rfl
        ·rw [(cfOut_no HE.out).1]; exact ⟨rdCf_nil _ _, sp_nil _ _⟩
end
end Go.Proofs.YtlmdidblgeeplaaGreatDoor