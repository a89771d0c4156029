/- For any number of sectors, any acts the law CommitPlays of citadellaw16 returns true: whatever is done to a disk of the program, and of the document's, both answer the same, have the same last record, the same one ahead, and the same sectors. Conditions: none beyond those that the statement itself prints. -/
import Derived.Test.YtffdjnhhmfpkgaaGreatTz
import Derived.Test.YtffdjnhhmfpkgaaGreatRows
import Derived.Test.YtffdjnhhmfpkgaaGreatCmK
import Derived.Test.YtffdjnhhmfpkgaaGreatR8
import Derived.SizedLaws
import Derived.WalkKit
import Derived.ProofKit
import Derived.OpenShut
import Derived.ShutString
import Derived.ChangeOld
import Derived.Below
namespace Go.Proofs.YtffdjnhhmfpkgaaGreat.commitPlays
set_option maxRecDepth 1000000
set_option maxHeartbeats 8000000
open Go.ChangeShapes Go.WideShapes Go.ChangeAt Go.RowKit
open Go.ChangeMaps (open_string shut_string)
set_option linter.unusedVariables false
set_option linter.unusedSimpArgs false
theorem own : ownKnob Tryz.prog.godebug = none := by kernel_rfl
theorem laidOut : laidOutB Tryz.prog = true := by kernel_rfl
def CPlayRel (w : World) (d r n k0 : Nat) (i : Value) (wr : World) : Prop :=
 ∃ (k : Nat) (F G : Nat → Prop) (s : DS), k ≤ n ∧ i = .int .i64 (k : Int) ∧ Pair wr d F r G s ∧ s.L.length = k0 ∧ (∀ j, F j ∨ G j → w.heap.size ≤ j) ∧ Below w.heap.size w wr
theorem cact_at {w : World} {A : Option Addr} {n : Nat} {l : List CAct} (h : RdCA w w.heap.size A n l) {k : Nat} (hk : k < n) :
  ∃ b o A' m c, A = some ⟨b, o, none⟩ ∧ Rd w w.heap.size A' m (l.getD k CAct.zero).b ∧ (l.getD k CAct.zero).r.In ∧
   ∀ wr, Below w.heap.size w wr → wr.rangeAt b (o + k * 39) (cactL (l.getD k CAct.zero) A' m c) ∧ wr.rangeAt b (o + k * 39 + 2) (rcL (l.getD k CAct.zero).r) ∧ CActOk wr wr.heap.size (l.getD k CAct.zero) A' m c := by
 obtain ⟨b, o, e, hb, hc⟩ := h.2 (by omega)
 obtain ⟨A', m, c, h1, h2⟩ := hc k hk
 refine ⟨b, o, A', m, c, e, h2.rd, h2.rin, fun wr hw => ⟨fun i v hv => (hw.cell (by exact hb)).trans (h1 i v hv), fun i v hv => ?_, (h2.below hw).more hw.size⟩⟩
 have := h1 (2 + i) v (cactL_rec A' m c hv)
 rw [← Nat.add_assoc] at this
 exact (hw.cell (by exact hb)).trans this
theorem rd_leC {w : World} {B n m : Nat} {A : Option Addr} {bs : List UInt8} (h : Rd w B A n bs) (hb : bs.length ≤ m) : n ≤ m := by rw [← h.1]; exact hb
theorem up_down (b : Bool) : (b == !b) = false := by cases b <;> rfl
theorem walk (a0 : Int) (a1 : Option Addr) (len1 cap1 : Nat) (l1 : List CAct) (w : World) (w0 : (Lit.int .i64 a0).wf = true) (w1 : RdCA w w.heap.size a1 len1 l1 ∧ len1 ≤ cap1 ∧ cap1 * 104 ≤ 140737488351232) :
  Calls Tryz.prog 3 #[.int .i64 a0, .slice a1 len1 cap1] w fun e w' => e = .returned (.bool true) ∧ Below w.heap.size w w' := by
 obtain ⟨r1, hcap1, hcap1'⟩ := w1
 have R := qH r1
 have HL1 := qH r1.1
 have HLEN1 : Hid (len1 ≤ 140737488351232) := by show _ ≤ _; omega
 clear w0 r1 hcap1 hcap1'
 have hz := rc_zero
 go_enter Tryz.func3, Tryz.ntmps3
 by_cases h1 : a0 < 1
 ·go_wp2_with fail
  go_ret
  exact ⟨rfl, Below.refl _ _⟩
 by_cases h2 : a0 > 4
 ·go_wp2_with fail
  go_ret
  exact ⟨rfl, Below.refl _ _⟩
 go_wp2_with fail
 refine (lGreat16 a1 len1 cap1 l1 w R.out HLEN1.out).mono ?_
 rintro e w1 ⟨g, rfl, rfl, hfew⟩
 cases g with
 | true =>
  go_wp2_with fail
  go_ret
  exact ⟨rfl, Below.refl _ _⟩
 | false =>
  have FEW := qH (hfew rfl)
  clear hfew
  obtain ⟨k0, rfl⟩ : ∃ k : Nat, a0 = (k : Int) := ⟨a0.toNat, by omega⟩
  have HK1 : Hid (1 ≤ k0) := by show _ ≤ _; omega
  have HK12 : Hid (k0 ≤ 4) := by show _ ≤ _; omega
  go_wp2_with fail
  refine (dNew k0 w HK1.out (by have := HK12.out; omega)).mono ?_
  rintro e w1 ⟨d, rfl, F, hd, hf, hb⟩
  have DK := qH hd
  have HF := qH hf
  have B1 := qH hb
  clear hd hf hb
  go_wp2_with fail
  refine (qNew k0 w1 HK1.out (by have := HK12.out; omega)).mono ?_
  rintro e w2 ⟨r, rfl, G, hd, hg, hb⟩
  have P : Hid (Pair w2 d F r G (DS.new k0)) := ⟨DK.out.to hb, hd, fun k hf hg' => by have := DK.out.lt k hf; have := hg k hg'; omega⟩
  have HN : Hid (∀ j, F j ∨ G j → w.heap.size ≤ j) := fun j hj => hj.elim (HF.out j) (fun h => Nat.le_trans B1.out.size (hg j h))
  have B2 := qH (B1.out.trans (hb.mono B1.out.size))
  clear hd hg hb DK HF B1 h1 h2
  go_wp2_with fail
  go_loopw [8] (fun i wr => CPlayRel w d r len1 k0 i wr) (fun i _ => len1 - (intOf i).toNat)
  case atStart => exact ⟨0, F, G, _, Nat.zero_le _, rfl, P.out, by simp [DS.new], HN.out, B2.out⟩
  case round =>
   clear P HN B2
   obtain ⟨k, F1, G1, s, hk, rfl, hp, hsl, hn, hb⟩ := hrel
   have P := qH hp
   have HSL : Hid (s.L.length = k0) := hsl
   have HN := qH hn
   have BR := qH hb
   have HK : Hid (k ≤ len1) := hk
   clear hp hn hb hk hsl
   by_cases hlt : k < len1
   ·have HLT : Hid (k < len1) := hlt
    obtain ⟨b, o, A', m', c', rfl, hrd, hri, hact⟩ := cact_at R.out hlt
    have ARG : Hid (Off A' m' (fun k => F1 k ∨ G1 k)) := hrd.off HN.out
    have HRI := qH hri
    have HM6 : Hid (m' ≤ 6000) := by show _ ≤ _; rw [← hrd.1]; have := FEW.out.2 k (by rw [HL1.out]; exact hlt); omega
    have HA1 := qH (fun wr hw => (hact wr hw).1)
    have HA2 := qH (fun wr hw => (hact wr hw).2.1)
    have HA3 := qH (fun wr hw => (hact wr hw).2.2)
    clear hrd hri hact
    have hkI : (k : Int) < (len1 : Int) := by omega
    have hk301 : (k : Int) < 301 := by have := FEW.out.1; rw [HL1.out] at this; omega
    generalize l1.getD k CAct.zero = act at *
    have SR : Hid ((Tryz.prog.info? 34).map (·.size) = some (rcL act.r).length) := by (show _ = _); rw [rc_size HRI.out.hash, List.size_toArray]
    have SA : Hid ((Tryz.prog.info? 37).map (·.size) = some (cactL act A' m' c').length) := by (show _ = _); rw [cactL_len HRI.out.hash]; kernel_rfl
    have HSL0 : Hid (0 < s.L.length) := by (show _ < _); rw [HSL.out]; exact HK1.out
    go_upto_region 10 with (fail)
    obtain ⟨wd, hwd⟩ : ∃ x, wr.drew = x := ⟨_, rfl⟩
    have BS : Below wr.heap.size wr wd := by rw [← hwd]; exact (Below.refl _ _).drew
    replace BR := qH (BR.out.trans (BS.mono BR.out.size))
    replace P := qH (P.out.to BS)
    refine wp_region_held_drew (S := (fun w' => Below w.heap.size w w')) (by kernel_rfl) ((by rw [hwd]; exact BR.out)) (fun hHeld => ?_)
    rw [hwd] at hHeld ⊢
    clear hwd BS
    have hu := Tryz.underlying34
    refine tk 0 ?_
    simp only [pR]
    refine tk 1 ?_
    simp only [pR]
    refine tk 2 ?_
    simp only [pR]
    refine tk 3 ?_
    simp only [pR]
    refine tl 4 (.agg (List.toArray (rcL act.r))) rfl (yieldsIf_load_mid (by rfl) 34 _ rfl b (o + k * 39 + 2) rfl (rcL act.r) _ ((fun w' h => HA2.out w' h)) hu rfl SR.out) ?_
    simp only [pR]
    refine tk 6 ?_
    simp only [pR]
    refine tk 7 ?_
    simp only [pR]
    refine tk 8 ?_
    simp only [pR]
    refine tk 9 ?_
    simp only [pR]
    refine tl 10 (.agg (List.toArray (rcL act.r))) rfl (yieldsIf_load_mid (by rfl) 34 _ rfl b (o + k * 39 + 2) rfl (rcL act.r) _ ((fun w' h => HA2.out w' h)) hu rfl SR.out) ?_
    simp only [pR]
    clear hHeld
    refine rd1 5 (fun K hK => ?_)
    go_simp
    refine (cMay act.r wd HRI.out.hash).mono ?_
    rintro e wa ⟨rfl, hb⟩
    replace P := qH (P.out.to hb)
    replace BR := qH (BR.out.trans (hb.mono BR.out.size))
    clear hb
    go_wp2_with fail
    refine hK.out _ _ (BR.out) (fun hHeld => ?_)
    clear hK K
    clear hHeld
    refine rd1 11 (fun K hK => ?_)
    go_simp
    refine (rMayM act.r wa HRI.out.hash).mono ?_
    rintro e wb ⟨rfl, hb⟩
    replace P := qH (P.out.to hb)
    replace BR := qH (BR.out.trans (hb.mono BR.out.size))
    clear hb
    go_wp2_with fail
    refine hK.out _ _ (BR.out) (fun hHeld => ?_)
    clear hK K
    generalize cmMay act.r = mb at *
    refine wpAnyH_take (i := 12) (v := .bool false) rfl (by kernel_rfl) (by kernel_rfl) (by kernel_rfl) (fun _ _ _ h => h) (Or.inl ⟨by rfl, ?_⟩) (by assumption) ?_
    ·intro w hSw
     cases mb <;> go_simp
    simp only [pR]
    refine tk 13 ?_
    simp only [pR]
    refine tk 14 ?_
    simp only [pR]
    refine tk 15 ?_
    simp only [pR]
    refine tk 16 ?_
    simp only [pR]
    refine tk 17 ?_
    simp only [pR]
    refine tk 18 ?_
    simp only [pR]
    clear hu
    have hu := Tryz.underlying37
    refine tl 19 (.agg (List.toArray (cactL act A' m' c'))) rfl (yieldsIf_load_mid (by rfl) 37 _ rfl b (o + k * 39) rfl (cactL act A' m' c') _ ((fun w' h => HA1.out w' h)) hu rfl SA.out) ?_
    simp only [pR]
    clear hHeld hu
    refine rd1 20 (fun K hK => ?_)
    go_simp
    refine (lOne16 d r F1 G1 s act A' m' c' wb P.out HSL0.out (HA3.out wb BR.out) ARG.out HM6.out).mono ?_
    rintro e w5 ⟨rfl, F5, G5, s5, hd, hl5⟩
    have DD := qH hd
    have HL5 : Hid (s5.L.length = k0) := hl5.trans HSL.out
    have B5 := qH (hd.keep.below BR.out BR.out.size HN.out)
    have HN5 : Hid (∀ j, F5 j ∨ G5 j → w.heap.size ≤ j) := fun j hj => hj.elim (fun h => (hd.newF j h).elim (fun h => HN.out j (.inl h)) (Nat.le_trans BR.out.size)) (fun h => (hd.newG j h).elim (fun h => HN.out j (.inr h)) (Nat.le_trans BR.out.size))
    clear hd hl5
    go_wp2_with fail
    refine hK.out _ _ (B5.out) (fun hHeld => ?_)
    clear hK K
    obtain ⟨lb, cap, -, x1, -⟩ := DD.out.pair.dr.cells
    have X1 := qH x1
    clear x1
    refine tk 21 ?_
    simp only [pR]
    refine tk 22 ?_
    simp only [pR]
    refine tk 23 ?_
    simp only [pR]
    refine wpAnyH_weak (S' := fun w' => Below w.heap.size w w' ∧ w'.cell? ⟨r, 1, none⟩ = some (.bool (!s5.up))) (fun _ h => h.1) _ _ _ _ ?_
    replace hHeld := (show Below w.heap.size w w5 ∧ w5.cell? ⟨r, 1, none⟩ = some (.bool (!s5.up)) from ⟨B5.out, X1.out⟩)
    refine tk 24 ?_
    simp only [pR]
    refine tk 26 ?_
    simp only [pR]
    refine tk 27 ?_
    simp only [pR]
    refine tk 28 ?_
    simp only [pR]
    refine tw 29 rfl (by intro w hSw; (try dsimp only at hSw); (have x := hSw.2); clear hSw; go_simp; (try with_reducible rfl)) ?_
    simp only [pR]
    clear hHeld
    refine rd1 25 (fun K hK => ?_)
    go_simp
    refine (dUp d F5 s5 w5 DD.out.pair.dk).mono ?_
    rintro e w' ⟨rfl, rfl⟩
    go_wp2_with fail
    refine hK.out _ _ (⟨B5.out, X1.out⟩) (fun hHeld => ?_)
    clear hK K
    have hud := up_down s5.up
    refine wpAnyH_take (i := 30) (v := .bool false) rfl (by kernel_rfl) (by kernel_rfl) (by kernel_rfl) (fun _ _ _ h => h) (Or.inl ⟨by rfl, ?_⟩) (by assumption) ?_
    ·intro w hSw
     cases s5.up <;> go_simp
    simp only [pR]
    refine tk 31 ?_
    simp only [pR]
    refine wpAnyH_done (by kernel_rfl) ?_ _
    clear hHeld hud X1 P BR ARG SR SA HSL0 HM6 HA1 HA2 HA3 HN HSL
    have P5 := qH DD.out.pair
    have HGI := qH (cmGet_in s5)
    have HCG := qH (cGet d F5 s5 w5 P5.out.dk)
    have HRG := qH (fun wx (h : Below w5.heap.size w5 wx) => rGet16 r G5 s5 wx (P5.out.dr.to h))
    clear DD
    generalize cmGet s5 = cg at *
    obtain ⟨x, y, ge⟩ := cg
    dsimp only at HGI
    have SX := qH (rc_size HGI.out.1.hash)
    have SY := qH (rc_size HGI.out.2.hash)
    have ZX := qH (rc_same HGI.out.1.hash)
    have ZY := qH (rc_same HGI.out.2.hash)
    go_wp2_with fail
    refine HCG.out.mono ?_
    rintro e w6 ⟨rfl, hb⟩
    have B6 := qH hb
    obtain ⟨t1, t2, t3, t4, t5⟩ := tw_is w6 HGI.out.1.hash HGI.out.2.hash
    have T1 := qH t1
    have T2 := qH t2
    have T3 := qH t3
    have T4 := qH t4
    have B7 := qH (B6.out.trans (t5.mono B6.out.size))
    clear hb t1 t2 t3 t4 t5 HCG
    go_upto_region 13 with (first | (refine wpList_store_row rfl 34 _ _ rfl w6.heap.size (rcL x).toArray rfl rfl 34 (rcL Rcd.zero).toArray T1.out SX.out ZX.out (rc_one _) ?_) | (refine wpList_store_row rfl 34 _ _ rfl (w6.heap.size + 1) (rcL y).toArray rfl rfl 34 (rcL Rcd.zero).toArray T2.out SY.out ZY.out (rc_one _) ?_))
    have hE : (((w6.alloc (.cells (rcL Rcd.zero).toArray 34)).alloc (.cells (rcL Rcd.zero).toArray 34)).setRow w6.heap.size (rcL x).toArray).setRow (w6.heap.size + 1) (rcL y).toArray = tw2 w6 x y := rfl
    rw [hE]
    clear hE T1 T2
    generalize tw2 w6 x y = w7 at *
    generalize w6.heap.size + 1 = gy at *
    generalize w6.heap.size = gx at *
    go_wp2_with fail
    refine (HRG.out w7 B7.out).mono ?_
    rintro e w8 ⟨rfl, hb⟩
    replace T3 := qH (T3.out.to hb)
    replace T4 := qH (T4.out.to hb)
    have B8 := qH (B7.out.trans (hb.mono B7.out.size))
    obtain ⟨t1, t2, t3, t4, t5⟩ := tw_is w8 HGI.out.1.hash HGI.out.2.hash
    have T1 := qH t1
    have T2 := qH t2
    have U3 := qH t3
    have U4 := qH t4
    have B9 := qH (B8.out.trans (t5.mono B8.out.size))
    replace T3 := qH (T3.out.to t5)
    replace T4 := qH (T4.out.to t5)
    clear hb t1 t2 t3 t4 t5 HRG B6 B7 B8
    go_upto_region 14 with (first | (refine wpList_store_row rfl 34 _ _ rfl w8.heap.size (rcL x).toArray rfl rfl 34 (rcL Rcd.zero).toArray T1.out SX.out ZX.out (rc_one _) ?_) | (refine wpList_store_row rfl 34 _ _ rfl (w8.heap.size + 1) (rcL y).toArray rfl rfl 34 (rcL Rcd.zero).toArray T2.out SY.out ZY.out (rc_one _) ?_))
    have hE : (((w8.alloc (.cells (rcL Rcd.zero).toArray 34)).alloc (.cells (rcL Rcd.zero).toArray 34)).setRow w8.heap.size (rcL x).toArray).setRow (w8.heap.size + 1) (rcL y).toArray = tw2 w8 x y := rfl
    rw [hE]
    clear hE T1 T2
    generalize tw2 w8 x y = w9 at *
    generalize w8.heap.size + 1 = hy at *
    generalize w8.heap.size = hx at *
    go_upto_region 16 with (first
     | (refine wpList_load_row rfl 34 _ rfl gx rfl 34 (rcL x).toArray (0, 0) _ T3.out.row Tryz.underlying34 rfl SX.out ?_; refine wpList_load_row rfl 34 _ rfl hx rfl 34 (rcL x).toArray (0, 0) _ U3.out.row Tryz.underlying34 rfl SX.out ?_; refine wpList_neB (by rfl) _ _ rfl x x rfl rfl HGI.out.1.hash HGI.out.1.hash false (same_rc x) ?_)
     | (refine wpList_load_rowGm (by rfl) 34 _ rfl gy rfl 34 (rcL y).toArray (0, 0) _ T4.out.row Tryz.underlying34 rfl SY.out ?_; refine wpList_load_rowGm (by rfl) 34 _ rfl hy rfl 34 (rcL y).toArray (0, 0) _ U4.out.row Tryz.underlying34 rfl SY.out ?_; refine wpList_neB (by rfl) _ _ rfl y y rfl rfl HGI.out.2.hash HGI.out.2.hash false (same_rc y) ?_))
    have P9 := qH (P5.out.to B9.out)
    have BZ := qH (B5.out.trans (B9.out.mono B5.out.size))
    have HOK := qH P5.out.dk.ok
    clear T3 T4 U3 U4 SX SY ZX ZY HGI P5 B5 B9
    go_wp2_with fail
    go_loopw [15] (fun i wr => ∃ j : Nat, j ≤ k0 ∧ i = .int .i64 (j : Int) ∧ Below w9.heap.size w9 wr) (fun i _ => k0 - (intOf i).toNat)
    case atStart => exact ⟨0, Nat.zero_le _, rfl, Below.refl _ _⟩
    case round =>
     obtain ⟨j, hj1, rfl, hb⟩ := hrel
     have PX := qH (P9.out.to hb)
     have BX := qH (BZ.out.trans (hb.mono BZ.out.size))
     have B9 := qH hb
     have HJ : Hid (j ≤ k0) := hj1
     clear hb hj1
     by_cases hj : j < k0
     ·have J2 : Hid (j < s5.L.length) := by (show _ < _); rw [HL5.out]; exact hj
      have J3 : Hid (j < k0) := hj
      have hjI : (j : Int) < (k0 : Int) := by omega
      have hj5 : (j : Int) < 5 := by have := HK12.out; omega
      go_wp2_with fail
      clear hj
      refine (dRead d F5 s5 (j : Int) wr PX.out.dk).mono ?_
      rintro e w3 ⟨A3, n3, c3, rfl, hown, hb⟩
      have RD3 := qH (Rd.of_own hown)
      have N3 : Hid (n3 ≤ 64) := by show _ ≤ _; rw [← RD3.out.1]; exact read_len HOK.out j
      replace PX := qH (PX.out.to hb)
      replace B9 := qH (B9.out.trans (hb.mono B9.out.size))
      replace BX := qH (BX.out.trans (hb.mono BX.out.size))
      clear hown hb
      go_wp2_with fail
      refine (qRead r G5 s5 (j : Int) w3 PX.out.dr).mono ?_
      rintro e w4 ⟨A4, n4, c4, rfl, hown, hb⟩
      have RD4 := qH (Rd.of_own hown)
      have N4 : Hid (n4 ≤ 64) := by show _ ≤ _; rw [← RD4.out.1]; exact read_len HOK.out j
      clear hown
      replace PX := qH (PX.out.to hb)
      replace B9 := qH (B9.out.trans (hb.mono B9.out.size))
      replace BX := qH (BX.out.trans (hb.mono BX.out.size))
      replace RD3 := qH (RD3.out.to hb)
      clear hb
      generalize (s5.read (j : Int)).2 = ev at *
      generalize (s5.read (j : Int)).1 = bs at *
      go_upto_region 21 with (fail)
      obtain ⟨we, hwe⟩ : ∃ x, w4.drew = x := ⟨_, rfl⟩
      have BS : Below w4.heap.size w4 we := by rw [← hwe]; exact (Below.refl _ _).drew
      replace PX := qH (PX.out.to BS)
      replace B9 := qH (B9.out.trans (BS.mono B9.out.size))
      replace BX := qH (BX.out.trans (BS.mono BX.out.size))
      replace RD3 := qH (RD3.out.to BS)
      replace RD4 := qH (RD4.out.to BS)
      obtain ⟨lb, cap, x0, -, hcp1, hcp2, hsec⟩ := PX.out.dr.cells
      obtain ⟨b6, o6, c6, y0, hrd⟩ := hsec j J2.out
      rw [HL5.out] at x0
      have hcp3 : (k0 : Int) ≤ (cap : Int) := by rw [HL5.out] at hcp1; omega
      have X0 := qH x0
      have Y0 := qH y0
      have RD6 := qH hrd
      have LX : Hid (r < we.heap.size) := World.block_lt_of_cell? we _ x0
      have LY : Hid (lb < we.heap.size) := World.block_lt_of_cell? we _ y0
      have hfe : s5.flushed (j : Int) = (secAt s5.L j).1 := flushed_in J2.out
      clear hsec x0 y0 hrd hcp1 hcp2
      refine wp_region_held_drew (S := (fun w' => Below we.heap.size we w')) (by kernel_rfl) ((by rw [hwe]; exact Below.refl _ _)) (fun hHeld => ?_)
      rw [hwe] at hHeld ⊢
      clear hwe BS
      refine tk 0 ?_
      simp only [pR]
      refine tk 1 ?_
      simp only [pR]
      refine rd1 2 (fun K hK => ?_)
      go_simp
      refine (refSameBT A3 A4 n3 n4 c3 c4 bs bs we rfl RD3.out RD4.out (by have := N3.out; omega) (by have := N4.out; omega)).mono ?_
      rintro e wf ⟨rfl, hb⟩
      have B5f := qH hb
      have P5f := qH (PX.out.to hb)
      clear hb hHeld
      go_wp2_with fail
      refine hK.out _ _ (B5f.out) (fun hHeld => ?_)
      clear hK K
      refine tk 3 ?_
      simp only [pR]
      refine tk 4 ?_
      simp only [pR]
      refine tk 5 ?_
      simp only [pR]
      refine tk 6 ?_
      simp only [pR]
      refine tk 8 ?_
      simp only [pR]
      refine tk 9 ?_
      simp only [pR]
      refine tk 10 ?_
      simp only [pR]
      refine tk 12 ?_
      simp only [pR]
      refine tw 11 rfl (by intro w hSw; (try dsimp only at hSw); (have x := (hSw.cell LX.out).trans X0.out); clear hSw; go_simp; (try with_reducible rfl)) ?_
      simp only [pR]
      refine tk 13 ?_
      simp only [pR]
      refine tk 14 ?_
      simp only [pR]
      refine tw 15 rfl (by intro w hSw; (try dsimp only at hSw); (have x := (hSw.cell LY.out).trans Y0.out); clear hSw; go_simp; (try with_reducible rfl)) ?_
      simp only [pR]
      refine rd1 7 (fun K hK => ?_)
      go_simp
      refine (dFlushed d F5 s5 (j : Int) wf P5f.out.dk).mono ?_
      rintro e wg ⟨A7, n7, c7, rfl, hown, hb⟩
      rw [hfe] at hown
      have RD7 := qH (Rd.of_own hown)
      have N7 : Hid (n7 ≤ 64) := rd_leC RD7.out (Nat.le_of_eq (HOK.out.secF J2.out))
      have B6f := qH (B5f.out.trans (hb.mono B5f.out.size))
      clear hown hb hHeld
      go_wp2_with fail
      refine hK.out _ _ (B6f.out) (fun hHeld => ?_)
      clear hK K
      refine rd1 16 (fun K hK => ?_)
      go_simp
      refine (refSameBT A7 (some ⟨b6, o6, none⟩) n7 64 c7 c6 _ _ wg rfl RD7.out (RD6.out.to B6f.out) (by have := N7.out; omega) (by decide)).mono ?_
      rintro e wh ⟨rfl, hb⟩
      have B7f := qH (B6f.out.trans (hb.mono B6f.out.size))
      clear hb hHeld
      go_wp2_with fail
      refine hK.out _ _ (B7f.out) (fun hHeld => ?_)
      clear hK K
      refine tk 17 ?_
      simp only [pR]
      refine tk 18 ?_
      simp only [pR]
      refine wpAnyH_done (by kernel_rfl) ?_ _
      clear hHeld
      have B9Z := qH (B9.out.trans (B7f.out.mono B9.out.size))
      go_wp2_with fail
      go_roundw
      case rel => exact ⟨j + 1, J3.out, by go_num, B9Z.out⟩
      case measure => have := J3.out; simp [intOf]; omega
     ·obtain rfl : j = k0 := by have := HJ.out; omega
      have hjI : ¬ (j : Int) < (j : Int) := by omega
      go_wp2_with fail
      go_roundw
      case rel => exact ⟨k + 1, F5, G5, s5, HLT.out, by go_num, PX.out, HL5.out, HN5.out, BX.out⟩
      case measure => have := HLT.out; simp [intOf]; omega
   ·obtain rfl : k = len1 := by have := HK.out; omega
    go_wp2_with fail
    go_ret
    exact ⟨rfl, BR.out⟩
theorem lifted (os : Os) (started : os.Started) (H : Type) (enc : TypeId × Value → H) :
  ReturnsInHanded {} Tryz.checked os 3 .any (Rows.commitPlaysSpec.pre6 enc Tryz.prog Tryz.f3 Rows.commitPlaysRow.domain false) (Rows.commitPlaysSpec.post enc Tryz.prog Tryz.f3 false true false false) := by
 refine returnsInHanded_of_change_sized (C := Tryz.checked) own started (by kernel_rfl) Tryz.func3
  (ChangeSpec.witness6 (enc := enc) (C := Tryz.checked) false ⟨#[], #[.int .i64 0, .slice none 0 0], []⟩ 8 (by kernel_rfl) (by kernel_rfl) (by kernel_rfl) (by kernel_rfl)) ?_
 intro W base args ds gs before hval0 hW hcnd hsz0 _
 have hval : ∀ (j : Nat) t v, Tryz.f3.params[j]? = some t → args[j]? = some v → Value.okWide Tryz.prog W .any base t v := hval0
 have hsz : (DataW.weightsEach Tryz.prog (Tryz.f3.params.toList ++ Rows.commitPlaysSpec.plain.varTypes Tryz.prog) (ds ++ gs)).all (· ≤ reachBytes) = true := hsz0
 have hW' := hW
 obtain ⟨p, q, hA0, hV, rfl, hfz, hnd⟩ := hW
 have hA : DataW.TrodAll enc Tryz.prog W 0 (fun _ => true) true Tryz.f3.params.toList args.toList ds p := hA0
 rw [Tryz.params3] at hA hval hsz
 obtain ⟨v0, vs0, d0, ds0, p0, q0, hargs, rfl, rfl, h0, r0⟩ := trodAll_cons hA
 obtain ⟨v1, vs1, d1, ds1, p1, q1, rfl, rfl, rfl, h1, r1⟩ := trodAll_cons r0
 obtain ⟨rfl, rfl, rfl⟩ := trodAll_nil r1
 obtain rfl : args = #[v0, v1] := by cases args; simp_all
 obtain ⟨rfl, rfl⟩ := trodVars_none hV
 have sz1 : ∀ x ∈ d1.weights Tryz.prog 22, x ≤ reachBytes := fun x hx => by simpa using List.all_eq_true.1 hsz _ (DataW.weights_mem_each (j := 1) rfl rfl x hx)
 obtain ⟨a0, rfl, rfl, rfl, w0⟩ := open_int Tryz.underlying3 (hval 0 3 v0 rfl rfl) h0
 have k1 := h1
 have lt1 : ∀ x ∈ p1, x.block < W.heap.size := by obtain ⟨m, hm⟩ := k1; exact DataW.trod_lt m _ _ _ hm
 obtain ⟨a1, len1, cap1, l1, rfl, w1⟩ := open_cacts (hval 1 22 v1 rfl rfl) h1 sz1
 clear hA0 hval0
 refine (walk a0 a1 len1 cap1 l1 W w0 w1).mono fun e W' ⟨he, bel⟩ => ?_
 subst he
 exact ⟨_, rfl, _, _, _, [], _, [], hW', trodAll_mk1 (shut_bool Tryz.underlying4 _), (trodAll_cons_mk (shut_int Tryz.underlying3 w0) (trodAll_cons_mk (Below.trod laidOut (by kernel_rfl) (of_decide_eq_true (by kernel_rfl)) k1 bel lt1) trodAll_mk0)), rfl, bel.frame _, fun h => by cases h⟩
theorem over : Rows.commitPlaysRow.holds Tryz.pinned (OpenSpec.ofChange Rows.commitPlaysSpec) :=
 OpenClaim.holds_of_wide 3 Tryz.f3 rfl rfl rfl rfl rfl rfl rfl ⟨rfl, rfl, rfl, rfl, rfl⟩ rfl rfl rfl rfl rfl (by kernel_rfl) Tryz.func3 (by kernel_rfl)
  (of_decide_eq_true (by kernel_rfl)) (by unfold Func.isWrapper; first | (rw [if_pos (by decide +kernel)]; kernel_rfl) | (rw [if_neg (by decide +kernel)]; exact ⟨rfl, rfl⟩))
  (fun os started H enc _ => lifted os started H enc)
theorem proved : Rows.CommitPlaysSaid := over
end Go.Proofs.YtffdjnhhmfpkgaaGreat.commitPlays