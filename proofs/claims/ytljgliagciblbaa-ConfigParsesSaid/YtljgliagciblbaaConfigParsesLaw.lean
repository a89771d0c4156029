/- For any bytes and any configuration, changed or cut at any place, the law ConfigParses of citadellaw11 returns true: what is read of bytes is as the chapter says (config.Parse). -/
import Derived.Test.YtljgliagciblbaaRows
import Derived.Test.YtljgliagciblbaaCfLf
import Derived.Test.YtljgliagciblbaaCfLb
import Derived.Test.YtljgliagciblbaaCfV
import Derived.Test.YtljgliagciblbaaCfT
import Derived.Test.YtljgliagciblbaaCfY
import Derived.Deep.DeepCutAuto
import Derived.Deep.CutBlock
import Derived.SizedLaws
import Derived.WalkKit
import Derived.ProofKit
import Derived.OpenShut
import Derived.ShutString
import Derived.ChangeOld
import Derived.Below
namespace Go.Proofs.Ytljgliagciblbaa.configParses
open Go.ChangeShapes Go.WideShapes Go.ChangeAt Go.RowKit
open Go.ChangeMaps (open_string shut_string)
set_option linter.unusedVariables false
set_option linter.unusedSimpArgs false

theorem own : ownKnob Try.prog.godebug = none := by kernel_rfl
theorem laidOut : laidOutB Try.prog = true := by kernel_rfl

/-- A byte slice of the law's own, of so many bytes at most. -/
def OwB (w : World) (s : Value) (wx : World) : Prop :=
  ∃ (A : Option Addr) (n c : Nat) (bs : List UInt8), s = .slice A n c ∧ n ≤ 9000 ∧ wx.ownsRow w.heap.size 5 1 (.slice A n c) n (bs.map bval) ∧ Below w.heap.size w wx
/-- A byte slice that reads. -/
def RdV (w : World) (s : Value) (wx : World) : Prop :=
  ∃ (A : Option Addr) (n c : Nat) (bs : List UInt8), s = .slice A n c ∧ n ≤ c ∧ c ≤ 9223372036854775807 ∧ n ≤ 9001 ∧ Rd wx wx.heap.size A n bs ∧ Below w.heap.size w wx
theorem cfOut_can (bs : List UInt8) : canC (cfOut bs) = true := by
  cases h : okC bs
  · rw [(cfOut_no h).1]; exact noC_can
  · rw [(cfOut_yes h).1]; exact (okC_got h).2.1
theorem same_self (c : Cf) : sameCf c c = true := decide_eq_true rfl
set_option maxRecDepth 1000000 in
set_option maxHeartbeats 4000000 in
theorem walk (a0 : Option Addr) (len0 cap0 : Nat) (z0 : List Int) (x1 : CV) (c1 : Cf) (b2 : Bool) (a3 : Int) (a4 : Int) (a5 : Int) (w : World) (w0 : IsRow .u8 w a0 len0 cap0 z0) (w1 : RdCf w w.heap.size x1 c1 ∧ x1.kw ≤ 9223372036854775807 ∧ x1.kp ≤ 9223372036854775807 ∧ x1.kc ≤ 9223372036854775807 ∧ CfWf c1) (w3 : (Lit.int .i64 a3).wf = true) (w4 : (Lit.int .u8 a4).wf = true) (w5 : (Lit.int .i64 a5).wf = true) :
    Calls Try.prog 4 #[.slice a0 len0 cap0, .agg #[.slice x1.aw x1.nw x1.kw, .slice x1.ap x1.np x1.kp, .slice x1.ac x1.nc x1.kc], .bool b2, .int .i64 a3, .int .u8 a4, .int .i64 a5] w fun e w' => e = .returned (.bool true) ∧ Below w.heap.size w w' := by
  obtain ⟨r0, hcap0, hcap0'⟩ := w0.rd
  generalize bytesIn (z0.take len0) = bs at r0
  obtain ⟨r1, -, -, -, -⟩ := w1
  obtain ⟨y4, hy4⟩ := u8_of (wf_u8 w4).1 (wf_u8 w4).2
  obtain ⟨wa, hwa, hb1, hx, hr⟩ := one_box w r1
  have HWA := Lib.hid hwa
  have B := Lib.hid hb1
  have X := Lib.hid hx
  have R := Lib.hid hr
  have RB := Lib.hid (r0.to hb1)
  clear r0 r1 hwa hb1 hx hr w0 w3 w4 w5 hcap0 hcap0'
  subst hy4
  go_enter Try.func4, Try.ntmps4
  go_upto_region 1 with (fail)
  rw [HWA.out]
  clear HWA
  by_cases hl : 9000 < len0
  · have hlI : (len0 : Int) > 9000 := by omega
    have hlJ : (9000 : Int) < (len0 : Int) := by omega
    go_wp2_with fail
    go_ret
    exact ⟨rfl, B.out⟩
  have hlI : ¬ (9000 : Int) < (len0 : Int) := by omega
  have HL : Hid (len0 ≤ 9000) := by (show _ ≤ _); omega
  clear hl
  have p1 := X.out.at (j := 0) rfl
  have p2 := X.out.at (j := 1) rfl
  have p3 := X.out.at (j := 2) rfl
  go_wp2_with fail
  refine (lGreat x1 c1 wa R.out).mono ?_
  rintro e wb ⟨rfl, hb⟩
  replace X := Lib.hid (X.out.to hb)
  replace R := Lib.hid (R.out.to hb)
  replace B := Lib.hid (B.out.trans (hb.mono B.out.size))
  replace RB := Lib.hid (RB.out.to hb)
  clear hb p1 p2 p3 hlI
  cases hg : greatC c1
  rotate_left 1
  · skip
    go_wp2_with fail
    go_ret
    exact ⟨rfl, B.out⟩
  obtain ⟨-, hnp, -, -⟩ := bounds_of R.out hg
  have HNP := Lib.hid hnp
  clear hg hnp
  have hbx := Bx.new wb 5 []
  have hal := (Below.refl wb.heap.size wb).alloc (Nat.le_refl _) (.cells #[] 5)
  have O6 := Lib.hid (own_nilV (B := wb.heap.size) (z := 1) hbx (Nat.le_refl _))
  have N6 := Lib.hid (RB.out.to hal).news
  have BW5 := Lib.hid hal
  clear hbx hal
  go_upto_region 3 with (fail)
  go_cut [0] (fun s0 wx => OwB w s0 wx ∧ Below wb.heap.size wb wx)
  case first =>
    go_wp2_with (at_builtin; refine wpList_pushV vtB rfl (.tmp 26) (.tmp 27) rfl rfl rfl O6.out N6.out.1 N6.out.2 (bytes_one _) BW5.out.size (by have := HL.out; omega) ?_; intro v7 w7 hown7 hk7 hv7; rw [Nat.zero_add, List.nil_append] at hown7; obtain ⟨A7, c7, rfl⟩ := own_slV hown7; have B7 := Lib.hid (hk7.below BW5.out BW5.out.size (fun k hk => (O6.out.lt k hk).1)); have O7 := Lib.hid (own_mono hown7 B.out.size); clear hown7 hk7 hv7)
    go_meet
    exact ⟨⟨_, _, _, _, rfl, HL.out, O7.out, B.out.trans (B7.out.mono B.out.size)⟩, B7.out⟩
  case rest =>
  obtain ⟨⟨A1, n1, k1, bs1, rfl, hn1, ho1, -⟩, hb⟩ := hcut
  obtain ⟨wo, hwo⟩ : ∃ x, x = wc := ⟨_, rfl⟩
  subst hwo
  have HN1 := Lib.hid hn1
  have O1 := Lib.hid ho1
  replace X := Lib.hid (X.out.to hb)
  replace R := Lib.hid (R.out.to hb)
  replace B := Lib.hid (B.out.trans (hb.mono B.out.size))
  clear hb hn1 ho1 O6 N6 BW5 RB HL
  go_upto_region 4 with (fail)
  go_cut [33] (fun s33 wx => s33 = .bool (b2 && canC c1) ∧ Below wo.heap.size wo wx)
  case first =>
    have p1 := X.out.at (j := 0) rfl
    have p2 := X.out.at (j := 1) rfl
    have p3 := X.out.at (j := 2) rfl
    cases b2
    · go_wp2_with fail
      go_meet
      exact ⟨rfl, Below.refl _ _⟩
    · go_wp2_with fail
      refine (rCan x1 c1 wo R.out HNP.out).mono ?_
      rintro e wd ⟨rfl, hb⟩
      have HB := Lib.hid hb
      clear hb
      go_wp2_with fail
      go_meet
      exact ⟨rfl, HB.out⟩
  case rest =>
  obtain ⟨rfl, hb⟩ := hcut
  replace O1 := Lib.hid (own_bv O1.out hb)
  replace X := Lib.hid (X.out.to hb)
  replace R := Lib.hid (R.out.to hb)
  replace B := Lib.hid (B.out.trans (hb.mono B.out.size))
  clear hb
  obtain ⟨wp, hwp⟩ : ∃ x, x = wc := ⟨_, rfl⟩
  subst hwp
  go_upto_if 33 with (fail)
  go_cut [0] (fun s0 wx => OwB w s0 wx)
  case first =>
    obtain ⟨z, hz⟩ : ∃ z, (b2 && canC c1) = z := ⟨_, rfl⟩
    rw [hz]
    have HZ := Lib.hid hz
    clear hz
    cases z
    · go_wp2_with fail
      go_meet
      exact ⟨_, _, _, _, rfl, HN1.out, O1.out, B.out⟩
    · have HC : Hid (canC c1 = true) := by
        have h := HZ.out
        rw [Bool.and_eq_true] at h
        exact h.2
      clear HZ
      have p1 := X.out.at (j := 0) rfl
      have p2 := X.out.at (j := 1) rfl
      have p3 := X.out.at (j := 2) rfl
      go_wp2_with fail
      refine (rForm x1 c1 wp R.out HC.out).mono ?_
      rintro e wd ⟨A5, n5, c5, rfl, hown5, hb⟩
      have O5 := Lib.hid (own_mono hown5 B.out.size)
      have H5 : Hid (n5 ≤ 9000) := by
        have h := formC_len HC.out
        have h2 : (formC c1).length = n5 := (Rd.of_own hown5).1
        (show _ ≤ _); omega
      replace B := Lib.hid (B.out.trans (hb.mono B.out.size))
      clear hown5 hb
      go_wp2_with fail
      go_meet
      exact ⟨_, _, _, _, rfl, H5.out, O5.out, B.out⟩
  case rest =>
  obtain ⟨A2, n2, k2, bs2, rfl, hn2, ho2, hb2⟩ := hcut
  clear O1 HN1 B X R
  have HN2 := Lib.hid hn2
  have O2 := Lib.hid ho2
  have B := Lib.hid hb2
  clear hn2 ho2 hb2
  obtain ⟨wq, hwq⟩ : ∃ x, x = wc := ⟨_, rfl⟩
  subst hwq
  go_upto_if 38 with (fail)
  go_cut [0] (fun s0 wx => OwB w s0 wx)
  case first =>
    by_cases h0 : 0 < n2
    · have h0I : (n2 : Int) > 0 := by omega
      have h0J : (0 : Int) < (n2 : Int) := by omega
      obtain ⟨q, hq, hqe⟩ := idx_ofC a3 (n := n2) h0 (by have := HN2.out; omega)
      have HQ := Lib.hid hq
      have hqI : (q : Int) < (n2 : Int) := by omega
      have hz1 : ¬ (n2 : Int) = 0 := by omega
      have hz2 : ¬ n2 = 0 := by omega
      have hun : IntKind.u64.wrap (n2 : Int) = (n2 : Int) := by have := HN2.out; rw [IntKind.wrap_u64]; omega
      obtain ⟨gg, hgg, hgB⟩ := own_head O2.out h0
      subst hgg
      obtain ⟨hcell, hfr⟩ := own_cell (j := q) O2.out hq
      obtain ⟨u, hu⟩ := nth_u8 bs2 q
      rw [hu] at hcell
      have hxx := xor_u8 u y4
      have HG := Lib.hid hgB
      clear hq hu hgB
      go_wp2_with fail
      have h := own_set O2.out B.out (j := q) (u ^^^ y4) rfl HG.out
      have O3 := Lib.hid h.1
      have B3 := Lib.hid h.2
      clear h
      go_meet
      exact ⟨_, _, _, _, rfl, HN2.out, O3.out, B3.out⟩
    · obtain rfl : n2 = 0 := by omega
      clear h0
      go_wp2_with fail
      go_meet
      exact ⟨_, _, _, _, rfl, HN2.out, O2.out, B.out⟩
  case rest =>
  obtain ⟨A3, n3, k3, bs3, rfl, hn3, ho3, hb3⟩ := hcut
  clear O2 HN2 B
  have HN3 := Lib.hid hn3
  have O3 := Lib.hid ho3
  have B := Lib.hid hb3
  have HK3 := Lib.hid (own_cap ho3)
  clear hn3 ho3 hb3
  obtain ⟨ws, hws⟩ : ∃ x, x = wc := ⟨_, rfl⟩
  subst hws
  go_upto_block 0 with (fail)
  go_cut [0] (fun s0 wx => RdV w s0 wx)
  case first =>
    cases h1 : (a5.tmod 4 == 1)
    rotate_left 1
    · have hal := (Below.refl ws.heap.size ws).alloc (Nat.le_refl _) (.cells #[.int .u8 (y4.toNat : Int)] 5)
      have O7 := Lib.hid (own_bv O3.out hal)
      have N7 := Lib.hid (cells_newV ws 5 [.int .u8 (y4.toNat : Int)])
      have B8 := Lib.hid (B.out.trans (hal.mono B.out.size))
      clear hal
      go_wp2_with (at_builtin; refine wpList_pushV vtB rfl (.tmp 56) (.tmp 58) rfl rfl rfl O7.out (m := 1) (news := [.int .u8 (y4.toNat : Int)]) rfl (fun _ => ⟨_, rfl, N7.out⟩) (bytes_one [y4]) B8.out.size (by have := HN3.out; omega) ?_; intro v9 w9 hown9 hk9 hv9; obtain ⟨A9, c9, rfl⟩ := own_slV hown9; have B9 := Lib.hid (hk9.below B8.out B8.out.size (fun k hk => (O7.out.lt k hk).1)); have O9 := Lib.hid hown9; clear hown9 hk9 hv9)
      have O10 : Hid (w9.ownsRow w.heap.size 5 1 (.slice A9 (n3 + 1) c9) (n3 + 1) ((bs3 ++ [y4]).map bval)) := by (show World.ownsRow _ _ _ _ _ _ _); rw [List.map_append]; exact O9.out
      have HC9 := Lib.hid (own_capV O10.out)
      go_meet
      exact ⟨_, _, _, _, rfl, HC9.out.2.1, HC9.out.2.2, by have := HN3.out; omega, Rd.of_own O10.out, B9.out⟩
    · cases h2 : (a5.tmod 4 == 2)
      · go_wp2_with fail
        go_meet
        exact ⟨_, _, _, _, rfl, HK3.out.1, HK3.out.2, by have := HN3.out; omega, Rd.of_own O3.out, B.out⟩
      · obtain ⟨q, hq, hqe⟩ := idx_ofC a3 (n := n3 + 1) (by omega) (by have := HN3.out; omega)
        have HQ : Hid (q ≤ n3) := by (show _ ≤ _); omega
        have HQ2 : Hid (q ≤ k3) := by have := HK3.out.1; have := HQ.out; (show _ ≤ _); omega
        rw [show ((n3 + 1 : Nat) : Int) = (n3 : Int) + 1 from by omega] at hqe
        have hw64 : wrap64 ((n3 : Int) + 1) = (n3 : Int) + 1 := wrap64_mid (by omega) (by have := HN3.out; omega)
        have hun : IntKind.u64.wrap ((n3 : Int) + 1) = (n3 : Int) + 1 := by have := HN3.out; rw [IntKind.wrap_u64]; omega
        have hz1 : ¬ ((n3 : Int) + 1 = 0) := by omega
        have hsl : ∀ w : World, (Instr.slice 29 (.slice A3 n3 k3) none (some (.int .i64 (q : Int))) none).run Try.prog w = .ok (.slice A3 q k3) w := fun w => slice_h isU8 A3 (n := n3) (c := k3) (h := q) HQ.out HK3.out.1 .i64 w
        clear hq
        go_wp2_with fail
        go_meet
        exact ⟨_, _, _, _, rfl, HQ2.out, HK3.out.2, by have := HN3.out; have := HQ.out; omega, (Rd.of_own O3.out).front HQ.out, B.out⟩
  case rest =>
  obtain ⟨A4, n4, k4, bs4, rfl, hk1, hk2, hn4, hr4, hb4⟩ := hcut
  clear O3 HN3 HK3 B
  have K1 := Lib.hid hk1
  have K2 := Lib.hid hk2
  have HN4 := Lib.hid hn4
  have RB := Lib.hid hr4
  have B := Lib.hid hb4
  clear hk1 hk2 hn4 hr4 hb4
  obtain ⟨wt, hwt⟩ : ∃ x, x = wc := ⟨_, rfl⟩
  subst hwt
  have hbx := Bx.new wt 5 []
  have hal := (Below.refl wt.heap.size wt).alloc (Nat.le_refl _) (.cells #[] 5)
  have O6 := Lib.hid (own_nilV (B := wt.heap.size) (z := 1) hbx (Nat.le_refl _))
  have N6 := Lib.hid (RB.out.to hal).news
  have BW5 := Lib.hid hal
  clear hbx hal
  go_upto_region 13 with (fail)
  go_cut [13] (fun s13 wx => ∃ (A : Option Addr) (c : Nat), s13 = .slice A n4 c ∧ wx.ownsRow wt.heap.size 5 1 (.slice A n4 c) n4 (bs4.map bval) ∧ Below wt.heap.size wt wx)
  case first =>
    go_wp2_with (at_builtin; refine wpList_pushV vtB rfl (.tmp 72) (.tmp 73) rfl rfl rfl O6.out N6.out.1 N6.out.2 (bytes_one _) BW5.out.size (by have := HN4.out; omega) ?_; intro v7 w7 hown7 hk7 hv7; rw [Nat.zero_add, List.nil_append] at hown7; obtain ⟨A7, c7, rfl⟩ := own_slV hown7; have B7 := Lib.hid (hk7.below BW5.out BW5.out.size (fun k hk => (O6.out.lt k hk).1)); have O7 := Lib.hid hown7; clear hown7 hk7 hv7)
    go_meet
    exact ⟨_, _, rfl, O7.out, B7.out⟩
  case rest =>
  obtain ⟨A5, k5, rfl, ho5, hb⟩ := hcut
  clear O6 N6 BW5
  have HC5 := Lib.hid (own_capV ho5)
  have RI := Lib.hid (Rd.of_own ho5)
  replace RB := Lib.hid (RB.out.to hb)
  replace B := Lib.hid (B.out.trans (hb.mono B.out.size))
  clear hb ho5
  obtain ⟨wu, hwu⟩ : ∃ x, x = wc := ⟨_, rfl⟩
  subst hwu
  go_wp2_with fail
  refine (wParse A5 n4 k5 bs4 wu RI.out HC5.out.2.1 HC5.out.2.2 (by have := HN4.out; omega)).mono ?_
  rintro e wv ⟨v1, rfl, ho, hb⟩
  have BP := Lib.hid hb
  replace RB := Lib.hid (RB.out)
  have R1 := Lib.hid ho.rd
  have S1 := Lib.hid ho.sp
  clear ho hb
  obtain ⟨aw4, nw4, kw4, ap4, np4, kp4, ac4, nc4, kc4⟩ := v1
  dsimp only [CV.val]
  have hb := (Below.refl wv.heap.size wv).alloc (Nat.le_refl _) (.cells #[.slice aw4 nw4 kw4, .slice ap4 np4 kp4, .slice ac4 nc4 kc4] 26)
  have Y : Hid (Bx (wv.alloc (.cells #[.slice aw4 nw4 kw4, .slice ap4 np4 kp4, .slice ac4 nc4 kc4] 26)) wv.heap.size 26 [.slice aw4 nw4 kw4, .slice ap4 np4 kp4, .slice ac4 nc4 kc4]) := Bx.new wv _ [.slice aw4 nw4 kw4, .slice ap4 np4 kp4, .slice ac4 nc4 kc4]
  replace R1 := Lib.hid (R1.out.to hb)
  replace S1 := Lib.hid (S1.out.to hb)
  replace BP := Lib.hid (BP.out.trans (hb.mono BP.out.size))
  clear hb
  go_upto_region 15 with (fail)
  generalize hgx : wv.heap.size = gx at *
  replace hgx := Lib.hid hgx
  generalize wv.alloc (.cells #[.slice aw4 nw4 kw4, .slice ap4 np4 kp4, .slice ac4 nc4 kc4] 26) = ww at *
  go_wp2_with fail
  refine (rParse A4 n4 k4 bs4 ww ((RB.out.below BP.out).more BP.out.size) (by have := HN4.out; omega)).mono ?_
  rintro e wx ⟨v2, rfl, hr, hb⟩
  have R2 := Lib.hid hr
  replace R1 := Lib.hid (R1.out.to hb)
  replace S1 := Lib.hid (S1.out.to hb)
  replace Y := Lib.hid (Y.out.to hb)
  replace BP := Lib.hid (BP.out.trans (hb.mono BP.out.size))
  clear hr hb
  obtain ⟨aw6, nw6, kw6, ap6, np6, kp6, ac6, nc6, kc6⟩ := v2
  dsimp only [CV.val]
  have hb := (Below.refl wx.heap.size wx).alloc (Nat.le_refl _) (.cells #[.slice aw6 nw6 kw6, .slice ap6 np6 kp6, .slice ac6 nc6 kc6] 26)
  have Z : Hid (Bx (wx.alloc (.cells #[.slice aw6 nw6 kw6, .slice ap6 np6 kp6, .slice ac6 nc6 kc6] 26)) wx.heap.size 26 [.slice aw6 nw6 kw6, .slice ap6 np6 kp6, .slice ac6 nc6 kc6]) := Bx.new wx _ [.slice aw6 nw6 kw6, .slice ap6 np6 kp6, .slice ac6 nc6 kc6]
  replace R1 := Lib.hid (R1.out.to hb)
  replace R2 := Lib.hid (R2.out.to hb)
  replace S1 := Lib.hid (S1.out.to hb)
  replace Y := Lib.hid (Y.out.to hb)
  replace BP := Lib.hid (BP.out.trans (hb.mono BP.out.size))
  clear hb
  go_upto_region 16 with (fail)
  generalize hgz : wx.heap.size = gz at *
  replace hgz := Lib.hid hgz
  generalize wx.alloc (.cells #[.slice aw6 nw6 kw6, .slice ap6 np6 kp6, .slice ac6 nc6 kc6] 26) = wy at *
  obtain ⟨ee, hee⟩ : ∃ ee, cfErr bs4 = ee := ⟨_, rfl⟩
  rw [hee]
  have HB1 := Lib.hid (bounds_can R1.out (cfOut_can bs4))
  have heq : (ee == ee) = true := by simp
  have p1 := Y.out.at (j := 0) rfl
  have p2 := Y.out.at (j := 1) rfl
  have p3 := Y.out.at (j := 2) rfl
  have q1 := Z.out.at (j := 0) rfl
  have q2 := Z.out.at (j := 1) rfl
  have q3 := Z.out.at (j := 2) rfl
  clear hee
  go_wp2_with fail
  refine (rSameCf ⟨aw4, nw4, kw4, ap4, np4, kp4, ac4, nc4, kc4⟩ ⟨aw6, nw6, kw6, ap6, np6, kp6, ac6, nc6, kc6⟩ (cfOut bs4) (cfOut bs4) wy R1.out R2.out HB1.out.1 HB1.out.2.1 HB1.out.2.2).mono ?_
  rintro e wz ⟨rfl, hb⟩
  rw [same_self]
  replace S1 := Lib.hid (S1.out.to hb)
  replace Y := Lib.hid (Y.out.to hb)
  replace BP := Lib.hid (BP.out.trans (hb.mono BP.out.size))
  clear hb p1 p2 p3 q1 q2 q3 Z R1 R2 heq
  have p1 := Y.out.at (j := 0) rfl
  have p2 := Y.out.at (j := 1) rfl
  have p3 := Y.out.at (j := 2) rfl
  go_wp2_with fail
  refine (lSpoil ⟨aw4, nw4, kw4, ap4, np4, kp4, ac4, nc4, kc4⟩ wu.heap.size wz S1.out BP.out.size HB1.out.1 HB1.out.2.1 HB1.out.2.2).mono ?_
  rintro e wa2 ⟨rfl, hb⟩
  replace BP := Lib.hid (BP.out.trans hb)
  have RI2 := Lib.hid (RI.out.below BP.out)
  have RB2 := Lib.hid (RB.out.below BP.out)
  have B2 := Lib.hid (B.out.trans (BP.out.mono B.out.size))
  clear hb p1 p2 p3 Y S1 RI RB B BP
  obtain ⟨s1, hs1, -⟩ := str_is bs4
  have cv1 := RI2.out.strC (c := k5) hs1
  have cv2 := RB2.out.strC (c := k4) hs1
  have hss : (s1.toList == s1.toList) = true := by simp
  clear hs1
  go_wp2_with fail
  refine (lAwake _).mono ?_
  rintro e wz2 ⟨rfl, hb⟩
  have BZ := Lib.hid (B2.out.trans (hb.mono B2.out.size))
  clear hb
  go_wp2_with fail
  go_ret
  exact ⟨rfl, BZ.out⟩

set_option maxRecDepth 100000 in
theorem lifted (os : Os) (started : os.Started) (H : Type) (enc : TypeId × Value → H) :
    ReturnsInHanded {} Try.checked os 4 .any (Rows.configParsesSpec.pre6 enc Try.prog Try.f4 Rows.configParsesRow.domain false) (Rows.configParsesSpec.post enc Try.prog Try.f4 false true false false) := by
  refine returnsInHanded_of_change_sized (C := Try.checked) own started (by kernel_rfl) Try.func4
    (ChangeSpec.witness6 (enc := enc) (C := Try.checked) false ⟨#[], #[.slice none 0 0, .agg #[.slice none 0 0, .slice none 0 0, .slice none 0 0], .bool false, .int .i64 0, .int .u8 0, .int .i64 0], []⟩ 8 (by kernel_rfl) (by kernel_rfl) (by kernel_rfl) (by kernel_rfl)) ?_
  intro W base args ds gs before hval0 hW hcnd hsz0 _
  have hval : ∀ (j : Nat) t v, Try.f4.params[j]? = some t → args[j]? = some v → Value.okWide Try.prog W .any base t v := hval0
  have hsz : (DataW.weightsEach Try.prog (Try.f4.params.toList ++ Rows.configParsesSpec.plain.varTypes Try.prog) (ds ++ gs)).all (· ≤ reachBytes) = true := hsz0
  have hW' := hW
  obtain ⟨p, q, hA0, hV, rfl, hfz, hnd⟩ := hW
  have hA : DataW.TrodAll enc Try.prog W 0 (fun _ => true) true Try.f4.params.toList args.toList ds p := hA0
  rw [Try.params4] at hA hval hsz
  obtain ⟨v0, vs0, d0, ds0, p0, q0, hargs, rfl, rfl, h0, r0⟩ := trodAll_cons hA
  obtain ⟨v1, vs1, d1, ds1, p1, q1, rfl, rfl, rfl, h1, r1⟩ := trodAll_cons r0
  obtain ⟨v2, vs2, d2, ds2, p2, q2, rfl, rfl, rfl, h2, r2⟩ := trodAll_cons r1
  obtain ⟨v3, vs3, d3, ds3, p3, q3, rfl, rfl, rfl, h3, r3⟩ := trodAll_cons r2
  obtain ⟨v4, vs4, d4, ds4, p4, q4, rfl, rfl, rfl, h4, r4⟩ := trodAll_cons r3
  obtain ⟨v5, vs5, d5, ds5, p5, q5, rfl, rfl, rfl, h5, r5⟩ := trodAll_cons r4
  obtain ⟨rfl, rfl, rfl⟩ := trodAll_nil r5
  obtain rfl : args = #[v0, v1, v2, v3, v4, v5] := by cases args; simp_all
  obtain ⟨rfl, rfl⟩ := trodVars_none hV
  have sz1 : ∀ x ∈ d1.weights Try.prog 26, x ≤ reachBytes := fun x hx => by simpa using List.all_eq_true.1 hsz _ (DataW.weights_mem_each (j := 1) rfl rfl x hx)
  obtain ⟨a0, len0, cap0, rfl⟩ := okWide_slice Try.underlying29 (hval 0 29 v0 rfl rfl)
  have k0 := h0
  have lt0 : ∀ x ∈ p0, x.block < W.heap.size := by obtain ⟨m, hm⟩ := k0; exact DataW.trod_lt m _ _ _ hm
  obtain ⟨z0, w0⟩ : ∃ zs, IsRow .u8 W a0 len0 cap0 zs := by
    obtain ⟨fuel, hf⟩ := h0
    rcases open_ints Try.underlying29 Try.underlying5 (by kernel_rfl) hf with ⟨hcs, _⟩ | ⟨x, l, c, zs, hcs, _, hl, hm, hz, _, hcell, hwz⟩
    · simp [Value.cells] at hcs
      obtain ⟨rfl, rfl, rfl⟩ := hcs
      exact ⟨[], .inl ⟨rfl, rfl, rfl, rfl⟩⟩
    · simp [Value.cells] at hcs
      obtain ⟨rfl, rfl, rfl⟩ := hcs
      exact ⟨zs, .inr ⟨_, rfl, hl, hm, by simpa using hz, hcell, hwz⟩⟩
  have k1 := h1
  have lt1 : ∀ x ∈ p1, x.block < W.heap.size := by obtain ⟨m, hm⟩ := k1; exact DataW.trod_lt m _ _ _ hm
  obtain ⟨x1, c1, rfl, w1⟩ := open_config (hval 1 26 v1 rfl rfl) h1 sz1
  obtain ⟨b2, rfl, rfl, rfl⟩ := open_bool Try.underlying4 (hval 2 4 v2 rfl rfl) h2
  obtain ⟨a3, rfl, rfl, rfl, w3⟩ := open_int Try.underlying3 (hval 3 3 v3 rfl rfl) h3
  obtain ⟨a4, rfl, rfl, rfl, w4⟩ := open_int Try.underlying5 (hval 4 5 v4 rfl rfl) h4
  obtain ⟨a5, rfl, rfl, rfl, w5⟩ := open_int Try.underlying3 (hval 5 3 v5 rfl rfl) h5
  clear hA0 hval0
  refine (walk a0 len0 cap0 z0 x1 c1 b2 a3 a4 a5 W w0 w1 w3 w4 w5).mono fun e W' ⟨he, bel⟩ => ?_
  subst he
  exact ⟨_, rfl, _, _, _, [], _, [], hW', trodAll_mk1 (shut_bool Try.underlying4 _), (trodAll_cons_mk (Below.trod laidOut (by kernel_rfl) (of_decide_eq_true (by kernel_rfl)) k0 bel lt0) (trodAll_cons_mk (Below.trod laidOut (by kernel_rfl) (of_decide_eq_true (by kernel_rfl)) k1 bel lt1) (trodAll_cons_mk (shut_bool Try.underlying4 _) (trodAll_cons_mk (shut_int Try.underlying3 w3) (trodAll_cons_mk (shut_int Try.underlying5 w4) (trodAll_cons_mk (shut_int Try.underlying3 w5) trodAll_mk0)))))), rfl, bel.frame _, fun h => by cases h⟩

theorem over : Rows.configParsesRow.holds Try.pinned (OpenSpec.ofChange Rows.configParsesSpec) :=
  OpenClaim.holds_of_wide 4 Try.f4 rfl rfl rfl rfl rfl rfl rfl ⟨rfl, rfl, rfl, rfl, rfl⟩ rfl rfl rfl rfl rfl (by kernel_rfl) Try.func4 (by kernel_rfl)
    (of_decide_eq_true (by kernel_rfl)) (by unfold Func.isWrapper; first | (rw [if_pos (by decide +kernel)]; kernel_rfl) | (rw [if_neg (by decide +kernel)]; exact ⟨rfl, rfl⟩))
    (fun os started H enc _ => lifted os started H enc)

theorem proved : Rows.ConfigParsesSaid := over
end Go.Proofs.Ytljgliagciblbaa.configParses
