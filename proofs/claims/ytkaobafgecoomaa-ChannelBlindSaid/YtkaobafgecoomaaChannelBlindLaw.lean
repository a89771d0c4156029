/- For any two queues and any message the law ChannelBlind of citadellaw10 returns true: what is told of a message that is put does not hang on what is in the queue (queues of at most 20 messages and 400 in all, messages of at most 100 bytes). Conditions: none beyond those that the statement itself prints. -/
import Derived.Test.YtkaobafgecoomaaRows
import Derived.Test.YtkaobafgecoomaaChG
import Derived.SizedLaws
import Derived.WalkKit
import Derived.ProofKit
import Derived.OpenShut
import Derived.ShutString
import Derived.ChangeOld
import Derived.Below
namespace Go.Proofs.Ytkaobafgecoomaa.channelBlind
open Go.ChangeShapes Go.WideShapes Go.ChangeAt Go.RowKit
open Go.ChangeMaps (open_string shut_string)
set_option linter.unusedVariables false
set_option linter.unusedSimpArgs false

theorem own : ownKnob Try.prog.godebug = none := by kernel_rfl
theorem laidOut : laidOutB Try.prog = true := by kernel_rfl

def setC5 (w : World) (g : Nat) (c : Ch) : World :=
  ((((w.setCell ⟨g, 0, none⟩ (.int .i64 c.id)).setCell ⟨g, 1, none⟩ (.int .i64 c.fr)).setCell ⟨g, 2, none⟩ (.int .i64 c.dst)).setCell ⟨g, 3, none⟩ (.int .i64 c.cap)).setCell ⟨g, 4, none⟩ (.int .i64 c.size)
theorem setC5_qb {w : World} {g : Nat} {c : Ch} {v : Value} (h : QB w g c v) (c' : Ch) : QB (setC5 w g c') g c' v := by
  obtain ⟨a, b, d, e, s⟩ := c
  obtain ⟨a', b', d', e', s'⟩ := c'
  have h1 := QB.cellset h 0 (.int .i64 a') (c' := ⟨a', b, d, e, s⟩) (v' := v) rfl
  have h2 := QB.cellset h1 1 (.int .i64 b') (c' := ⟨a', b', d, e, s⟩) (v' := v) rfl
  have h3 := QB.cellset h2 2 (.int .i64 d') (c' := ⟨a', b', d', e, s⟩) (v' := v) rfl
  have h4 := QB.cellset h3 3 (.int .i64 e') (c' := ⟨a', b', d', e', s⟩) (v' := v) rfl
  exact QB.cellset h4 4 (.int .i64 s') rfl
theorem setC5_keep {R : Nat → Prop} {a w : World} (h : Keep R a w) (g : Nat) (c : Ch) (hr : R g) : Keep R a (setC5 w g c) :=
  ((((h.setCell _ _ hr).setCell _ _ hr).setCell _ _ hr).setCell _ _ hr).setCell _ _ hr
theorem two_boxesB (w : World) (a b d e s : Int) (v : Value) (a' b' d' e' s' : Int) (v' : Value) : ∃ w2, ((w.alloc (.cells #[.int .i64 a, .int .i64 b, .int .i64 d, .int .i64 e, .int .i64 s, v] 26)).alloc (.cells #[.int .i64 a', .int .i64 b', .int .i64 d', .int .i64 e', .int .i64 s', v'] 26)) = w2 ∧
    Qx w2 w.heap.size ⟨a, b, d, e, s⟩ v ∧ QB w2 (w.heap.size + 1) ⟨a', b', d', e', s'⟩ v' ∧ Below w.heap.size w w2 := by
  refine ⟨_, rfl, (Qx.new w a b d e s v 26).to ((Below.refl _ _).alloc (Nat.le_refl _) _), ?_, ((Below.refl w.heap.size w).alloc (Nat.le_refl _) _).alloc (by simp) _⟩
  have h := QB.new (w.alloc (.cells #[.int .i64 a, .int .i64 b, .int .i64 d, .int .i64 e, .int .i64 s, v] 26)) a' b' d' e' s' v'
  rw [show (w.alloc (.cells #[.int .i64 a, .int .i64 b, .int .i64 d, .int .i64 e, .int .i64 s, v] 26)).heap.size = w.heap.size + 1 from by simp] at h
  exact h
theorem errP_may {c : Ch} {l : List (List UInt8)} {m : List UInt8} (h : mayQ c l = true) : errP c l m = if longM c m then 3 else 0 := by
  unfold errP; rw [if_pos h]
/-- The last of a list that was put into. -/
theorem put_last {w : World} {B n : Nat} {A : Option Addr} {c : Ch} {l : List (List UInt8)} {m : List UInt8} (h : OwS w B A n ((putM c l m).map fullR)) :
    ∃ n' b o A' c', n = n' + 1 ∧ A = some ⟨b, o, none⟩ ∧ w.cell? ⟨b, o + n', none⟩ = some (.slice A' m.length c') ∧ Rd w w.heap.size A' m.length m := by
  have hn : (putM c l m).length = n := by have := h.1; rwa [List.length_map] at this
  have hp := putM_fst c l m
  have hl : (l.drop (fstM c l)).length + 1 = n := by rw [← hn, hp, List.length_append]; rfl
  obtain ⟨b, o, A', c', e, h1, h2, _⟩ := h.at_ (show (l.drop (fstM c l)).length < n by omega)
  have e2 : rowAt ((putM c l m).map fullR) (l.drop (fstM c l)).length = fullR m := by
    rw [hp]
    simp only [rowAt, List.getD, List.getElem?_map, List.getElem?_concat_length, Option.map_some, Option.getD_some]
  rw [e2] at h1 h2
  exact ⟨_, b, o, A', c', hl.symm, e, h1, h2.1.1⟩
set_option maxRecDepth 1000000 in
set_option maxHeartbeats 4000000 in
theorem walk (ca0 cb0 cd0 ce0 cs0 : Int) (a0 : Option Addr) (len0 cap0 : Nat) (bss0 : List (List UInt8)) (ca1 cb1 cd1 ce1 cs1 : Int) (a1 : Option Addr) (len1 cap1 : Nat) (bss1 : List (List UInt8)) (a2 : Option Addr) (len2 cap2 : Nat) (z2 : List Int) (w : World) (w0 : RdS w w.heap.size a0 len0 bss0 ∧ len0 ≤ cap0 ∧ cap0 * 24 ≤ 140737488351232 ∧ ∀ bs ∈ bss0, bs.length ≤ 140737488351232) (w1 : RdS w w.heap.size a1 len1 bss1 ∧ len1 ≤ cap1 ∧ cap1 * 24 ≤ 140737488351232 ∧ ∀ bs ∈ bss1, bs.length ≤ 140737488351232) (w2 : IsRow .u8 w a2 len2 cap2 z2) :
    Calls Try.prog 7 #[.agg #[.int .i64 ca0, .int .i64 cb0, .int .i64 cd0, .int .i64 ce0, .int .i64 cs0, .slice a0 len0 cap0], .agg #[.int .i64 ca1, .int .i64 cb1, .int .i64 cd1, .int .i64 ce1, .int .i64 cs1, .slice a1 len1 cap1], .slice a2 len2 cap2] w fun e w' => e = .returned (.bool true) ∧ Below w.heap.size w w' := by
  obtain ⟨s0, hcap0, hcap024, hlens0⟩ := w0
  obtain ⟨s1, hcap1, hcap124, hlens1⟩ := w1
  obtain ⟨r2, hcap2, hcap2'⟩ := w2.rd
  generalize bytesIn (z2.take len2) = msg at r2
  have R0 := Lib.hid r2
  have HML := Lib.hid r2.1
  have S0 := Lib.hid s0
  have S1 := Lib.hid s1
  have HL0 := Lib.hid hlens0
  have HL1 := Lib.hid hlens1
  have HN0 : Hid (len0 ≤ 140737488355328) := by (show _ ≤ _); omega
  have HN1 : Hid (len1 ≤ 140737488355328) := by (show _ ≤ _); omega
  have HCAP0 := Lib.hid hcap0
  have HCAP1 := Lib.hid hcap1
  obtain ⟨w3, hw3, hp, hq, hb⟩ := two_boxesB w ca0 cb0 cd0 ce0 cs0 (.slice a0 len0 cap0) ca1 cb1 cd1 ce1 cs1 (.slice a1 len1 cap1)
  have HW3 := Lib.hid hw3
  have K := setC5_keep (Keep.refl (fun b => b = w.heap.size + 1) w3) (w.heap.size + 1) ⟨ca0, cb0, cd0, ce0, cs0⟩ rfl
  have P := Lib.hid (hp.kept K (fun h => by omega))
  have Q := Lib.hid (setC5_qb hq ⟨ca0, cb0, cd0, ce0, cs0⟩).qx
  have B := Lib.hid (K.below hb hb.size (fun b h => by omega))
  obtain ⟨x0, x1, x2, x3, x4, x5⟩ := hp.six
  obtain ⟨r0, r1, r2', r3, r4, r5⟩ := hq.qx.six
  obtain ⟨f0, f1, f2, f3, f4, f5⟩ := hq.zeros
  clear s0 s1 r2 hcap024 hlens0 hcap124 hlens1 hcap0 hcap1 hw3 hp hq hb K w2 hcap2 hcap2'
  go_enter Try.func7, Try.ntmps7
  go_upto_region 1 with (fail)
  rw [HW3.out]
  clear HW3
  go_upto_region 2 with (fail)
  change Code.wp _ _ _ _ (setC5 w3 (w.heap.size + 1) ⟨ca0, cb0, cd0, ce0, cs0⟩)
  clear x0 x1 x2 x3 x4 x5 r0 r1 r2' r3 r4 r5 f0 f1 f2 f3 f4 f5
  generalize setC5 w3 (w.heap.size + 1) ⟨ca0, cb0, cd0, ce0, cs0⟩ = w4 at *
  obtain ⟨x0, x1, x2, x3, x4, x5⟩ := P.out.six
  obtain ⟨y0, y1, y2, y3, y4, y5⟩ := Q.out.six
  go_wp2_with fail
  refine (lGreat ca0 cb0 cd0 ce0 cs0 a0 len0 cap0 bss0 w4 ((S0.out.belowX B.out).moreX B.out.size) HN0.out (fun m hm => by have := HL0.out m hm; omega)).mono ?_
  rintro x w5 ⟨rfl, hb⟩
  replace P := Lib.hid (P.out.to hb)
  replace Q := Lib.hid (Q.out.to hb)
  replace B := Lib.hid (B.out.trans (hb.mono B.out.size))
  clear hb x0 x1 x2 x3 x4 x5 y0 y1 y2 y3 y4 y5
  obtain ⟨x0, x1, x2, x3, x4, x5⟩ := P.out.six
  obtain ⟨y0, y1, y2, y3, y4, y5⟩ := Q.out.six
  cases hbig0 : bigQ bss0
  rotate_left 1
  ·
    go_wp2_with fail
    refine (awake _).mono ?_
    rintro x w9 ⟨rfl, hb⟩
    have B9 := Lib.hid (B.out.trans (hb.mono B.out.size))
    clear hb
    go_wp2_with fail
    go_ret
    exact ⟨rfl, B9.out⟩
  clear hbig0
  go_wp2_with fail
  refine (lGreat ca0 cb0 cd0 ce0 cs0 a1 len1 cap1 bss1 w5 ((S1.out.belowX B.out).moreX B.out.size) HN1.out (fun m hm => by have := HL1.out m hm; omega)).mono ?_
  rintro x w6 ⟨rfl, hb⟩
  replace P := Lib.hid (P.out.to hb)
  replace Q := Lib.hid (Q.out.to hb)
  replace B := Lib.hid (B.out.trans (hb.mono B.out.size))
  clear hb x0 x1 x2 x3 x4 x5 y0 y1 y2 y3 y4 y5
  obtain ⟨x0, x1, x2, x3, x4, x5⟩ := P.out.six
  obtain ⟨y0, y1, y2, y3, y4, y5⟩ := Q.out.six
  cases hbig1 : bigQ bss1
  rotate_left 1
  ·
    go_wp2_with fail
    refine (awake _).mono ?_
    rintro x w9 ⟨rfl, hb⟩
    have B9 := Lib.hid (B.out.trans (hb.mono B.out.size))
    clear hb
    go_wp2_with fail
    go_ret
    exact ⟨rfl, B9.out⟩
  clear hbig1
  by_cases h100 : 100 < len2
  · have hI : (len2 : Int) > 100 := by omega
    go_wp2_with fail
    refine (awake _).mono ?_
    rintro x w9 ⟨rfl, hb⟩
    have B9 := Lib.hid (B.out.trans (hb.mono B.out.size))
    clear hb
    go_wp2_with fail
    go_ret
    exact ⟨rfl, B9.out⟩
  have hI : ¬ (len2 : Int) > 100 := by omega
  have H100 : Hid (len2 ≤ 100) := Nat.not_lt.1 h100
  clear h100
  go_wp2_with fail
  refine (wMayQ ca0 cb0 cd0 ce0 cs0 a0 len0 cap0 bss0 w6 ((S0.out.belowX B.out).moreX B.out.size) HN0.out).mono ?_
  rintro x w7 ⟨rfl, hb⟩
  replace P := Lib.hid (P.out.to hb)
  replace Q := Lib.hid (Q.out.to hb)
  replace B := Lib.hid (B.out.trans (hb.mono B.out.size))
  clear hb x0 x1 x2 x3 x4 x5 y0 y1 y2 y3 y4 y5
  obtain ⟨x0, x1, x2, x3, x4, x5⟩ := P.out.six
  obtain ⟨y0, y1, y2, y3, y4, y5⟩ := Q.out.six
  cases hm0 : mayQ ⟨ca0, cb0, cd0, ce0, cs0⟩ bss0
  ·
    go_wp2_with fail
    refine (awake _).mono ?_
    rintro x w9 ⟨rfl, hb⟩
    have B9 := Lib.hid (B.out.trans (hb.mono B.out.size))
    clear hb
    go_wp2_with fail
    go_ret
    exact ⟨rfl, B9.out⟩
  have HM0 := Lib.hid hm0
  clear hm0
  go_wp2_with fail
  refine (wMayQ ca0 cb0 cd0 ce0 cs0 a1 len1 cap1 bss1 w7 ((S1.out.belowX B.out).moreX B.out.size) HN1.out).mono ?_
  rintro x w8 ⟨rfl, hb⟩
  replace P := Lib.hid (P.out.to hb)
  replace Q := Lib.hid (Q.out.to hb)
  replace B := Lib.hid (B.out.trans (hb.mono B.out.size))
  clear hb x0 x1 x2 x3 x4 x5 y0 y1 y2 y3 y4 y5
  obtain ⟨x0, x1, x2, x3, x4, x5⟩ := P.out.six
  obtain ⟨y0, y1, y2, y3, y4, y5⟩ := Q.out.six
  cases hm1 : mayQ ⟨ca0, cb0, cd0, ce0, cs0⟩ bss1
  ·
    go_wp2_with fail
    refine (awake _).mono ?_
    rintro x w9 ⟨rfl, hb⟩
    have B9 := Lib.hid (B.out.trans (hb.mono B.out.size))
    clear hb
    go_wp2_with fail
    go_ret
    exact ⟨rfl, B9.out⟩
  have HM1 := Lib.hid hm1
  clear hm1
  go_wp2_with fail
  refine (wPut ca0 cb0 cd0 ce0 cs0 a0 a2 len0 cap0 len2 cap2 bss0 msg w8 ((S0.out.belowX B.out).moreX B.out.size) HCAP0.out HN0.out ((R0.out.below B.out).more B.out.size)).mono ?_
  rintro x w9 hP
  by_cases hl : (len2 : Int) > cs0
  · have HLG : Hid (longM ⟨ca0, cb0, cd0, ce0, cs0⟩ msg = true) := by show _ = _; unfold longM; rw [HML.out]; exact decide_eq_true hl
    obtain ⟨A9, k9, rfl, _, hb⟩ := hP.no (z := 3) (by rw [errP_may HM0.out, HLG.out]; rfl) (by decide)
    have hb9 := (Below.refl w9.heap.size w9).alloc (Nat.le_refl _) (.cells #[.int .i64 0, .int .i64 0, .int .i64 0, .int .i64 0, .int .i64 0, .slice A9 0 k9] 26)
    replace hb := hb.trans (hb9.mono hb.size)
    go_upto_region 5 with (fail)
    clear hb9
    generalize w9.alloc (.cells #[.int .i64 0, .int .i64 0, .int .i64 0, .int .i64 0, .int .i64 0, .slice A9 0 k9] 26) = w10 at *
    clear hP
    replace P := Lib.hid (P.out.to hb)
    replace Q := Lib.hid (Q.out.to hb)
    replace B := Lib.hid (B.out.trans (hb.mono B.out.size))
    clear hb x0 x1 x2 x3 x4 x5 y0 y1 y2 y3 y4 y5
    obtain ⟨x0, x1, x2, x3, x4, x5⟩ := P.out.six
    obtain ⟨y0, y1, y2, y3, y4, y5⟩ := Q.out.six
    go_wp2_with fail
    refine (wPut ca0 cb0 cd0 ce0 cs0 a1 a2 len1 cap1 len2 cap2 bss1 msg w10 ((S1.out.belowX B.out).moreX B.out.size) HCAP1.out HN1.out ((R0.out.below B.out).more B.out.size)).mono ?_
    rintro x w11 hP
    obtain ⟨A11, k11, rfl, _, hb⟩ := hP.no (z := 3) (by rw [errP_may HM1.out, HLG.out]; rfl) (by decide)
    have hb11 := (Below.refl w11.heap.size w11).alloc (Nat.le_refl _) (.cells #[.int .i64 0, .int .i64 0, .int .i64 0, .int .i64 0, .int .i64 0, .slice A11 0 k11] 26)
    replace hb := hb.trans (hb11.mono hb.size)
    go_upto_region 6 with (fail)
    clear hb11
    generalize w11.alloc (.cells #[.int .i64 0, .int .i64 0, .int .i64 0, .int .i64 0, .int .i64 0, .slice A11 0 k11] 26) = w12 at *
    clear hP
    replace P := Lib.hid (P.out.to hb)
    replace Q := Lib.hid (Q.out.to hb)
    replace B := Lib.hid (B.out.trans (hb.mono B.out.size))
    clear hb x0 x1 x2 x3 x4 x5 y0 y1 y2 y3 y4 y5
    obtain ⟨x0, x1, x2, x3, x4, x5⟩ := P.out.six
    obtain ⟨y0, y1, y2, y3, y4, y5⟩ := Q.out.six
    go_wp2_with fail
    refine (awake _).mono ?_
    rintro x w9 ⟨rfl, hb⟩
    have B9 := Lib.hid (B.out.trans (hb.mono B.out.size))
    clear hb
    go_wp2_with fail
    go_ret
    exact ⟨rfl, B9.out⟩
  have HLG : Hid (longM ⟨ca0, cb0, cd0, ce0, cs0⟩ msg = false) := by show _ = _; unfold longM; rw [HML.out]; exact decide_eq_false hl
  obtain ⟨A9, n9, k9, rfl, ho, hk, hk', hb⟩ := hP.get (by rw [errP_may HM0.out, HLG.out]; rfl)
  have hb9 := (Below.refl w9.heap.size w9).alloc (Nat.le_refl _) (.cells #[.int .i64 ca0, .int .i64 cb0, .int .i64 cd0, .int .i64 ce0, .int .i64 cs0, .slice A9 n9 k9] 26)
  replace hb := hb.trans (hb9.mono hb.size)
  have O9 := Lib.hid (ho.to hb9)
  have T7 := Lib.hid (Qx.new w9 ca0 cb0 cd0 ce0 cs0 (.slice A9 n9 k9) 26)
  go_upto_region 5 with (fail)
  clear hb9 ho hk hk' hP
  generalize w9.alloc (.cells #[.int .i64 ca0, .int .i64 cb0, .int .i64 cd0, .int .i64 ce0, .int .i64 cs0, .slice A9 n9 k9] 26) = w10 at *
  replace P := Lib.hid (P.out.to hb)
  replace Q := Lib.hid (Q.out.to hb)
  replace B := Lib.hid (B.out.trans (hb.mono B.out.size))
  clear hb x0 x1 x2 x3 x4 x5 y0 y1 y2 y3 y4 y5
  obtain ⟨x0, x1, x2, x3, x4, x5⟩ := P.out.six
  obtain ⟨y0, y1, y2, y3, y4, y5⟩ := Q.out.six
  go_wp2_with fail
  refine (wPut ca0 cb0 cd0 ce0 cs0 a1 a2 len1 cap1 len2 cap2 bss1 msg w10 ((S1.out.belowX B.out).moreX B.out.size) HCAP1.out HN1.out ((R0.out.below B.out).more B.out.size)).mono ?_
  rintro x w11 hP
  obtain ⟨A11, n11, k11, rfl, ho, hk, hk', hb⟩ := hP.get (by rw [errP_may HM1.out, HLG.out]; rfl)
  have hb11 := (Below.refl w11.heap.size w11).alloc (Nat.le_refl _) (.cells #[.int .i64 ca0, .int .i64 cb0, .int .i64 cd0, .int .i64 ce0, .int .i64 cs0, .slice A11 n11 k11] 26)
  replace hb := hb.trans (hb11.mono hb.size)
  have O11 := Lib.hid (ho.to hb11)
  have T9 := Lib.hid (Qx.new w11 ca0 cb0 cd0 ce0 cs0 (.slice A11 n11 k11) 26)
  replace O9 := Lib.hid (O9.out.to hb)
  replace T7 := Lib.hid (T7.out.to hb)
  go_upto_region 6 with (fail)
  clear hb11 ho hk hk' hP
  generalize w11.alloc (.cells #[.int .i64 ca0, .int .i64 cb0, .int .i64 cd0, .int .i64 ce0, .int .i64 cs0, .slice A11 n11 k11] 26) = w12 at *
  replace P := Lib.hid (P.out.to hb)
  replace Q := Lib.hid (Q.out.to hb)
  replace B := Lib.hid (B.out.trans (hb.mono B.out.size))
  clear hb x0 x1 x2 x3 x4 x5 y0 y1 y2 y3 y4 y5
  obtain ⟨x0, x1, x2, x3, x4, x5⟩ := P.out.six
  obtain ⟨y0, y1, y2, y3, y4, y5⟩ := Q.out.six
  have hle : (len2 : Int) ≤ cs0 := by omega
  obtain ⟨q9, b9, o9, Am9, cm9, rfl, rfl, hc9, hr9⟩ := put_last O9.out
  obtain ⟨q11, b11, o11, Am11, cm11, rfl, rfl, hc11, hr11⟩ := put_last O11.out
  have hz9 : (((q9 : Int) + 1) == 0) = false := by simp; omega
  have hz11 : (((q11 : Int) + 1) == 0) = false := by simp; omega
  have hy9 : ¬ ((q9 : Int) + 1) = 0 := by omega
  have hy11 : ¬ ((q11 : Int) + 1) = 0 := by omega
  obtain ⟨z0, z1, z2, z3, z4, z5⟩ := T7.out.six
  obtain ⟨v0, v1, v2, v3, v4, v5⟩ := T9.out.six
  go_wp2_with fail
  have HQ9 : Hid (q9 ≤ 100000) := by (show _ ≤ _); have h1 := O9.out.1; rw [List.length_map] at h1; have h2 := (mayQ_lens (putM_may HM0.out HLG.out)).1; omega
  have HQ11 : Hid (q11 ≤ 100000) := by (show _ ≤ _); have h1 := O11.out.1; rw [List.length_map] at h1; have h2 := (mayQ_lens (putM_may HM1.out HLG.out)).1; omega
  have SK : Hid (∀ w', Below w12.heap.size w12 w' → ((w'.cell? ⟨w9.heap.size, 0, none⟩ = some (.int .i64 ca0) ∧ w'.cell? ⟨w9.heap.size, 1, none⟩ = some (.int .i64 cb0) ∧ w'.cell? ⟨w9.heap.size, 2, none⟩ = some (.int .i64 cd0) ∧ w'.cell? ⟨w9.heap.size, 3, none⟩ = some (.int .i64 ce0) ∧ w'.cell? ⟨w9.heap.size, 4, none⟩ = some (.int .i64 cs0) ∧ w'.cell? ⟨w9.heap.size, 5, none⟩ = some (.slice (some ⟨b9, o9, none⟩) (q9 + 1) k9)) ∧ w'.cell? ⟨w11.heap.size, 5, none⟩ = some (.slice (some ⟨b11, o11, none⟩) (q11 + 1) k11) ∧ w'.cell? ⟨b9, o9 + q9, none⟩ = some (.slice Am9 msg.length cm9) ∧ w'.cell? ⟨b11, o11 + q11, none⟩ = some (.slice Am11 msg.length cm11)) ∧ Rd w' w'.heap.size Am9 msg.length msg ∧ Rd w' w'.heap.size Am11 msg.length msg ∧ Rd w' w'.heap.size a2 len2 msg) := fun W hW =>
    ⟨⟨(T7.out.to hW).six, (T9.out.to hW).c5, (hW.cell (p := ⟨_, _, none⟩) (cell_block hc9)).trans hc9, (hW.cell (p := ⟨_, _, none⟩) (cell_block hc11)).trans hc11⟩, hr9.to hW, hr11.to hW, (((R0.out.below B.out).more B.out.size).to hW)⟩
  obtain ⟨wd, hwd⟩ : ∃ wd, w12.drew = wd := ⟨_, rfl⟩
  clear x0 x1 x2 x3 x4 x5 y0 y1 y2 y3 y4 y5 z0 z1 z2 z3 z4 z5 v0 v1 v2 v3 v4 v5 hz9 hz11 hc9 hc11 hr9 hr11 hle hl hI
  refine wp_region_held_drew (S := (fun w' => ((w'.cell? ⟨w9.heap.size, 0, none⟩ = some (.int .i64 ca0) ∧ w'.cell? ⟨w9.heap.size, 1, none⟩ = some (.int .i64 cb0) ∧ w'.cell? ⟨w9.heap.size, 2, none⟩ = some (.int .i64 cd0) ∧ w'.cell? ⟨w9.heap.size, 3, none⟩ = some (.int .i64 ce0) ∧ w'.cell? ⟨w9.heap.size, 4, none⟩ = some (.int .i64 cs0) ∧ w'.cell? ⟨w9.heap.size, 5, none⟩ = some (.slice (some ⟨b9, o9, none⟩) (q9 + 1) k9)) ∧ w'.cell? ⟨w11.heap.size, 5, none⟩ = some (.slice (some ⟨b11, o11, none⟩) (q11 + 1) k11) ∧ w'.cell? ⟨b9, o9 + q9, none⟩ = some (.slice Am9 msg.length cm9) ∧ w'.cell? ⟨b11, o11 + q11, none⟩ = some (.slice Am11 msg.length cm11)) ∧ Rd w' w'.heap.size Am9 msg.length msg ∧ Rd w' w'.heap.size Am11 msg.length msg ∧ Rd w' w'.heap.size a2 len2 msg)) (by kernel_rfl) (SK.out _ ((Below.refl _ _).drew)) (fun hHeld => ?_)
  have BD : Hid (Below w12.heap.size w12 wd) := by rw [← hwd]; exact (Below.refl _ _).drew
  rw [hwd] at hHeld ⊢
  clear hwd
  have hw9 : IntKind.i64.wrap ((q9 : Int) + 1 - 1) = (q9 : Int) := by have := HQ9.out; rw [IntKind.wrap_i64]; omega
  have hw11 : IntKind.i64.wrap ((q11 : Int) + 1 - 1) = (q11 : Int) := by have := HQ11.out; rw [IntKind.wrap_i64]; omega
  have hv9 : IntKind.i64.wrap (q9 : Int) = (q9 : Int) := by have := HQ9.out; rw [IntKind.wrap_i64]; omega
  have hv11 : IntKind.i64.wrap (q11 : Int) = (q11 : Int) := by have := HQ11.out; rw [IntKind.wrap_i64]; omega
  have hn9 : q9 < q9 + 1 := Nat.lt_succ_self _
  have hn11 : q11 < q11 + 1 := Nat.lt_succ_self _
  have hi9 : (q9 : Int) < (q9 : Int) + 1 := by omega
  have hi11 : (q11 : Int) < (q11 : Int) + 1 := by omega
  refine wpAnyH_take (i := 0) (v := ?_) rfl (by kernel_rfl) (by kernel_rfl) (by kernel_rfl) (fun _ _ _ h => h) (Or.inl ⟨by rfl, ?_⟩) (by assumption) ?_
  rotate_left 1
  · intro w hSw; (try dsimp only at hSw); go_simp; (try with_reducible rfl)
  simp only [Act.put, List.getElem_toArray, List.getElem_cons_zero, List.getElem_cons_succ, List.setIfInBounds_toArray, List.set_cons_zero, List.set_cons_succ]
  refine wpAnyH_take (i := 1) (v := ?_) rfl (by kernel_rfl) (by kernel_rfl) (by kernel_rfl) (fun _ _ _ h => h) (Or.inl ⟨by rfl, ?_⟩) (by assumption) ?_
  rotate_left 1
  · intro w hSw; (try dsimp only at hSw); go_simp; (try with_reducible rfl)
  simp only [Act.put, List.getElem_toArray, List.getElem_cons_zero, List.getElem_cons_succ, List.setIfInBounds_toArray, List.set_cons_zero, List.set_cons_succ]
  refine wpAnyH_take (i := 2) (v := ?_) rfl (by kernel_rfl) (by kernel_rfl) (by kernel_rfl) (fun _ _ _ h => h) (Or.inl ⟨by rfl, ?_⟩) (by assumption) ?_
  rotate_left 1
  · intro w hSw; (try dsimp only at hSw); go_simp; (try with_reducible rfl)
  simp only [Act.put, List.getElem_toArray, List.getElem_cons_zero, List.getElem_cons_succ, List.setIfInBounds_toArray, List.set_cons_zero, List.set_cons_succ]
  refine wpAnyH_take (i := 3) (v := ?_) rfl (by kernel_rfl) (by kernel_rfl) (by kernel_rfl) (fun _ _ _ h => h) (Or.inl ⟨by rfl, ?_⟩) (by assumption) ?_
  rotate_left 1
  · intro w hSw; (try dsimp only at hSw); go_simp; (try with_reducible rfl)
  simp only [Act.put, List.getElem_toArray, List.getElem_cons_zero, List.getElem_cons_succ, List.setIfInBounds_toArray, List.set_cons_zero, List.set_cons_succ]
  refine wpAnyH_take (i := 4) (v := ?_) rfl (by kernel_rfl) (by kernel_rfl) (by kernel_rfl) (fun _ _ _ h => h) (Or.inl ⟨by rfl, ?_⟩) (by assumption) ?_
  rotate_left 1
  · intro w hSw; (try dsimp only at hSw); go_simp; (try with_reducible rfl)
  simp only [Act.put, List.getElem_toArray, List.getElem_cons_zero, List.getElem_cons_succ, List.setIfInBounds_toArray, List.set_cons_zero, List.set_cons_succ]
  refine wpAnyH_take (i := 5) (v := ?_) rfl (by kernel_rfl) (by kernel_rfl) (by kernel_rfl) (fun _ _ _ h => h) (Or.inl ⟨by rfl, ?_⟩) (by assumption) ?_
  rotate_left 1
  · intro w hSw; (try dsimp only at hSw); go_simp; (try with_reducible rfl)
  simp only [Act.put, List.getElem_toArray, List.getElem_cons_zero, List.getElem_cons_succ, List.setIfInBounds_toArray, List.set_cons_zero, List.set_cons_succ]
  refine wpAnyH_take (i := 6) (v := ?_) rfl (by kernel_rfl) (by kernel_rfl) (by kernel_rfl) (fun _ _ _ h => h) (Or.inl ⟨by rfl, ?_⟩) (by assumption) ?_
  rotate_left 1
  · intro w hSw; (try dsimp only at hSw); go_simp; (try with_reducible rfl)
  simp only [Act.put, List.getElem_toArray, List.getElem_cons_zero, List.getElem_cons_succ, List.setIfInBounds_toArray, List.set_cons_zero, List.set_cons_succ]
  refine wpAnyH_take (i := 7) (v := ?_) rfl (by kernel_rfl) (by kernel_rfl) (by kernel_rfl) (fun _ _ _ h => h) (Or.inl ⟨by rfl, ?_⟩) (by assumption) ?_
  rotate_left 1
  · intro w hSw; (try dsimp only at hSw); go_simp; (try with_reducible rfl)
  simp only [Act.put, List.getElem_toArray, List.getElem_cons_zero, List.getElem_cons_succ, List.setIfInBounds_toArray, List.set_cons_zero, List.set_cons_succ]
  refine wpAnyH_take (i := 8) (v := ?_) rfl (by kernel_rfl) (by kernel_rfl) (by kernel_rfl) (fun _ _ _ h => h) (Or.inl ⟨by rfl, ?_⟩) (by assumption) ?_
  rotate_left 1
  · intro w hSw; (try dsimp only at hSw); have hcv := hSw.2.1.str (c := cm9); go_simp; (try with_reducible rfl)
  simp only [Act.put, List.getElem_toArray, List.getElem_cons_zero, List.getElem_cons_succ, List.setIfInBounds_toArray, List.set_cons_zero, List.set_cons_succ]
  refine wpAnyH_take (i := 9) (v := ?_) rfl (by kernel_rfl) (by kernel_rfl) (by kernel_rfl) (fun _ _ _ h => h) (Or.inl ⟨by rfl, ?_⟩) (by assumption) ?_
  rotate_left 1
  · intro w hSw; (try dsimp only at hSw); go_simp; (try with_reducible rfl)
  simp only [Act.put, List.getElem_toArray, List.getElem_cons_zero, List.getElem_cons_succ, List.setIfInBounds_toArray, List.set_cons_zero, List.set_cons_succ]
  refine wpAnyH_take (i := 10) (v := ?_) rfl (by kernel_rfl) (by kernel_rfl) (by kernel_rfl) (fun _ _ _ h => h) (Or.inl ⟨by rfl, ?_⟩) (by assumption) ?_
  rotate_left 1
  · intro w hSw; (try dsimp only at hSw); have hcv := hSw.2.2.2.str (c := cap2); go_simp; (try with_reducible rfl)
  simp only [Act.put, List.getElem_toArray, List.getElem_cons_zero, List.getElem_cons_succ, List.setIfInBounds_toArray, List.set_cons_zero, List.set_cons_succ]
  refine wpAnyH_take (i := 11) (v := ?_) rfl (by kernel_rfl) (by kernel_rfl) (by kernel_rfl) (fun _ _ _ h => h) (Or.inl ⟨by rfl, ?_⟩) (by assumption) ?_
  rotate_left 1
  · intro w hSw; (try dsimp only at hSw); go_simp; (try with_reducible rfl)
  simp only [Act.put, List.getElem_toArray, List.getElem_cons_zero, List.getElem_cons_succ, List.setIfInBounds_toArray, List.set_cons_zero, List.set_cons_succ]
  refine wpAnyH_take (i := 12) (v := ?_) rfl (by kernel_rfl) (by kernel_rfl) (by kernel_rfl) (fun _ _ _ h => h) (Or.inl ⟨by rfl, ?_⟩) (by assumption) ?_
  rotate_left 1
  · intro w hSw; (try dsimp only at hSw); go_simp; (try with_reducible rfl)
  simp only [Act.put, List.getElem_toArray, List.getElem_cons_zero, List.getElem_cons_succ, List.setIfInBounds_toArray, List.set_cons_zero, List.set_cons_succ]
  refine wpAnyH_take (i := 13) (v := ?_) rfl (by kernel_rfl) (by kernel_rfl) (by kernel_rfl) (fun _ _ _ h => h) (Or.inl ⟨by rfl, ?_⟩) (by assumption) ?_
  rotate_left 1
  · intro w hSw; (try dsimp only at hSw); go_simp; (try with_reducible rfl)
  simp only [Act.put, List.getElem_toArray, List.getElem_cons_zero, List.getElem_cons_succ, List.setIfInBounds_toArray, List.set_cons_zero, List.set_cons_succ]
  refine wpAnyH_take (i := 14) (v := ?_) rfl (by kernel_rfl) (by kernel_rfl) (by kernel_rfl) (fun _ _ _ h => h) (Or.inl ⟨by rfl, ?_⟩) (by assumption) ?_
  rotate_left 1
  · intro w hSw; (try dsimp only at hSw); go_simp; (try with_reducible rfl)
  simp only [Act.put, List.getElem_toArray, List.getElem_cons_zero, List.getElem_cons_succ, List.setIfInBounds_toArray, List.set_cons_zero, List.set_cons_succ]
  refine wpAnyH_take (i := 15) (v := ?_) rfl (by kernel_rfl) (by kernel_rfl) (by kernel_rfl) (fun _ _ _ h => h) (Or.inl ⟨by rfl, ?_⟩) (by assumption) ?_
  rotate_left 1
  · intro w hSw; (try dsimp only at hSw); go_simp; (try with_reducible rfl)
  simp only [Act.put, List.getElem_toArray, List.getElem_cons_zero, List.getElem_cons_succ, List.setIfInBounds_toArray, List.set_cons_zero, List.set_cons_succ]
  refine wpAnyH_take (i := 16) (v := ?_) rfl (by kernel_rfl) (by kernel_rfl) (by kernel_rfl) (fun _ _ _ h => h) (Or.inl ⟨by rfl, ?_⟩) (by assumption) ?_
  rotate_left 1
  · intro w hSw; (try dsimp only at hSw); go_simp; (try with_reducible rfl)
  simp only [Act.put, List.getElem_toArray, List.getElem_cons_zero, List.getElem_cons_succ, List.setIfInBounds_toArray, List.set_cons_zero, List.set_cons_succ]
  refine wpAnyH_take (i := 17) (v := ?_) rfl (by kernel_rfl) (by kernel_rfl) (by kernel_rfl) (fun _ _ _ h => h) (Or.inl ⟨by rfl, ?_⟩) (by assumption) ?_
  rotate_left 1
  · intro w hSw; (try dsimp only at hSw); go_simp; (try with_reducible rfl)
  simp only [Act.put, List.getElem_toArray, List.getElem_cons_zero, List.getElem_cons_succ, List.setIfInBounds_toArray, List.set_cons_zero, List.set_cons_succ]
  refine wpAnyH_take (i := 18) (v := ?_) rfl (by kernel_rfl) (by kernel_rfl) (by kernel_rfl) (fun _ _ _ h => h) (Or.inl ⟨by rfl, ?_⟩) (by assumption) ?_
  rotate_left 1
  · intro w hSw; (try dsimp only at hSw); go_simp; (try with_reducible rfl)
  simp only [Act.put, List.getElem_toArray, List.getElem_cons_zero, List.getElem_cons_succ, List.setIfInBounds_toArray, List.set_cons_zero, List.set_cons_succ]
  refine wpAnyH_take (i := 19) (v := ?_) rfl (by kernel_rfl) (by kernel_rfl) (by kernel_rfl) (fun _ _ _ h => h) (Or.inl ⟨by rfl, ?_⟩) (by assumption) ?_
  rotate_left 1
  · intro w hSw; (try dsimp only at hSw); go_simp; (try with_reducible rfl)
  simp only [Act.put, List.getElem_toArray, List.getElem_cons_zero, List.getElem_cons_succ, List.setIfInBounds_toArray, List.set_cons_zero, List.set_cons_succ]
  refine wpAnyH_take (i := 20) (v := ?_) rfl (by kernel_rfl) (by kernel_rfl) (by kernel_rfl) (fun _ _ _ h => h) (Or.inl ⟨by rfl, ?_⟩) (by assumption) ?_
  rotate_left 1
  · intro w hSw; (try dsimp only at hSw); go_simp; (try with_reducible rfl)
  simp only [Act.put, List.getElem_toArray, List.getElem_cons_zero, List.getElem_cons_succ, List.setIfInBounds_toArray, List.set_cons_zero, List.set_cons_succ]
  refine wpAnyH_take (i := 21) (v := ?_) rfl (by kernel_rfl) (by kernel_rfl) (by kernel_rfl) (fun _ _ _ h => h) (Or.inl ⟨by rfl, ?_⟩) (by assumption) ?_
  rotate_left 1
  · intro w hSw; (try dsimp only at hSw); have hcv := hSw.2.2.1.str (c := cm11); go_simp; (try with_reducible rfl)
  simp only [Act.put, List.getElem_toArray, List.getElem_cons_zero, List.getElem_cons_succ, List.setIfInBounds_toArray, List.set_cons_zero, List.set_cons_succ]
  refine wpAnyH_take (i := 22) (v := ?_) rfl (by kernel_rfl) (by kernel_rfl) (by kernel_rfl) (fun _ _ _ h => h) (Or.inl ⟨by rfl, ?_⟩) (by assumption) ?_
  rotate_left 1
  · intro w hSw; (try dsimp only at hSw); go_simp; (try with_reducible rfl)
  simp only [Act.put, List.getElem_toArray, List.getElem_cons_zero, List.getElem_cons_succ, List.setIfInBounds_toArray, List.set_cons_zero, List.set_cons_succ]
  refine wpAnyH_take (i := 23) (v := ?_) rfl (by kernel_rfl) (by kernel_rfl) (by kernel_rfl) (fun _ _ _ h => h) (Or.inl ⟨by rfl, ?_⟩) (by assumption) ?_
  rotate_left 1
  · intro w hSw; (try dsimp only at hSw); have hcv := hSw.2.2.2.str (c := cap2); go_simp; (try with_reducible rfl)
  simp only [Act.put, List.getElem_toArray, List.getElem_cons_zero, List.getElem_cons_succ, List.setIfInBounds_toArray, List.set_cons_zero, List.set_cons_succ]
  refine wpAnyH_take (i := 24) (v := ?_) rfl (by kernel_rfl) (by kernel_rfl) (by kernel_rfl) (fun _ _ _ h => h) (Or.inl ⟨by rfl, ?_⟩) (by assumption) ?_
  rotate_left 1
  · intro w hSw; (try dsimp only at hSw); go_simp; (try with_reducible rfl)
  simp only [Act.put, List.getElem_toArray, List.getElem_cons_zero, List.getElem_cons_succ, List.setIfInBounds_toArray, List.set_cons_zero, List.set_cons_succ]
  refine wpAnyH_take (i := 25) (v := ?_) rfl (by kernel_rfl) (by kernel_rfl) (by kernel_rfl) (fun _ _ _ h => h) (Or.inl ⟨by rfl, ?_⟩) (by assumption) ?_
  rotate_left 1
  · intro w hSw; (try dsimp only at hSw); go_simp; (try with_reducible rfl)
  simp only [Act.put, List.getElem_toArray, List.getElem_cons_zero, List.getElem_cons_succ, List.setIfInBounds_toArray, List.set_cons_zero, List.set_cons_succ]
  refine wpAnyH_take (i := 26) (v := ?_) rfl (by kernel_rfl) (by kernel_rfl) (by kernel_rfl) (fun _ _ _ h => h) (Or.inl ⟨by rfl, ?_⟩) (by assumption) ?_
  rotate_left 1
  · intro w hSw; (try dsimp only at hSw); go_simp; (try with_reducible rfl)
  simp only [Act.put, List.getElem_toArray, List.getElem_cons_zero, List.getElem_cons_succ, List.setIfInBounds_toArray, List.set_cons_zero, List.set_cons_succ]
  refine wpAnyH_take (i := 27) (v := ?_) rfl (by kernel_rfl) (by kernel_rfl) (by kernel_rfl) (fun _ _ _ h => h) (Or.inl ⟨by rfl, ?_⟩) (by assumption) ?_
  rotate_left 1
  · intro w hSw; (try dsimp only at hSw); go_simp; (try with_reducible rfl)
  simp only [Act.put, List.getElem_toArray, List.getElem_cons_zero, List.getElem_cons_succ, List.setIfInBounds_toArray, List.set_cons_zero, List.set_cons_succ]
  refine wpAnyH_ready (rs := [28]) (by kernel_rfl) (by simp) ?_
  refine AllReadyH.cons rfl (fun K hK => ?_) AllReadyH.nil
  go_simp
  refine (wMayQ ca0 cb0 cd0 ce0 cs0 (some ⟨b9, o9, none⟩) (q9 + 1) k9 (putM ⟨ca0, cb0, cd0, ce0, cs0⟩ bss0 msg) wd (O9.out.to BD.out).full (by have := HQ9.out; omega)).mono ?_
  rintro x1 w13 ⟨rfl, hb⟩
  rw [putM_may HM0.out HLG.out]
  replace BD := Lib.hid (BD.out.trans (hb.mono BD.out.size))
  clear hb
  go_wp2_with fail
  refine hK.out _ _ (SK.out _ BD.out) (fun hHeld => ?_)
  clear hK K
  refine wpAnyH_take (i := 29) (v := ?_) rfl (by kernel_rfl) (by kernel_rfl) (by kernel_rfl) (fun _ _ _ h => h) (Or.inl ⟨by rfl, ?_⟩) (by assumption) ?_
  rotate_left 1
  · intro w hSw; (try dsimp only at hSw); go_simp; (try with_reducible rfl)
  simp only [Act.put, List.getElem_toArray, List.getElem_cons_zero, List.getElem_cons_succ, List.setIfInBounds_toArray, List.set_cons_zero, List.set_cons_succ]
  refine wpAnyH_take (i := 30) (v := ?_) rfl (by kernel_rfl) (by kernel_rfl) (by kernel_rfl) (fun _ _ _ h => h) (Or.inl ⟨by rfl, ?_⟩) (by assumption) ?_
  rotate_left 1
  · intro w hSw; (try dsimp only at hSw); go_simp; (try with_reducible rfl)
  simp only [Act.put, List.getElem_toArray, List.getElem_cons_zero, List.getElem_cons_succ, List.setIfInBounds_toArray, List.set_cons_zero, List.set_cons_succ]
  refine wpAnyH_ready (rs := [31]) (by kernel_rfl) (by simp) ?_
  refine AllReadyH.cons rfl (fun K hK => ?_) AllReadyH.nil
  go_simp
  refine (awake w13).mono ?_
  rintro x1 w14 ⟨rfl, hb⟩
  replace BD := Lib.hid (BD.out.trans (hb.mono BD.out.size))
  clear hb
  go_wp2_with fail
  refine hK.out _ _ (SK.out _ BD.out) (fun hHeld => ?_)
  clear hK K
  refine wpAnyH_take (i := 32) (v := ?_) rfl (by kernel_rfl) (by kernel_rfl) (by kernel_rfl) (fun _ _ _ h => h) (Or.inl ⟨by rfl, ?_⟩) (by assumption) ?_
  rotate_left 1
  · intro w hSw; (try dsimp only at hSw); go_simp; (try with_reducible rfl)
  simp only [Act.put, List.getElem_toArray, List.getElem_cons_zero, List.getElem_cons_succ, List.setIfInBounds_toArray, List.set_cons_zero, List.set_cons_succ]
  refine wpAnyH_take (i := 33) (v := ?_) rfl (by kernel_rfl) (by kernel_rfl) (by kernel_rfl) (fun _ _ _ h => h) (Or.inl ⟨by rfl, ?_⟩) (by assumption) ?_
  rotate_left 1
  · intro w hSw; (try dsimp only at hSw); go_simp; (try with_reducible rfl)
  simp only [Act.put, List.getElem_toArray, List.getElem_cons_zero, List.getElem_cons_succ, List.setIfInBounds_toArray, List.set_cons_zero, List.set_cons_succ]
  refine wpAnyH_done (by kernel_rfl) ?_ _
  clear hHeld
  go_wp2_with fail
  go_ret
  exact ⟨rfl, B.out.trans (BD.out.mono B.out.size)⟩

set_option maxRecDepth 100000 in
theorem lifted (os : Os) (started : os.Started) (H : Type) (enc : TypeId × Value → H) :
    ReturnsInHanded {} Try.checked os 7 .any (Rows.channelBlindSpec.pre6 enc Try.prog Try.f7 Rows.channelBlindRow.domain false) (Rows.channelBlindSpec.post enc Try.prog Try.f7 false true false false) := by
  refine returnsInHanded_of_change_sized (C := Try.checked) own started (by kernel_rfl) Try.func7
    (ChangeSpec.witness6 (enc := enc) (C := Try.checked) false ⟨#[], #[.agg #[.int .i64 0, .int .i64 0, .int .i64 0, .int .i64 0, .int .i64 0, .slice none 0 0], .agg #[.int .i64 0, .int .i64 0, .int .i64 0, .int .i64 0, .int .i64 0, .slice none 0 0], .slice none 0 0], []⟩ 8 (by kernel_rfl) (by kernel_rfl) (by kernel_rfl) (by kernel_rfl)) ?_
  intro W base args ds gs before hval0 hW hcnd hsz0 _
  have hval : ∀ (j : Nat) t v, Try.f7.params[j]? = some t → args[j]? = some v → Value.okWide Try.prog W .any base t v := hval0
  have hsz : (DataW.weightsEach Try.prog (Try.f7.params.toList ++ Rows.channelBlindSpec.plain.varTypes Try.prog) (ds ++ gs)).all (· ≤ reachBytes) = true := hsz0
  have hW' := hW
  obtain ⟨p, q, hA0, hV, rfl, hfz, hnd⟩ := hW
  have hA : DataW.TrodAll enc Try.prog W 0 (fun _ => true) true Try.f7.params.toList args.toList ds p := hA0
  rw [Try.params7] at hA hval hsz
  obtain ⟨v0, vs0, d0, ds0, p0, q0, hargs, rfl, rfl, h0, r0⟩ := trodAll_cons hA
  obtain ⟨v1, vs1, d1, ds1, p1, q1, rfl, rfl, rfl, h1, r1⟩ := trodAll_cons r0
  obtain ⟨v2, vs2, d2, ds2, p2, q2, rfl, rfl, rfl, h2, r2⟩ := trodAll_cons r1
  obtain ⟨rfl, rfl, rfl⟩ := trodAll_nil r2
  obtain rfl : args = #[v0, v1, v2] := by cases args; simp_all
  obtain ⟨rfl, rfl⟩ := trodVars_none hV
  have sz0 : ∀ x ∈ d0.weights Try.prog 26, x ≤ reachBytes := fun x hx => by simpa using List.all_eq_true.1 hsz _ (DataW.weights_mem_each (j := 0) rfl rfl x hx)
  have sz1 : ∀ x ∈ d1.weights Try.prog 26, x ≤ reachBytes := fun x hx => by simpa using List.all_eq_true.1 hsz _ (DataW.weights_mem_each (j := 1) rfl rfl x hx)
  have k0 := h0
  have lt0 : ∀ x ∈ p0, x.block < W.heap.size := by obtain ⟨m, hm⟩ := k0; exact DataW.trod_lt m _ _ _ hm
  obtain ⟨c0, a0, len0, cap0, bss0, rfl, _, w0⟩ := open_queue (hval 0 26 v0 rfl rfl) h0 sz0
  have k1 := h1
  have lt1 : ∀ x ∈ p1, x.block < W.heap.size := by obtain ⟨m, hm⟩ := k1; exact DataW.trod_lt m _ _ _ hm
  obtain ⟨c1, a1, len1, cap1, bss1, rfl, _, w1⟩ := open_queue (hval 1 26 v1 rfl rfl) h1 sz1
  obtain ⟨a2, len2, cap2, rfl⟩ := okWide_slice Try.underlying27 (hval 2 27 v2 rfl rfl)
  have k2 := h2
  have lt2 : ∀ x ∈ p2, x.block < W.heap.size := by obtain ⟨m, hm⟩ := k2; exact DataW.trod_lt m _ _ _ hm
  obtain ⟨z2, w2⟩ : ∃ zs, IsRow .u8 W a2 len2 cap2 zs := by
    obtain ⟨fuel, hf⟩ := h2
    rcases open_ints Try.underlying27 Try.underlying5 (by kernel_rfl) hf with ⟨hcs, _⟩ | ⟨x, l, c, zs, hcs, _, hl, hm, hz, _, hcell, hwz⟩
    · simp [Value.cells] at hcs
      obtain ⟨rfl, rfl, rfl⟩ := hcs
      exact ⟨[], .inl ⟨rfl, rfl, rfl, rfl⟩⟩
    · simp [Value.cells] at hcs
      obtain ⟨rfl, rfl, rfl⟩ := hcs
      exact ⟨zs, .inr ⟨_, rfl, hl, hm, by simpa using hz, hcell, hwz⟩⟩
  clear hA0 hval0
  refine (walk c0.id c0.fr c0.dst c0.cap c0.size a0 len0 cap0 bss0 c1.id c1.fr c1.dst c1.cap c1.size a1 len1 cap1 bss1 a2 len2 cap2 z2 W w0 w1 w2).mono fun e W' ⟨he, bel⟩ => ?_
  subst he
  exact ⟨_, rfl, _, _, _, [], _, [], hW', trodAll_mk1 (shut_bool Try.underlying4 _), (trodAll_cons_mk (Below.trod laidOut (by kernel_rfl) (of_decide_eq_true (by kernel_rfl)) k0 bel lt0) (trodAll_cons_mk (Below.trod laidOut (by kernel_rfl) (of_decide_eq_true (by kernel_rfl)) k1 bel lt1) (trodAll_cons_mk (Below.trod laidOut (by kernel_rfl) (of_decide_eq_true (by kernel_rfl)) k2 bel lt2) trodAll_mk0))), rfl, bel.frame _, fun h => by cases h⟩

theorem over : Rows.channelBlindRow.holds Try.pinned (OpenSpec.ofChange Rows.channelBlindSpec) :=
  OpenClaim.holds_of_wide 7 Try.f7 rfl rfl rfl rfl rfl rfl rfl ⟨rfl, rfl, rfl, rfl, rfl⟩ rfl rfl rfl rfl rfl (by kernel_rfl) Try.func7 (by kernel_rfl)
    (of_decide_eq_true (by kernel_rfl)) (by unfold Func.isWrapper; first | (rw [if_pos (by decide +kernel)]; kernel_rfl) | (rw [if_neg (by decide +kernel)]; exact ⟨rfl, rfl⟩))
    (fun os started H enc _ => lifted os started H enc)

theorem proved : Rows.ChannelBlindSaid := over
end Go.Proofs.Ytkaobafgecoomaa.channelBlind
