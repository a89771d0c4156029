/- Several texts in one (a claim has 60 files at most): FrameM, FrameW. -/
import Derived.Test.YtffdjnhhmfpkgaaGreatTz
import Derived.Test.YtffdjnhhmfpkgaaGreatR4
import Derived.Test.YtffdjnhhmfpkgaaGreatPad
import Derived.Test.YtffdjnhhmfpkgaaGreatRB
import Derived.Deep.RegionHeld
import Derived.Deep.RegionLaw
namespace Go.Proofs.YtffdjnhhmfpkgaaGreat
set_option maxRecDepth 1000000
set_option maxHeartbeats 8000000
set_option linter.unusedVariables false
set_option linter.unusedSimpArgs false
section
open Go.RowKit
def headL (k : UInt8) (xs : List UInt8) : List UInt8 := k :: UInt8.ofNat xs.length :: xs
def fbody (k : UInt8) (xs : List UInt8) : List UInt8 := padTo (headL k xs) 60
def frm (k : UInt8) (xs : List UInt8) : List UInt8 := fbody k xs ++ enc (crcSum (fbody k xs)) 4
def payl (s : List UInt8) : List UInt8 := (s.take (2 + nth s 1)).drop 2
def frOk (s : List UInt8) : Bool := decide (s.length = 64 ∧ chkOk s = true ∧ nth s 1 ≤ 58 ∧ s.take 60 = padTo (s.take (2 + nth s 1)) 60)
def kindOf (s : List UInt8) : Nat := if frOk s then nth s 0 else 0
def openOk (k : UInt8) (s : List UInt8) : Bool := frOk s && decide (nth s 0 = k.toNat)
def openOf (k : UInt8) (s : List UInt8) : List UInt8 := if openOk k s then payl s else []
theorem padTo_60 {xs : List UInt8} (h : xs.length ≤ 60) : (padTo xs 60).length = 60 := by
 unfold padTo; simp; omega
theorem headL_len (k : UInt8) (xs : List UInt8) : (headL k xs).length = xs.length + 2 := by simp [headL]
theorem fbody_len {k : UInt8} {xs : List UInt8} (h : xs.length ≤ 58) : (fbody k xs).length = 60 := padTo_60 (by rw [headL_len]; omega)
theorem frm_len {k : UInt8} {xs : List UInt8} (h : xs.length ≤ 58) : (frm k xs).length = 64 := by
 unfold frm; rw [List.length_append, fbody_len h, enc_len]
theorem fbody_eq (k : UInt8) (xs : List UInt8) : fbody k xs = headL k xs ++ List.replicate (58 - xs.length) 0 := by
 unfold fbody padTo
 rw [headL_len]
 congr 2
 have h : min (60 : Int) 65536 = 60 := by decide
 rw [h]
 show (60 : Nat) - _ = _
 omega
theorem frm_take60 {k : UInt8} {xs : List UInt8} (h : xs.length ≤ 58) : (frm k xs).take 60 = fbody k xs := List.take_left' (fbody_len h)
theorem frm_head (k : UInt8) (xs : List UInt8) : frm k xs = k :: UInt8.ofNat xs.length :: (xs ++ (List.replicate (58 - xs.length) 0 ++ enc (crcSum (fbody k xs)) 4)) := by
 unfold frm
 conv => lhs; arg 1; rw [fbody_eq]
 simp [headL]
theorem frm_nth0 (k : UInt8) (xs : List UInt8) : nth (frm k xs) 0 = k.toNat := by
 rw [frm_head]; rfl
theorem frm_nth1 {k : UInt8} {xs : List UInt8} (h : xs.length ≤ 58) : nth (frm k xs) 1 = xs.length := by
 rw [frm_head]
 show (UInt8.ofNat xs.length).toNat = _
 rw [UInt8.toNat_ofNat']; omega
theorem frm_takep {k : UInt8} {xs : List UInt8} (h : xs.length ≤ 58) : (frm k xs).take (2 + nth (frm k xs) 1) = headL k xs := by
 rw [frm_nth1 h, frm_head, Nat.add_comm]
 show k :: UInt8.ofNat xs.length :: List.take xs.length _ = _
 rw [List.take_left' rfl]; rfl
theorem frm_payl {k : UInt8} {xs : List UInt8} (h : xs.length ≤ 58) : payl (frm k xs) = xs := by
 unfold payl
 rw [frm_takep h]; rfl
theorem frm_chk {k : UInt8} {xs : List UInt8} (h : xs.length ≤ 58) : chkOk (frm k xs) = true := by
 unfold chkOk
 rw [frm_len h, frm_take60 h]
 simp [frm]
theorem frm_ok {k : UInt8} {xs : List UInt8} (h : xs.length ≤ 58) : frOk (frm k xs) = true := by
 unfold frOk
 rw [frm_takep h, frm_take60 h]
 exact decide_eq_true ⟨frm_len h, frm_chk h, by rw [frm_nth1 h]; exact h, rfl⟩
theorem frm_open {k : UInt8} {xs : List UInt8} (h : xs.length ≤ 58) (o : UInt8) : openOk o (frm k xs) = decide (o = k) := by
 unfold openOk
 rw [frm_ok h, frm_nth0, Bool.true_and]
 by_cases e : o = k
 ·subst e; simp
 ·rw [decide_eq_false e]
  exact decide_eq_false fun h => e (UInt8.toNat_inj.1 h.symm)
theorem frm_openOf {k : UInt8} {xs : List UInt8} (h : xs.length ≤ 58) (o : UInt8) : openOf o (frm k xs) = if o = k then xs else [] := by
 unfold openOf
 rw [frm_open h, frm_payl h]
 by_cases e : o = k <;> simp [e]
theorem frm_kind {k : UInt8} {xs : List UInt8} (h : xs.length ≤ 58) : kindOf (frm k xs) = k.toNat := by
 unfold kindOf; rw [if_pos (frm_ok h), frm_nth0]
theorem frOk_parts {s : List UInt8} (h : frOk s = true) : s.length = 64 ∧ nth s 1 ≤ 58 ∧ (payl s).length = nth s 1 ∧ frm (s.getD 0 0) (payl s) = s := by
 obtain ⟨h1, h2, h3, h4⟩ := of_decide_eq_true h
 have hp : (payl s).length = nth s 1 := by unfold payl; rw [List.length_drop, List.length_take]; omega
 refine ⟨h1, h3, hp, ?_⟩
 have e : headL (s.getD 0 0) (payl s) = s.take (2 + nth s 1) := by
  unfold headL
  rw [hp]
  unfold payl nth
  match s, h1 with
  | a :: b :: l, _ =>
   show a :: UInt8.ofNat b.toNat :: List.drop 2 (List.take (2 + b.toNat) (a :: b :: l)) = List.take (2 + b.toNat) (a :: b :: l)
   rw [Nat.add_comm 2]
   simp
 have e2 : fbody (s.getD 0 0) (payl s) = s.take 60 := by unfold fbody; rw [e]; exact h4.symm
 unfold frm
 rw [e2]
 have h5 := (of_decide_eq_true h2).2
 rw [h1] at h5
 exact h5
theorem openOk_parts {k : UInt8} {s : List UInt8} (h : openOk k s = true) : s.length = 64 ∧ nth s 1 ≤ 58 ∧ (payl s).length = nth s 1 ∧ frm k (payl s) = s := by
 unfold openOk at h
 rw [Bool.and_eq_true] at h
 obtain ⟨h1, h2⟩ := h
 have h2 := of_decide_eq_true h2
 have p := frOk_parts h1
 have e : s.getD 0 0 = k := UInt8.toNat_inj.1 h2
 rw [e] at p
 exact p
theorem openOk_of {k : UInt8} {s : List UInt8} (hl : s.length = 64) (h58 : nth s 1 ≤ 58) (h : frm k (payl s) = s) : openOk k s = true := by
 have hp : (payl s).length ≤ 58 := by unfold payl; rw [List.length_drop, List.length_take]; omega
 rw [← h, frm_open hp]; simp
theorem openOk_ref (k : UInt8) (s : List UInt8) : openOk k s = decide (s.length = 64 ∧ nth s 0 = k.toNat ∧ nth s 1 ≤ 58 ∧ frm k (payl s) = s) := by
 by_cases h : openOk k s = true
 ·rw [h]; symm
  obtain ⟨h1, h2, h3, h4⟩ := openOk_parts h
  refine decide_eq_true ⟨h1, ?_, h2, h4⟩
  rw [← h4]; exact frm_nth0 _ _
 ·rw [Bool.not_eq_true] at h
  rw [h]; symm
  refine decide_eq_false fun ⟨h1, h2, h3, h4⟩ => ?_
  rw [openOk_of h1 h3 h4] at h; cases h
theorem frOk_open (s : List UInt8) : frOk s = openOk (s.getD 0 0) s := by
 unfold openOk; simp [nth]
theorem payl_len {s : List UInt8} (hl : s.length = 64) (h : nth s 1 ≤ 58) : (payl s).length = nth s 1 := by
 unfold payl; rw [List.length_drop, List.length_take]; omega
theorem patch_take (xs : List UInt8) (p : Nat) (zs : List UInt8) : ∀ k n, p + k ≤ n → (patch xs p zs k).take n = patch (xs.take n) p zs k
 | 0, n, _ => rfl
 | k + 1, n, h => by
  simp only [patch]
  rw [List.take_set, patch_take xs p zs k n (by omega)]
  congr 1
  rw [← patch_take xs p zs k n (by omega)]
  simp [List.getD, show p + k < n from by omega]
theorem patch_drop (xs : List UInt8) (p : Nat) (zs : List UInt8) : ∀ k n, p + k ≤ n → (patch xs p zs k).drop n = xs.drop n
 | 0, n, _ => rfl
 | k + 1, n, h => by
  simp only [patch]
  rw [List.drop_set_of_lt (by omega), patch_drop xs p zs k n (by omega)]
theorem patch_take_le (xs : List UInt8) (p : Nat) (zs : List UInt8) : ∀ k n, n ≤ p → (patch xs p zs k).take n = xs.take n
 | 0, n, _ => rfl
 | k + 1, n, h => by
  simp only [patch]
  rw [List.take_set_of_le (by omega), patch_take_le xs p zs k n h]
theorem frm_turned {k : UInt8} {xs : List UInt8} (h : xs.length ≤ 58) {p over : Nat} (ho : over < 4294967296) (h0 : over ≠ 0) (hp : p ≤ 56 ∨ p = 60) :
  frOk (patch (frm k xs) p (enc over 4) 4) = false := by
 refine decide_eq_false fun ⟨h1, h2, _, _⟩ => ?_
 have h5 := (of_decide_eq_true h2).2
 rw [h1] at h5
 have hd : enc (crcSum ((patch (frm k xs) p (enc over 4) 4).take 60)) 4 = (patch (frm k xs) p (enc over 4) 4).drop 60 := by
  have := congrArg (List.drop 60) h5
  rw [List.drop_left' (by rw [List.length_take, h1]; rfl)] at this
  exact this
 have hb := fbody_len (k := k) h
 have hdr : (frm k xs).drop 60 = enc (crcSum (fbody k xs)) 4 := List.drop_left' hb
 rcases hp with hp | rfl
 ·rw [patch_take _ _ _ _ _ (by omega), patch_drop _ _ _ _ _ (by omega), frm_take60 h, hdr] at hd
  have e := congrArg num hd
  rw [num_enc, num_enc] at e
  have l1 := crcSum_lt (fbody k xs)
  have l2 := crcSum_lt (patch (fbody k xs) p (enc over 4) 4)
  exact h0 ((tells (xs := fbody k xs) (p := p) (over := over) (by rw [hb]; omega) ho).1 (by omega))
 ·rw [patch_take_le _ _ _ _ _ (Nat.le_refl _), frm_take60 h, ← hdr] at hd
  have hz : enc over 4 = List.replicate (enc over 4).length 0 := by
   apply List.ext_getElem (by simp)
   intro j hj0 hj2
   have hj1 : j < 4 := by rw [enc_len] at hj0; exact hj0
   have hg := patch_getD (frm k xs) 60 (enc over 4) 4 (60 + j) (by rw [frm_len h]; omega)
   rw [if_pos (by omega)] at hg
   have e := congrArg (fun l : List UInt8 => l.getD j 0) hd
   simp only [List.getD, List.getElem?_drop] at e
   simp only [List.getD] at hg
   rw [hg] at e
   have e2 : (enc over 4).getD j 0 = 0 := by
    have := congrArg (fun z => ((frm k xs)[60 + j]?).getD 0 ^^^ z) e
    simp only [← UInt8.xor_assoc, UInt8.xor_self, UInt8.zero_xor] at this
    rw [show 60 + j - 60 = j from by omega] at this
    exact this.symm
   rw [List.getElem_replicate]
   simpa [List.getD, List.getElem?_eq_getElem hj0] using e2
  exact h0 ((enc_zeros over ho).1 hz)
theorem frOk_len {s : List UInt8} (h : s.length ≠ 64) : frOk s = false := decide_eq_false fun hh => h hh.1
end
section
open Go.RowKit
theorem cell_lt {w : World} {a : Addr} {v : Value} (h : w.cell? a = some v) : a.block < w.heap.size := by
 rcases Nat.lt_or_ge a.block w.heap.size with hl | hl
 ·exact hl
 ·unfold World.cell? at h
  rw [Array.getElem?_eq_none hl] at h
  simp at h
theorem wPayEnd (A : Option Addr) (c : Nat) (bs : List UInt8) (w : World) (ha : Rd w w.heap.size A 64 bs) :
  Calls Tryz.prog 101 #[.slice A 64 c] w fun e w' => e = .returned (.int .i64 ((2 + nth bs 1 : Nat) : Int)) ∧ w = w' := by
 obtain ⟨b, o, rfl, hbo, hc⟩ := ha.2 (by omega)
 have h1 : w.cell? ⟨b, o + 1, none⟩ = some (.int .u8 (nth bs 1 : Int)) := hc 1 (by omega)
 have hlt := nth_lt bs 1
 have hltI : (nth bs 1 : Int) < 256 := by omega
 clear hc ha hlt
 generalize nth bs 1 = q at *
 go_enter Tryz.func101, Tryz.ntmps101
 go_wp2
 go_ret
 exact ⟨by go_num, rfl⟩
theorem wCond1 (g : Nat) (A : Option Addr) (n c : Nat) (w : World) (hc : w.cell? ⟨g, 0, none⟩ = some (.slice A n c)) :
  Calls Tryz.prog 129 #[.pointer (some ⟨g, 0, none⟩)] w fun e w' => e = .returned (.bool (decide (n = 64))) ∧ w = w' := by
 by_cases h : n = 64
 ·subst h
  go_enter Tryz.func129, Tryz.ntmps129
  go_wp2
  go_ret
  exact ⟨rfl, rfl⟩
 ·have f1 : ((n : Int) == 64) = false := by simp; omega
  have f2 : (n == 64) = false := by simp; exact h
  rw [decide_eq_false h]
  have H := qH h
  clear h
  go_enter Tryz.func129, Tryz.ntmps129
  go_wp2
  go_ret
  exact ⟨rfl, rfl⟩
theorem wCond2 (g : Nat) (A : Option Addr) (c : Nat) (bs : List UInt8) (w : World) (hc : w.cell? ⟨g, 0, none⟩ = some (.slice A 64 c)) (ha : Rd w w.heap.size A 64 bs) (hc1 : 64 ≤ c) (hc2 : c ≤ 9223372036854775807) :
  Calls Tryz.prog 130 #[.pointer (some ⟨g, 0, none⟩)] w fun e w' => e = .returned (.bool (chkOk bs)) ∧ Below w.heap.size w w' := by
 have R := qH ha
 clear ha
 go_enter Tryz.func130, Tryz.ntmps130
 go_wp2_with fail
 refine (wCheck A 64 c bs w R.out (by decide) hc1 hc2).mono ?_
 rintro e w1 ⟨A1, n1, c1, rfl, hown, hb⟩
 have B := qH hb
 clear hb hown hc
 go_wp2_with fail
 go_ret
 exact ⟨rfl, B.out⟩
theorem wCond3 (g : Nat) (A : Option Addr) (c : Nat) (bs : List UInt8) (w : World) (hc : w.cell? ⟨g, 0, none⟩ = some (.slice A 64 c)) (ha : Rd w w.heap.size A 64 bs) :
  Calls Tryz.prog 132 #[.pointer (some ⟨g, 0, none⟩)] w fun e w' => e = .returned (.bool (decide (nth bs 1 ≤ 58))) ∧ w = w' := by
 obtain ⟨b, o, rfl, hbo, hcc⟩ := ha.2 (by omega)
 have h1 : w.cell? ⟨b, o + 1, none⟩ = some (.int .u8 (nth bs 1 : Int)) := hcc 1 (by omega)
 clear hcc ha
 generalize nth bs 1 = q at *
 by_cases h : q ≤ 58
 ·have hI : (q : Int) ≤ 58 := by omega
  rw [decide_eq_true h]
  clear h
  go_enter Tryz.func132, Tryz.ntmps132
  go_wp2
  go_ret
  exact ⟨rfl, rfl⟩
 ·have hI : ¬ (q : Int) ≤ 58 := by omega
  rw [decide_eq_false h]
  clear h
  go_enter Tryz.func132, Tryz.ntmps132
  go_wp2
  go_ret
  exact ⟨rfl, rfl⟩
theorem wCond4 (g : Nat) (A : Option Addr) (c : Nat) (bs : List UInt8) (w : World) (hc : w.cell? ⟨g, 0, none⟩ = some (.slice A 64 c)) (ha : Rd w w.heap.size A 64 bs) (hc1 : 64 ≤ c) (hc2 : c ≤ 9223372036854775807) (h58 : nth bs 1 ≤ 58) :
  Calls Tryz.prog 133 #[.pointer (some ⟨g, 0, none⟩)] w fun e w' => e = .returned (.bool (decide (bs.take 60 = padTo (bs.take (2 + nth bs 1)) 60))) ∧ Below w.heap.size w w' := by
 have R : Hid (Rd w.drew w.drew.heap.size A 64 bs) := ha
 have C : Hid (w.drew.cell? ⟨g, 0, none⟩ = some (.slice A 64 c)) := hc
 have B : Hid (Below w.heap.size w w.drew) := (Below.refl _ _).drew
 have BD : Hid (Below w.drew.heap.size w.drew w.drew) := Below.refl _ _
 have HPL : Hid ((padTo (bs.take (2 + nth bs 1)) 60).length = 60) := padTo_60 (by rw [List.length_take, ha.1]; omega)
 have HG : Hid (g < w.drew.heap.size) := cell_lt hc
 obtain ⟨q, hq⟩ : ∃ q, 2 + nth bs 1 = q := ⟨_, rfl⟩
 have hq60 : q ≤ 60 := by omega
 have HPE := qH (wPayEnd A c bs w.drew ha)
 rw [hq] at HPE HPL ⊢
 have k60 : ∀ w : World, (Instr.slice 35 (.slice A 64 c) none (some (.int .i64 60)) none).run Tryz.prog w = .ok (.slice A 60 c) w := fun w => slice_h isU8 A (n := 64) (c := c) (h := 60) (by omega) hc1 .i64 w
 have kq := slice_h isU8 A (n := 64) (c := c) (h := q) (by omega) hc1 .i64
 have S60 := qH (R.out.front (k := 60) (by omega))
 have SQ := qH (R.out.front (k := q) (by omega))
 clear ha hc h58 hq
 go_enter Tryz.func133, Tryz.ntmps133
 go_wp2_with fail
 generalize hwd : w.drew = wd at *
 have HWD := qH hwd
 clear hwd
 refine wp_region_held_drew (S := (fun w' => w'.cell? ⟨g, 0, none⟩ = some (.slice A 64 c))) (by kernel_rfl) ((by rw [HWD.out]; exact C.out)) (fun hHeld => ?_)
 rw [HWD.out] at hHeld ⊢
 refine tk 0 ?_
 simp only [pR]
 refine tk 1 ?_
 simp only [pR]
 refine tk 2 ?_
 simp only [pR]
 refine tk 3 ?_
 simp only [pR]
 refine rd1 4 (fun K hK => ?_)
 go_simp
 refine (HPE.out).mono ?_
 rintro e w' ⟨rfl, rfl⟩
 go_wp2_with fail
 refine hK.out _ _ (C.out) (fun hHeld => ?_)
 clear hK K
 refine tk 5 ?_
 simp only [pR]
 refine rd1 6 (fun K hK => ?_)
 go_simp
 refine (wPadded A q c 60 (bs.take q) wd SQ.out (by omega) (by decide) (by decide)).mono ?_
 rintro e w1 ⟨A1, n1, c1, rfl, hown, hb⟩
 have P := qH (Rd.of_own hown)
 replace C := qH ((hb.cell HG.out).trans C.out)
 replace S60 := qH (S60.out.to hb)
 replace BD := qH hb
 clear hb hown
 go_wp2_with fail
 refine hK.out _ _ (C.out) (fun hHeld => ?_)
 clear hK K
 refine rd1 7 (fun K hK => ?_)
 go_simp
 refine (wSame A A1 60 n1 c c1 w1.heap.size (bs.take 60) _ w1 S60.out P.out).mono ?_
 rintro e w' ⟨rfl, rfl⟩
 go_wp2_with fail
 refine hK.out _ _ (C.out) (fun hHeld => ?_)
 clear hK K
 refine tk 8 ?_
 simp only [pR]
 refine wpAnyH_done (by kernel_rfl) ?_ _
 go_wp2
 go_ret
 exact ⟨rfl, B.out.trans (BD.out.mono B.out.size)⟩
end
end Go.Proofs.YtffdjnhhmfpkgaaGreat