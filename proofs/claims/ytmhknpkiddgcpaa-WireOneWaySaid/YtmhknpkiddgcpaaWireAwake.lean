/- The chapter's examples, as the laws of layer 5 begin with them (citadellaw05.awake): it returns true. Over the interface (XWireI). -/
import Derived.Test.YtmhknpkiddgcpaaWireI
namespace Go.Proofs.Ytmhknpkiddgcpaa
open Go.RowKit
set_option linter.unusedVariables false
set_option linter.unusedSimpArgs false

def lA : List UInt8 := [1, 9, 0, 0, 0, 0, 0, 0, 2, 1]
def lAV : List Value := [.int .u8 1, .int .u8 9, .int .u8 0, .int .u8 0, .int .u8 0, .int .u8 0, .int .u8 0, .int .u8 0, .int .u8 2, .int .u8 1]
def lB : List UInt8 := [255, 255, 255, 255, 255, 255, 255, 255, 0, 0, 0, 2, 104, 105, 0, 0, 0, 0]
def lBV : List Value := [.int .u8 255, .int .u8 255, .int .u8 255, .int .u8 255, .int .u8 255, .int .u8 255, .int .u8 255, .int .u8 255, .int .u8 0, .int .u8 0, .int .u8 0, .int .u8 2, .int .u8 104, .int .u8 105, .int .u8 0, .int .u8 0, .int .u8 0, .int .u8 0]
def l2 : List UInt8 := [2]
def l2V : List Value := [.int .u8 2]
def l0001 : List UInt8 := [0, 0, 0, 1]
def l0001V : List Value := [.int .u8 0, .int .u8 0, .int .u8 0, .int .u8 1]
def l77 : List UInt8 := [7, 7]
def l77V : List Value := [.int .u8 7, .int .u8 7]
def lU : List UInt8 := [0, 0, 0, 0, 0, 0, 0, 3, 1, 1]
def lUV : List Value := [.int .u8 0, .int .u8 0, .int .u8 0, .int .u8 0, .int .u8 0, .int .u8 0, .int .u8 0, .int .u8 3, .int .u8 1, .int .u8 1]
def lV : List UInt8 := [0, 0, 0, 0, 0, 0, 0, 3, 1, 1, 1]
def lVV : List Value := [.int .u8 0, .int .u8 0, .int .u8 0, .int .u8 0, .int .u8 0, .int .u8 0, .int .u8 0, .int .u8 3, .int .u8 1, .int .u8 1, .int .u8 1]
/-- A row of constants, just laid. -/
theorem rd_const {w : World} (bs : List UInt8) (vs : List Value) (T : TypeId) (h : bs.map bval = vs) : Rd (w.alloc (.cells vs.toArray T)) (w.alloc (.cells vs.toArray T)).heap.size (some ⟨w.heap.size, 0, none⟩) vs.length bs := by
  have := Rd.lit (w := w) bs vs T h
  rwa [show w.heap.size + 1 = (w.alloc (.cells vs.toArray T)).heap.size from by simp] at this
theorem PrAt.below {w w' : World} {g : Nat} {F : Nat → Prop} {s : RS} (h : PrAt w g F s) (hb : Below w.heap.size w w') : PrAt w' g F s := h.kept (R := fun _ => False) (Keep.of_below hb) (fun _ _ h => h)
theorem WrTo.ret {w : World} {g : Nat} {F : Nat → Prop} {form b : List UInt8} {bad : Bool} {e : Ending} {w' : World} (h : WrTo w g F form b bad e w') {form' : List UInt8} {bad' : Bool} (h1 : wForm form b bad = form') (h2 : wBad form b bad = bad') {w0 : World} (hb : Below w0.heap.size w0 w) (hF : ∀ k, F k → w0.heap.size ≤ k) :
    e = .returned (.pointer (some ⟨g, 0, none⟩)) ∧ ∃ F', WrAt w' g F' form' bad' ∧ (∀ k, F' k → w0.heap.size ≤ k) ∧ Below w0.heap.size w0 w' := by
  obtain ⟨he, F', h3, h4, h5⟩ := h
  subst h1; subst h2
  exact ⟨he, F', h3, fun k hk => by
    rcases h4 k hk with h | h
    · exact hF k h
    · exact Nat.le_trans hb.size h, Keep.below hb h5 hb.size hF⟩

set_option maxRecDepth 1000000 in
set_option maxHeartbeats 4000000 in
theorem awake (w : World) : Calls Try.prog 33 #[] w fun e w' => e = .returned (.bool true) ∧ Below w.heap.size w w' := by
  go_enter Try.func33, Try.ntmps33
  go_wp2_with fail
  refine (wNew w).mono ?_
  rintro e w1 ⟨g, F, rfl, hw, hF, hb⟩
  have W := Lib.hid hw; have HF := Lib.hid hF; have B := Lib.hid hb
  clear hw hF hb
  go_wp2_with fail
  refine (wFlag g F [] false true w1 W.out).mono ?_
  intro e w2 h
  obtain ⟨rfl, F2, hw, hF, hb⟩ := h.ret (form' := [1]) (bad' := false) rfl rfl B.out HF.out
  replace W := Lib.hid hw; replace HF := Lib.hid hF; replace B := Lib.hid hb
  clear hw hF hb h
  go_wp2_with fail
  refine (wByte g F2 [1] false 9 w2 W.out).mono ?_
  intro e w3 h
  obtain ⟨rfl, F3, hw, hF, hb⟩ := h.ret (form' := [1, 9]) (bad' := false) rfl rfl B.out HF.out
  replace W := Lib.hid hw; replace HF := Lib.hid hF; replace B := Lib.hid hb
  clear hw hF hb h
  go_wp2_with fail
  refine (wInt g F3 [1, 9] false 513 w3 W.out).mono ?_
  intro e w4 h
  obtain ⟨rfl, F4, hw, hF, hb⟩ := h.ret (form' := lA) (bad' := false) (by decide +kernel) (by decide +kernel) B.out HF.out
  replace W := Lib.hid hw; replace HF := Lib.hid hF; replace B := Lib.hid hb
  clear hw hF hb h
  go_wp2_with fail
  refine (wDone g F4 lA false w4 W.out).mono ?_
  rintro e w5 ⟨A5, n5, c5, rfl, ho, hc, hc', hb⟩
  obtain rfl : n5 = 10 := ho.1.1.symm
  have RA := Lib.hid ho.1
  replace B := Lib.hid (B.out.trans (hb.mono B.out.size))
  clear ho hb W HF
  go_wp2_with fail
  have R5 := Lib.hid RA.out
  refine (wNew w5).mono ?_
  rintro e w6 ⟨g6, F6, rfl, hw, hF, hb⟩
  have W := Lib.hid hw; have HF := Lib.hid hF; have B5 := Lib.hid hb
  clear hw hF hb RA
  go_wp2_with fail
  refine (wInt g6 F6 [] false (-1) w6 W.out).mono ?_
  intro e w7 h
  obtain ⟨rfl, F7, hw, hF, hb⟩ := h.ret (form' := [255, 255, 255, 255, 255, 255, 255, 255]) (bad' := false) (by decide +kernel) (by decide +kernel) B5.out HF.out
  replace W := Lib.hid hw; replace HF := Lib.hid hF; replace B5 := Lib.hid hb
  clear hw hF hb h
  go_wp2_with fail
  refine (wText g6 F7 [255, 255, 255, 255, 255, 255, 255, 255] false [104, 105] w7 W.out (by decide)).mono ?_
  intro e w8 h
  obtain ⟨rfl, F8, hw, hF, hb⟩ := h.ret (form' := [255, 255, 255, 255, 255, 255, 255, 255, 0, 0, 0, 2, 104, 105]) (bad' := false) (by decide +kernel) (by decide +kernel) B5.out HF.out
  replace W := Lib.hid hw; replace HF := Lib.hid hF; replace B5 := Lib.hid hb
  clear hw hF hb h
  go_wp2_with fail
  refine (wBytes g6 F8 [255, 255, 255, 255, 255, 255, 255, 255, 0, 0, 0, 2, 104, 105] false none 0 0 [] w8 W.out (Rd.nil _ _ _) (fun h => absurd h (Nat.lt_irrefl 0)) (by decide) (by decide) (by decide)).mono ?_
  intro e w9 h
  obtain ⟨rfl, F9, hw, hF, hb⟩ := h.ret (form' := lB) (bad' := false) (by decide +kernel) (by decide +kernel) B5.out HF.out
  replace W := Lib.hid hw; replace HF := Lib.hid hF; replace B5 := Lib.hid hb
  clear hw hF hb h
  go_wp2_with fail
  refine (wDone g6 F9 lB false w9 W.out).mono ?_
  rintro e w10 ⟨A10, n10, c10, rfl, ho, hc10, hc10', hb⟩
  obtain rfl : n10 = 18 := ho.1.1.symm
  have RB := Lib.hid ho.1
  replace B5 := Lib.hid (B5.out.trans (hb.mono B5.out.size))
  have RA := Lib.hid (R5.out.to B5.out)
  replace B := Lib.hid (B.out.trans (B5.out.mono B.out.size))
  clear ho hb W HF B5 R5
  go_wp2_with fail
  have hba : Below w10.heap.size w10 (w10.alloc (.cells lAV.toArray 5)) := (Below.refl _ _).alloc (Nat.le_refl _) _
  refine (wSame A5 (some ⟨w10.heap.size, 0, none⟩) 10 10 c5 10 _ lA lA (w10.alloc (.cells lAV.toArray 5)) (RA.out.to hba) (rd_const lA lAV 5 rfl)).mono ?_
  have RB2 := Lib.hid (RB.out.to hba)
  replace B := Lib.hid (B.out.trans (hba.mono B.out.size))
  clear hba RA RB
  generalize w10.alloc (.cells lAV.toArray 5) = w11 at *
  rw [show decide (lA = lA) = true from decide_eq_true rfl]
  rintro e w' ⟨rfl, rfl⟩
  go_wp2_with fail
  have hba : Below w11.heap.size w11 (w11.alloc (.cells lBV.toArray 5)) := (Below.refl _ _).alloc (Nat.le_refl _) _
  refine (wSame A10 (some ⟨w11.heap.size, 0, none⟩) 18 18 c10 18 _ lB lB (w11.alloc (.cells lBV.toArray 5)) (RB2.out.to hba) (rd_const lB lBV 5 rfl)).mono ?_
  replace B := Lib.hid (B.out.trans (hba.mono B.out.size))
  clear hba RB2
  generalize w11.alloc (.cells lBV.toArray 5) = w12 at *
  rw [show decide (lB = lB) = true from decide_eq_true rfl]
  rintro e w' ⟨rfl, rfl⟩
  go_wp2_with fail
  have hba : Below w12.heap.size w12 (w12.alloc (.cells l2V.toArray 5)) := (Below.refl _ _).alloc (Nat.le_refl _) _
  refine (pNew (some ⟨w12.heap.size, 0, none⟩) 1 1 l2 (w12.alloc (.cells l2V.toArray 5)) (rd_const l2 l2V 5 rfl) (by decide) (by decide) (by decide)).mono ?_
  rintro e w13 ⟨r, Fr, rfl, hp, hF, hb⟩
  have P_r := Lib.hid hp
  have M_r : Hid (∀ k, Fr k → w.heap.size ≤ k) := fun k h => Nat.le_trans B.out.size (Nat.le_trans hba.size (hF k h))
  have L_r : Hid (∀ k, Fr k → w12.heap.size ≤ k) := fun k h => Nat.le_trans hba.size (hF k h)
  replace B := Lib.hid (B.out.trans ((hba.trans (hb.mono hba.size)).mono B.out.size))
  clear hp hF hb hba
  go_wp2_with fail
  have hba : Below w13.heap.size w13 (w13.alloc (.cells l0001V.toArray 5)) := (Below.refl _ _).alloc (Nat.le_refl _) _
  refine (pNew (some ⟨w13.heap.size, 0, none⟩) 4 4 l0001 (w13.alloc (.cells l0001V.toArray 5)) (rd_const l0001 l0001V 5 rfl) (by decide) (by decide) (by decide)).mono ?_
  rintro e w14 ⟨s, Fs, rfl, hp, hF, hb⟩
  have P_s := Lib.hid hp
  have M_s : Hid (∀ k, Fs k → w.heap.size ≤ k) := fun k h => Nat.le_trans B.out.size (Nat.le_trans hba.size (hF k h))
  have L_s : Hid (∀ k, Fs k → w13.heap.size ≤ k) := fun k h => Nat.le_trans hba.size (hF k h)
  have D_rs : Hid (∀ k, Fs k → ¬ Fr k) := fun k h hr => by have := P_r.out.lt k hr; have := L_s.out k h; omega
  replace P_r := Lib.hid (P_r.out.below (hba.trans (hb.mono hba.size)))
  replace B := Lib.hid (B.out.trans ((hba.trans (hb.mono hba.size)).mono B.out.size))
  clear hp hF hb hba
  go_wp2_with fail
  have hba : Below w14.heap.size w14 (w14.alloc (.cells l77V.toArray 5)) := (Below.refl _ _).alloc (Nat.le_refl _) _
  refine (pNew (some ⟨w14.heap.size, 0, none⟩) 2 2 l77 (w14.alloc (.cells l77V.toArray 5)) (rd_const l77 l77V 5 rfl) (by decide) (by decide) (by decide)).mono ?_
  rintro e w15 ⟨t, Ft, rfl, hp, hF, hb⟩
  have P_t := Lib.hid hp
  have M_t : Hid (∀ k, Ft k → w.heap.size ≤ k) := fun k h => Nat.le_trans B.out.size (Nat.le_trans hba.size (hF k h))
  have L_t : Hid (∀ k, Ft k → w14.heap.size ≤ k) := fun k h => Nat.le_trans hba.size (hF k h)
  have D_rt : Hid (∀ k, Ft k → ¬ Fr k) := fun k h hr => by have := P_r.out.lt k hr; have := L_t.out k h; omega
  have D_st : Hid (∀ k, Ft k → ¬ Fs k) := fun k h hr => by have := P_s.out.lt k hr; have := L_t.out k h; omega
  replace P_r := Lib.hid (P_r.out.below (hba.trans (hb.mono hba.size)))
  replace P_s := Lib.hid (P_s.out.below (hba.trans (hb.mono hba.size)))
  replace B := Lib.hid (B.out.trans ((hba.trans (hb.mono hba.size)).mono B.out.size))
  clear hp hF hb hba
  go_wp2_with fail
  refine (pFlag r Fr (newRS l2) w15 P_r.out).mono ?_
  rw [show decide ((newRS l2).numb 1 = 1) = false from by decide +kernel]
  rintro e w16 ⟨rfl, Fr2, hp, hs, hk⟩
  replace P_r := Lib.hid hp
  replace P_s := Lib.hid (P_s.out.kept hk (fun k h hr => D_rs.out k h hr))
  replace P_t := Lib.hid (P_t.out.kept hk (fun k h hr => D_rt.out k h hr))
  replace B := Lib.hid (Keep.below B.out hk B.out.size M_r.out)
  clear hp hs hk M_r L_r D_rs D_rt
  go_wp2_with fail
  refine (pErr r Fr2 (flagS (newRS l2)) w16 P_r.out).mono ?_
  rw [show (((flagS (newRS l2)).e : Nat) : Int) = 50 from by decide +kernel]
  rintro e w17 ⟨rfl, hb⟩
  replace P_s := Lib.hid (P_s.out.below hb)
  replace P_t := Lib.hid (P_t.out.below hb)
  replace B := Lib.hid (B.out.trans (hb.mono B.out.size))
  clear hb P_r
  go_wp2_with fail
  refine (pBytes s Fs (newRS l0001) w17 P_s.out).mono ?_
  rintro e w18 ⟨A18, n18, c18, Fs2, rfl, ho, _, _, hp, _, hs, hk⟩
  obtain rfl : n18 = 0 := ho.1.1.symm.trans (by decide +kernel)
  replace P_s := Lib.hid hp
  replace P_t := Lib.hid (P_t.out.kept hk (fun k h hr => D_st.out k h hr))
  replace B := Lib.hid (Keep.below B.out hk B.out.size M_s.out)
  clear hp hs hk ho M_s L_s D_st
  go_wp2_with fail
  refine (pErr s Fs2 (bytesS (newRS l0001)) w18 P_s.out).mono ?_
  rw [show (((bytesS (newRS l0001)).e : Nat) : Int) = 50 from by decide +kernel]
  rintro e w19 ⟨rfl, hb⟩
  replace P_t := Lib.hid (P_t.out.below hb)
  replace B := Lib.hid (B.out.trans (hb.mono B.out.size))
  clear hb P_s
  go_wp2_with fail
  refine (pByte t Ft (newRS l77) w19 P_t.out).mono ?_
  rw [show (((byteV (newRS l77)).toNat : Nat) : Int) = 7 from by decide +kernel]
  rintro e w20 ⟨rfl, Ft2, hp, hs, hk⟩
  replace P_t := Lib.hid hp
  replace B := Lib.hid (Keep.below B.out hk B.out.size M_t.out)
  clear hp hs hk M_t L_t
  go_wp2_with fail
  refine (pLeft t Ft2 ((newRS l77).next 1) w20 P_t.out).mono ?_
  rw [show ((leftV ((newRS l77).next 1) : Nat) : Int) = 1 from by decide +kernel]
  rintro e w21 ⟨rfl, hb⟩
  replace P_t := Lib.hid (P_t.out.below hb)
  replace B := Lib.hid (B.out.trans (hb.mono B.out.size))
  clear hb
  go_wp2_with fail
  refine (pErr t Ft2 ((newRS l77).next 1) w21 P_t.out).mono ?_
  rw [show ((((newRS l77).next 1).e : Nat) : Int) = 0 from by decide +kernel]
  rintro e w22 ⟨rfl, hb⟩
  replace P_t := Lib.hid (P_t.out.below hb)
  replace B := Lib.hid (B.out.trans (hb.mono B.out.size))
  clear hb
  go_wp2_with fail
  refine (pEnd t Ft2 ((newRS l77).next 1) w22 P_t.out).mono ?_
  rw [show ((endV ((newRS l77).next 1) : Nat) : Int) = 50 from by decide +kernel]
  rintro e w23 ⟨rfl, hb⟩
  replace B := Lib.hid (B.out.trans (hb.mono B.out.size))
  clear hb P_t
  go_wp2_with fail
  have hba : Below w23.heap.size w23 (w23.alloc (.cells lUV.toArray 5)) := (Below.refl _ _).alloc (Nat.le_refl _) _
  refine (pNew (some ⟨w23.heap.size, 0, none⟩) 10 10 lU (w23.alloc (.cells lUV.toArray 5)) (rd_const lU lUV 5 rfl) (by decide) (by decide) (by decide)).mono ?_
  rintro e w24 ⟨u, Fu, rfl, hp, hF, hb⟩
  have P_u := Lib.hid hp
  have M_u : Hid (∀ k, Fu k → w.heap.size ≤ k) := fun k h => Nat.le_trans B.out.size (Nat.le_trans hba.size (hF k h))
  have L_u : Hid (∀ k, Fu k → w23.heap.size ≤ k) := fun k h => Nat.le_trans hba.size (hF k h)
  replace B := Lib.hid (B.out.trans ((hba.trans (hb.mono hba.size)).mono B.out.size))
  clear hp hF hb hba
  go_wp2_with fail
  have hba : Below w24.heap.size w24 (w24.alloc (.cells lVV.toArray 5)) := (Below.refl _ _).alloc (Nat.le_refl _) _
  refine (pNew (some ⟨w24.heap.size, 0, none⟩) 11 11 lV (w24.alloc (.cells lVV.toArray 5)) (rd_const lV lVV 5 rfl) (by decide) (by decide) (by decide)).mono ?_
  rintro e w25 ⟨v, Fv, rfl, hp, hF, hb⟩
  have P_v := Lib.hid hp
  have M_v : Hid (∀ k, Fv k → w.heap.size ≤ k) := fun k h => Nat.le_trans B.out.size (Nat.le_trans hba.size (hF k h))
  have L_v : Hid (∀ k, Fv k → w24.heap.size ≤ k) := fun k h => Nat.le_trans hba.size (hF k h)
  have D_uv : Hid (∀ k, Fv k → ¬ Fu k) := fun k h hr => by have := P_u.out.lt k hr; have := L_v.out k h; omega
  replace P_u := Lib.hid (P_u.out.below (hba.trans (hb.mono hba.size)))
  replace B := Lib.hid (B.out.trans ((hba.trans (hb.mono hba.size)).mono B.out.size))
  clear hp hF hb hba
  go_wp2_with fail
  refine (pCount u Fu (newRS lU) 5 w25 P_u.out (by decide)).mono ?_
  rw [show countV (newRS lU) 5 = 0 from by decide +kernel]
  rintro e w26 ⟨rfl, Fu2, hp, hs, hk⟩
  replace P_u := Lib.hid hp
  replace P_v := Lib.hid (P_v.out.kept hk (fun k h hr => D_uv.out k h hr))
  replace B := Lib.hid (Keep.below B.out hk B.out.size M_u.out)
  clear hp hs hk M_u L_u D_uv
  go_wp2_with fail
  refine (pErr u Fu2 (countS (newRS lU) 5) w26 P_u.out).mono ?_
  rw [show (((countS (newRS lU) 5).e : Nat) : Int) = 50 from by decide +kernel]
  rintro e w27 ⟨rfl, hb⟩
  replace P_v := Lib.hid (P_v.out.below hb)
  replace B := Lib.hid (B.out.trans (hb.mono B.out.size))
  clear hb P_u
  go_wp2_with fail
  refine (pCount v Fv (newRS lV) 5 w27 P_v.out (by decide)).mono ?_
  rw [show countV (newRS lV) 5 = 3 from by decide +kernel]
  rintro e w28 ⟨rfl, Fv2, hp, hs, hk⟩
  replace P_v := Lib.hid hp
  replace B := Lib.hid (Keep.below B.out hk B.out.size M_v.out)
  clear hp hs hk M_v L_v
  go_wp2_with fail
  refine (pLeft v Fv2 (countS (newRS lV) 5) w28 P_v.out).mono ?_
  rw [show ((leftV (countS (newRS lV) 5) : Nat) : Int) = 3 from by decide +kernel]
  rintro e w29 ⟨rfl, hb⟩
  replace B := Lib.hid (B.out.trans (hb.mono B.out.size))
  clear hb P_v
  go_wp2_with fail
  go_ret
  exact ⟨rfl, B.out⟩
end Go.Proofs.Ytmhknpkiddgcpaa
