/- The program's Place. -/
import Derived.Test.YtggnpnicmjjfbaaRegA
import Derived.Test.YtggnpnicmjjfbaaRegB
namespace Go.Proofs.Ytggnpnicmjjfbaa
open Go.RowKit
set_option linter.unusedVariables false
set_option linter.unusedSimpArgs false

/-- Where the search stands: nothing fits below; what is handed back, and r, lie in boxes of the call's own. -/
def PlaceR (w : World) (l : List Reg) (s : Int) (g7 : Nat) (wr : World) : Prop :=
  ∃ j : Nat, j ≤ 1024 ∧ BoxR wr g7 (4 * (j : Int)) s ∧ BoxR wr w.heap.size 0 0 ∧ Below w.heap.size w wr ∧ ∀ i : Nat, i < j → fitR l (4 * (i : Int), s) = false
def left7 (g : Nat) (wr : World) : Nat := 4096 - (intOf ((wr.cell? ⟨g, 0, none⟩).getD undef)).toNat
theorem left7_of {g : Nat} {wr : World} {b s : Int} (h : BoxR wr g b s) : left7 g wr = 4096 - b.toNat := by
  unfold left7; rw [h.c0]; rfl

set_option maxRecDepth 1000000 in
set_option maxHeartbeats 1000000 in
theorem wPlace (A : Option Addr) (n c : Nat) (l : List Reg) (s : Int) (w : World) (h : RdG w w.heap.size A n l) (hnc : n ≤ c) (hc : c ≤ 9223372036854775807) :
    Calls Try.prog 16 #[.slice A n c, .int .i64 s] w fun e w' => RetP w (placeR l s).1 (placeR l s).2 e w' := by
  have B := Lib.hid ((Below.refl w.heap.size w).alloc (Nat.le_refl _) (.cells #[.int .i64 0, .int .i64 0] 23))
  have X4 := Lib.hid (BoxR.new w 0 0)
  have R0 := Lib.hid h
  have H := Lib.hid (h.to B.out)
  have HN := Lib.hid hnc
  have HC := Lib.hid hc
  clear h hnc hc
  by_cases h64 : 64 < n
  · have h64I : (n : Int) > 64 := by omega
    have HP := Lib.hid (placeR_long (l := l) (s := s) (by rw [H.out.1]; exact h64))
    clear h64
    go_enter Try.func16, Try.ntmps16
    go_wp2
    refine bodyPost_ret (res_reg rfl _ _ w.heap.size 0 0 (.int .i64 2) rfl rfl X4.out) rfl ⟨by rw [HP.out]; rfl, B.out⟩
  have h64I : ¬ (n : Int) > 64 := by omega
  have HL : Hid (l.length ≤ 64) := by (show _ ≤ _); rw [H.out.1]; omega
  clear h64
  go_enter Try.func16, Try.ntmps16
  go_wp2_with fail
  refine (wAll A n c l _ H.out HN.out HC.out).mono ?_
  rintro e w1 ⟨rfl, hb⟩
  replace H := Lib.hid (H.out.to hb)
  replace X4 := Lib.hid (X4.out.to hb)
  replace B := Lib.hid (B.out.trans (hb.mono B.out.size))
  have c0 := X4.out.c0
  have c1 := X4.out.c1
  have f0 := X4.out.f0
  have f1 := X4.out.f1
  clear hb
  have hbad : ∀ k : Int, k ≠ 0 → allR l = k → Hid (placeR l s = (reg0, k)) := fun k h1 h2 => by show _ = _; rw [← h2]; exact placeR_bad HL.out (by rw [h2]; exact h1)
  have HBAD := Lib.hid hbad
  clear hbad
  rcases allR_range l with h0 | h0 | h0
  rotate_left
  · have HP := Lib.hid (HBAD.out 2 (by decide) h0)
    rw [h0]
    clear h0
    go_wp2_with fail
    refine bodyPost_ret (res_reg rfl _ _ w.heap.size 0 0 (.int .i64 2) rfl rfl ((X4.out.set0 0).set1 0)) rfl ⟨by rw [HP.out.out]; rfl, (B.out.setCell (p := ⟨w.heap.size, 0, none⟩) (Nat.le_refl _) _).setCell (p := ⟨w.heap.size, 1, none⟩) (Nat.le_refl _) _⟩
  · have HP := Lib.hid (HBAD.out 121 (by decide) h0)
    rw [h0]
    clear h0
    go_wp2_with fail
    refine bodyPost_ret (res_reg rfl _ _ w.heap.size 0 0 (.int .i64 121) rfl rfl ((X4.out.set0 0).set1 0)) rfl ⟨by rw [HP.out.out]; rfl, (B.out.setCell (p := ⟨w.heap.size, 0, none⟩) (Nat.le_refl _) _).setCell (p := ⟨w.heap.size, 1, none⟩) (Nat.le_refl _) _⟩
  have H0 := Lib.hid h0
  rw [h0]
  clear h0 HBAD
  go_wp2_with fail
  have HNE : Hid (w.heap.size < w1.heap.size) := X4.out.lt
  replace X4 := Lib.hid (X4.out.to ((Below.refl _ _).alloc (Nat.le_refl _) (.cells #[.int .i64 0, .int .i64 s] 23)))
  have X7 := Lib.hid (BoxR.new w1 0 s)
  replace B := Lib.hid (B.out.alloc B.out.size (.cells #[.int .i64 0, .int .i64 s] 23))
  clear H c0 c1 f0 f1
  generalize w1.alloc (.cells #[.int .i64 0, .int .i64 s] 23) = w2 at *
  generalize w1.heap.size = g7 at *
  have c0 := X7.out.c0
  have c1 := X7.out.c1
  go_wp2_with fail
  refine (wMay 0 s w2).mono ?_
  rintro e w3 ⟨rfl, hb⟩
  replace X4 := Lib.hid (X4.out.to hb)
  replace X7 := Lib.hid (X7.out.to hb)
  replace B := Lib.hid (B.out.trans (hb.mono B.out.size))
  clear hb c0 c1
  cases hm : mayR (0, s)
  · have HP := Lib.hid (placeR_size HL.out H0.out hm)
    have c0 := X4.out.c0
    have c1 := X4.out.c1
    have f0 := X4.out.f0
    have f1 := X4.out.f1
    clear hm
    go_wp2_with fail
    refine bodyPost_ret (res_reg rfl _ _ w.heap.size 0 0 (.int .i64 2) rfl rfl ((X4.out.set0 0).set1 0)) rfl ⟨by rw [HP.out]; rfl, (B.out.setCell (p := ⟨w.heap.size, 0, none⟩) (Nat.le_refl _) _).setCell (p := ⟨w.heap.size, 1, none⟩) (Nat.le_refl _) _⟩
  have HM := Lib.hid hm
  clear hm
  go_wp2_with fail
  go_loopw [8] (fun _ wr => PlaceR w l s g7 wr) (fun _ wr => left7 g7 wr)
  case atStart => exact ⟨0, by omega, by simpa using X7.out, X4.out, B.out, fun i hi => absurd hi (Nat.not_lt_zero _)⟩
  case round =>
    obtain ⟨j, hj, hx7, hx4, hB, hlow⟩ := hrel
    have HJ := Lib.hid hj
    have X7 := Lib.hid hx7
    have X4 := Lib.hid hx4
    have B := Lib.hid hB
    have HLOW := Lib.hid hlow
    have HLEFT := Lib.hid (left7_of hx7)
    have c0 := X7.out.c0
    have c1 := X7.out.c1
    clear hj hx7 hx4 hB hlow
    go_wp2_with fail
    refine (wMay (4 * (j : Int)) s wr).mono ?_
    rintro e w4 ⟨rfl, hb⟩
    replace X4 := Lib.hid (X4.out.to hb)
    replace X7 := Lib.hid (X7.out.to hb)
    replace B := Lib.hid (B.out.trans (hb.mono B.out.size))
    clear hb c0 c1
    cases hm : mayR (4 * (j : Int), s)
    · have HP : Hid (placeR l s = (reg0, 4)) := placeR_full HL.out H0.out HM.out fun i hi => by
        rcases Nat.lt_or_ge i j with g | g
        · exact HLOW.out i g
        · have hf : mayR (4 * (i : Int), s) = false := by
            rw [Bool.eq_false_iff] at hm ⊢
            intro h
            refine hm (mayR_iff.2 ?_)
            have := mayR_iff.1 h
            dsimp only at this ⊢
            omega
          unfold fitR; rw [hf]; rfl
      have c0 := X4.out.c0
      have c1 := X4.out.c1
      have f0 := X4.out.f0
      have f1 := X4.out.f1
      clear hm
      go_wp2_with fail
      refine bodyPost_ret (res_reg rfl _ _ w.heap.size 0 0 (.int .i64 4) rfl rfl ((X4.out.set0 0).set1 0)) rfl ⟨by rw [HP.out]; rfl, (B.out.setCell (p := ⟨w.heap.size, 0, none⟩) (Nat.le_refl _) _).setCell (p := ⟨w.heap.size, 1, none⟩) (Nat.le_refl _) _⟩
    · have HMJ := Lib.hid hm
      have hj1 := mayR_iff.1 hm
      dsimp only at hj1
      have HJ1 : Hid (j < 1024) := by (show _ < _); omega
      have RW := Lib.hid ((R0.out.below B.out).more B.out.size)
      have EG := Lib.hid (enters_of Try.func24 (by kernel_rfl) rfl)
      clear hm hj1
      go_wp2_with fail
      refine (wIndex _ _ EG.out _ A n c l w4 (pApart (4 * (j : Int)) s g7 w4 X7.out.box) RW.out (Nat.le_trans HN.out HC.out)).mono ?_
      rintro e w5 ⟨rfl, hb⟩
      replace X4 := Lib.hid (X4.out.to hb)
      replace X7 := Lib.hid (X7.out.to hb)
      replace B := Lib.hid (B.out.trans (hb.mono B.out.size))
      clear hb RW
      have c0 := X7.out.c0
      have c1 := X7.out.c1
      rcases idxR_cases (fun x => !apartR x (4 * (j : Int), s)) l with ⟨k, hk, hp, hne, hidx⟩ | ⟨hne, hidx⟩
      · rw [hidx]
        have hp' : apartR (rat l k) (4 * (j : Int), s) = false := by simpa using hp
        have hmk : mayR (rat l k) = true := (allR_zero.1 H0.out).1 _ (rat_mem hk)
        have hfar := hinder_far hmk HMJ.out hp'
        obtain ⟨j', hj'⟩ : ∃ j' : Nat, endR (rat l k) = 4 * (j' : Int) := ⟨(endR (rat l k) / 4).toNat, by omega⟩
        have HL2 : Hid (∀ i : Nat, i < j' → fitR l (4 * (i : Int), s) = false) := fun i hi => by
          rcases Nat.lt_or_ge i j with g | g
          · exact HLOW.out i g
          · have := hinder (c := 4 * (i : Int)) hmk HMJ.out hp' (by omega) (by omega)
            rw [Bool.eq_false_iff]
            intro hf
            rw [(fitR_iff.1 hf).2 k hk] at this
            cases this
        have HJ2 : Hid (j < j' ∧ j' ≤ 1024) := ⟨by omega, by omega⟩
        have HE := Lib.hid hj'
        have hkn : k < n := by rw [← R0.out.1]; exact hk
        obtain ⟨b, o, rfl, hb, hc⟩ := (R0.out.below B.out).2 (by omega)
        have e1 := (hc k hkn).1
        have e2 := (hc k hkn).2
        have hk0 : ¬ (k : Int) < 0 := by omega
        have hkI : (k : Int) < (n : Int) := by omega
        clear hidx hne hp hp' hmk hfar hk hc hj' hb
        go_wp2_with fail
        refine (wEnd (rat l k).1 (rat l k).2 w5).mono ?_
        rw [HE.out]
        rintro e w6 ⟨rfl, hb⟩
        replace X4 := Lib.hid (X4.out.to hb)
        replace X7 := Lib.hid (X7.out.to hb)
        replace B := Lib.hid (B.out.trans (hb.mono B.out.size))
        clear hb c0 c1 e1 e2
        have c0 := X7.out.c0
        have f0 := X7.out.f0
        go_wp2_with fail
        go_roundw
        case rel => exact ⟨j', HJ2.out.2, X7.out.set0 _, X4.out.other (Nat.ne_of_lt HNE.out), B.out.setCell (p := ⟨g7, 0, none⟩) (Nat.le_of_lt HNE.out) _, HL2.out⟩
        case measure => rw [HLEFT.out, left7_of (X7.out.set0 (4 * (j' : Int)))]; have := HJ2.out; omega
      · rw [hidx]
        have HP : Hid (placeR l s = ((4 * (j : Int), s), 0)) := placeR_at HL.out H0.out HM.out HJ1.out (fitR_iff.2 ⟨HMJ.out, fun k hk => by simpa using hne k hk⟩) HLOW.out
        have d0 := X4.out.c0
        have d1 := X4.out.c1
        have f0 := X4.out.f0
        have f1 := X4.out.f1
        clear hidx hne
        go_wp2_with fail
        refine bodyPost_ret (res_reg rfl _ _ w.heap.size (4 * (j : Int)) s (.int .i64 0) rfl rfl ((X4.out.set0 _).set1 _)) rfl ⟨by rw [HP.out], (B.out.setCell (p := ⟨w.heap.size, 0, none⟩) (Nat.le_refl _) _).setCell (p := ⟨w.heap.size, 1, none⟩) (Nat.le_refl _) _⟩
end Go.Proofs.Ytggnpnicmjjfbaa
