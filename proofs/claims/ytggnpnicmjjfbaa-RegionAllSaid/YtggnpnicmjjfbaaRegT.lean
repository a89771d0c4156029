/- The document's own Place (citadelref08). -/
import Derived.Test.YtggnpnicmjjfbaaRegS
import Derived.Test.YtggnpnicmjjfbaaRegB
namespace Go.Proofs.Ytggnpnicmjjfbaa
open Go.RowKit
set_option linter.unusedVariables false
set_option linter.unusedSimpArgs false

/-- So far as the first i regions say, r fits. -/
def okR (l : List Reg) (r : Reg) (i : Nat) : Bool := mayR r && (l.take i).all fun x => apartR x r
theorem okR_zero (l : List Reg) (r : Reg) : okR l r 0 = mayR r := by simp [okR]
theorem okR_full (l : List Reg) (r : Reg) : okR l r l.length = fitR l r := by simp [okR, fitR]
theorem okR_succ {l : List Reg} {r : Reg} {i : Nat} (hi : i < l.length) (h : okR l r i = true) : okR l r (i + 1) = apartR (rat l i) r := by
  simp only [okR, Bool.and_eq_true] at h
  simp only [okR, List.take_succ_eq_append_getElem hi, List.all_append, List.all_cons, List.all_nil, h.1, h.2, rat_lt hi, Bool.true_and, Bool.and_true]
theorem okR_false {l : List Reg} {r : Reg} {i : Nat} (h : okR l r i = false) : fitR l r = false := by
  rw [Bool.eq_false_iff] at h ⊢
  intro hf
  simp only [fitR, Bool.and_eq_true, List.all_eq_true] at hf
  refine h ?_
  simp only [okR, Bool.and_eq_true, List.all_eq_true]
  exact ⟨hf.1, fun x hx => hf.2 x (List.mem_of_mem_take hx)⟩

def BaseRel (w : World) (l : List Reg) (s : Int) (t7 : Value) (wr : World) : Prop :=
  ∃ j : Nat, j ≤ 1024 ∧ t7 = .int .i64 (4 * (j : Int)) ∧ BoxR wr w.heap.size 0 0 ∧ Below w.heap.size w wr ∧ ∀ i : Nat, i < j → fitR l (4 * (i : Int), s) = false
def FitRel (w : World) (l : List Reg) (s : Int) (g8 n j : Nat) (t9 t10 : Value) (wr : World) : Prop :=
  ∃ i : Nat, i ≤ n ∧ t10 = .int .i64 (i : Int) ∧ t9 = .bool (okR l (4 * (j : Int), s) i) ∧ BoxR wr g8 (4 * (j : Int)) s ∧ BoxR wr w.heap.size 0 0 ∧ Below w.heap.size w wr

set_option maxRecDepth 1000000 in
set_option maxHeartbeats 1000000 in
theorem rPlace (A : Option Addr) (n c : Nat) (l : List Reg) (s : Int) (w : World) (h : RdG w w.heap.size A n l) (hn : n ≤ 9223372036854775806) :
    Calls Try.prog 17 #[.slice A n c, .int .i64 s] w fun e w' => RetP w (placeR l s).1 (placeR l s).2 e w' := by
  have B := Lib.hid ((Below.refl w.heap.size w).alloc (Nat.le_refl _) (.cells #[.int .i64 0, .int .i64 0] 23))
  have X4 := Lib.hid (BoxR.new w 0 0)
  have R0 := Lib.hid h
  have H := Lib.hid (h.to B.out)
  have HN := Lib.hid hn
  clear h hn
  go_enter Try.func17, Try.ntmps17
  go_wp2_with fail
  refine (rAll A n c l _ H.out HN.out).mono ?_
  rintro e w1 ⟨rfl, hb⟩
  replace X4 := Lib.hid (X4.out.to hb)
  replace B := Lib.hid (B.out.trans (hb.mono B.out.size))
  clear hb H
  by_cases h64 : 64 < n
  · have h64I : (n : Int) > 64 := by omega
    have HP := Lib.hid (placeR_long (l := l) (s := s) (by rw [R0.out.1]; exact h64))
    clear h64
    have c0 := X4.out.c0
    have c1 := X4.out.c1
    have f0 := X4.out.f0
    have f1 := X4.out.f1
    go_wp2_with fail
    refine bodyPost_ret (res_reg rfl _ _ w.heap.size 0 0 (.int .i64 2) rfl rfl ((X4.out.set0 0).set1 0)) rfl ⟨by rw [HP.out]; rfl, (B.out.setCell (p := ⟨w.heap.size, 0, none⟩) (Nat.le_refl _) _).setCell (p := ⟨w.heap.size, 1, none⟩) (Nat.le_refl _) _⟩
  have h64I : ¬ (n : Int) > 64 := by omega
  have HL : Hid (l.length ≤ 64) := by (show _ ≤ _); rw [R0.out.1]; omega
  clear h64
  have hbad : ∀ k : Int, k ≠ 0 → allR l = k → Hid (placeR l s = (reg0, k)) := fun k h1 h2 => by show _ = _; rw [← h2]; exact placeR_bad HL.out (by rw [h2]; exact h1)
  have HBAD := Lib.hid hbad
  clear hbad
  rcases allR_range l with h0 | h0 | h0
  rotate_left
  · have HP := HBAD.out 2 (by decide) h0
    rw [h0]
    clear h0
    have c0 := X4.out.c0
    have c1 := X4.out.c1
    have f0 := X4.out.f0
    have f1 := X4.out.f1
    go_wp2_with fail
    refine bodyPost_ret (res_reg rfl _ _ w.heap.size 0 0 (.int .i64 2) rfl rfl ((X4.out.set0 0).set1 0)) rfl ⟨by rw [HP.out]; rfl, (B.out.setCell (p := ⟨w.heap.size, 0, none⟩) (Nat.le_refl _) _).setCell (p := ⟨w.heap.size, 1, none⟩) (Nat.le_refl _) _⟩
  · have HP := HBAD.out 121 (by decide) h0
    rw [h0]
    clear h0
    have c0 := X4.out.c0
    have c1 := X4.out.c1
    have f0 := X4.out.f0
    have f1 := X4.out.f1
    go_wp2_with fail
    refine bodyPost_ret (res_reg rfl _ _ w.heap.size 0 0 (.int .i64 121) rfl rfl ((X4.out.set0 0).set1 0)) rfl ⟨by rw [HP.out]; rfl, (B.out.setCell (p := ⟨w.heap.size, 0, none⟩) (Nat.le_refl _) _).setCell (p := ⟨w.heap.size, 1, none⟩) (Nat.le_refl _) _⟩
  have H0 := Lib.hid h0
  rw [h0]
  clear h0 HBAD
  go_wp2_with fail
  refine (rMay 0 s w1).mono ?_
  rintro e w3 ⟨rfl, hb⟩
  replace X4 := Lib.hid (X4.out.to hb)
  replace B := Lib.hid (B.out.trans (hb.mono B.out.size))
  clear hb
  cases hm : mayR (0, s)
  · have HP := Lib.hid (placeR_size HL.out H0.out hm)
    have c0 := X4.out.c0
    have c1 := X4.out.c1
    have f0 := X4.out.f0
    have f1 := X4.out.f1
    clear hm
    go_wp2_with fail
    refine bodyPost_ret (res_reg rfl _ _ w.heap.size 0 0 (.int .i64 2) rfl rfl ((X4.out.set0 0).set1 0)) rfl ⟨by rw [HP.out]; rfl, (B.out.setCell (p := ⟨w.heap.size, 0, none⟩) (Nat.le_refl _) _).setCell (p := ⟨w.heap.size, 1, none⟩) (Nat.le_refl _) _⟩
  have HM := Lib.hid hm
  clear hm
  go_wp2_with fail
  go_loopw [7, 8, 9, 10] (fun t7 _ _ _ wr => BaseRel w l s t7 wr) (fun t7 _ _ _ _ => 4096 - (intOf t7).toNat)
  case atStart => exact ⟨0, by omega, rfl, X4.out, B.out, fun i hi => absurd hi (Nat.not_lt_zero _)⟩
  case round =>
    obtain ⟨j, hj, rfl, hx4, hB, hlow⟩ := hrel
    have HLOW := Lib.hid hlow
    clear X4 B
    by_cases hlt : j < 1024
    · have hltI : 4 * (j : Int) < 4096 := by omega
      have hw : IntKind.i64.wrap (4 * (j : Int) + 4) = 4 * (j : Int) + 4 := by rw [IntKind.wrap_i64]; omega
      have HJ : Hid (j < 1024) := hlt
      have X4 := Lib.hid (hx4.to ((Below.refl _ _).alloc (Nat.le_refl _) (.cells #[.int .i64 (4 * (j : Int)), .int .i64 s] 23)))
      have X8 := Lib.hid (BoxR.new wr (4 * (j : Int)) s)
      have B := Lib.hid (hB.alloc hB.size (.cells #[.int .i64 (4 * (j : Int)), .int .i64 s] 23))
      clear hj hlt hx4 hB hlow
      go_wp2_with fail
      generalize wr.alloc (.cells #[.int .i64 (4 * (j : Int)), .int .i64 s] 23) = w2 at *
      generalize wr.heap.size = g8 at *
      have d0 := X8.out.c0
      have d1 := X8.out.c1
      refine (rMay (4 * (j : Int)) s w2).mono ?_
      rintro e w4 ⟨rfl, hb⟩
      replace X4 := Lib.hid (X4.out.to hb)
      replace X8 := Lib.hid (X8.out.to hb)
      replace B := Lib.hid (B.out.trans (hb.mono B.out.size))
      clear hb d0 d1
      go_wp2_with fail
      go_loopw [9, 10] (fun t9 t10 wr => FitRel w l s g8 n j t9 t10 wr) (fun _ t10 _ => n - (intOf t10).toNat)
      case atStart => exact ⟨0, Nat.zero_le _, rfl, by rw [okR_zero], X8.out, X4.out, B.out⟩
      case round =>
        obtain ⟨i, hi, rfl, rfl, hx8, hx4, hB⟩ := hrel
        clear X4 X8 B
        have X4 := Lib.hid hx4
        have X8 := Lib.hid hx8
        have B := Lib.hid hB
        clear hx4 hx8 hB
        cases hq : okR l (4 * (j : Int), s) i
        · have HF := Lib.hid (okR_false hq)
          clear hq
          by_cases hin : i < n
          · have hinI : (i : Int) < (n : Int) := by omega
            clear hi hin
            go_wp2_with fail
            go_roundw
            case rel =>
              refine ⟨j + 1, HJ.out, by rw [show (4 * ((j + 1 : Nat) : Int)) = 4 * (j : Int) + 4 from by omega], X4.out, B.out, fun i' hi' => ?_⟩
              rcases Nat.lt_or_ge i' j with g | g
              · exact HLOW.out i' g
              · obtain rfl : i' = j := by omega
                exact HF.out
            case measure => have := HJ.out; simp [intOf] <;> omega
          · have hinI : ¬ (i : Int) < (n : Int) := by omega
            clear hi hin
            go_wp2_with fail
            go_roundw
            case rel =>
              refine ⟨j + 1, HJ.out, by rw [show (4 * ((j + 1 : Nat) : Int)) = 4 * (j : Int) + 4 from by omega], X4.out, B.out, fun i' hi' => ?_⟩
              rcases Nat.lt_or_ge i' j with g | g
              · exact HLOW.out i' g
              · obtain rfl : i' = j := by omega
                exact HF.out
            case measure => have := HJ.out; simp [intOf] <;> omega
        · by_cases hin : i < n
          · have hinI : (i : Int) < (n : Int) := by omega
            have HI : Hid (i < n) := hin
            have HO := Lib.hid (okR_succ (by rw [R0.out.1]; exact hin) hq)
            obtain ⟨b, o, rfl, hbo, hc⟩ := (R0.out.below B.out).2 (by omega)
            have e0 := (hc i hin).1
            have e1 := (hc i hin).2
            have d0 := X8.out.c0
            have d1 := X8.out.c1
            have hw1 : IntKind.i64.wrap ((i : Int) + 1) = (i : Int) + 1 := by have := HN.out; rw [IntKind.wrap_i64]; omega
            clear hq hi hin hc hbo
            go_wp2_with fail
            replace B := Lib.hid B.out.drew
            replace X4 : Hid (BoxR wr.drew w.heap.size 0 0) := X4.out
            replace X8 : Hid (BoxR wr.drew g8 (4 * (j : Int)) s) := X8.out
            replace e0 : wr.drew.cell? ⟨b, o + i * 2, none⟩ = some (.int .i64 (rat l i).1) := e0
            replace e1 : wr.drew.cell? ⟨b, o + i * 2 + 1, none⟩ = some (.int .i64 (rat l i).2) := e1
            replace d0 : wr.drew.cell? ⟨g8, 0, none⟩ = some (.int .i64 (4 * (j : Int))) := d0
            replace d1 : wr.drew.cell? ⟨g8, 1, none⟩ = some (.int .i64 s) := d1
            refine wp_region_held_drew (S := (fun w' => w'.cell? ⟨b, o + i * 2, none⟩ = some (.int .i64 (rat l i).1) ∧ w'.cell? ⟨b, o + i * 2 + 1, none⟩ = some (.int .i64 (rat l i).2) ∧ w'.cell? ⟨g8, 0, none⟩ = some (.int .i64 (4 * (j : Int))) ∧ w'.cell? ⟨g8, 1, none⟩ = some (.int .i64 s))) (by kernel_rfl) (⟨e0, e1, d0, d1⟩) (fun hHeld => ?_)
            generalize wr.drew = wd at *
            refine wpAnyH_take (i := 0) (v := ?_) rfl (by kernel_rfl) (by kernel_rfl) (by kernel_rfl) (fun _ _ _ h => h) (Or.inl ⟨by rfl, ?_⟩) (by assumption) ?_
            rotate_left 1
            · intro w hSw; (try dsimp only at hSw); go_simp; (try with_reducible rfl)
            simp only [Act.put, List.getElem_toArray, List.getElem_cons_zero, List.getElem_cons_succ, List.setIfInBounds_toArray, List.set_cons_zero, List.set_cons_succ]
            refine wpAnyH_take (i := 1) (v := ?_) rfl (by kernel_rfl) (by kernel_rfl) (by kernel_rfl) (fun _ _ _ h => h) (Or.inl ⟨by rfl, ?_⟩) (by assumption) ?_
            rotate_left 1
            · intro w hSw; (try dsimp only at hSw); go_simp; (try with_reducible rfl)
            simp only [Act.put, List.getElem_toArray, List.getElem_cons_zero, List.getElem_cons_succ, List.setIfInBounds_toArray, List.set_cons_zero, List.set_cons_succ]
            refine wpAnyH_take (i := 2) (v := ?_) rfl (by kernel_rfl) (by kernel_rfl) (by kernel_rfl) (fun _ _ _ h => h) (Or.inl ⟨by rfl, ?_⟩) (by assumption) ?_
            rotate_left 1
            · intro w hSw; (try dsimp only at hSw); go_simp; (try with_reducible rfl)
            simp only [Act.put, List.getElem_toArray, List.getElem_cons_zero, List.getElem_cons_succ, List.setIfInBounds_toArray, List.set_cons_zero, List.set_cons_succ]
            refine wpAnyH_take (i := 3) (v := ?_) rfl (by kernel_rfl) (by kernel_rfl) (by kernel_rfl) (fun _ _ _ h => h) (Or.inl ⟨by rfl, ?_⟩) (by assumption) ?_
            rotate_left 1
            · intro w hSw; (try dsimp only at hSw); go_simp; (try with_reducible rfl)
            simp only [Act.put, List.getElem_toArray, List.getElem_cons_zero, List.getElem_cons_succ, List.setIfInBounds_toArray, List.set_cons_zero, List.set_cons_succ]
            refine wpAnyH_take (i := 4) (v := ?_) rfl (by kernel_rfl) (by kernel_rfl) (by kernel_rfl) (fun _ _ _ h => h) (Or.inl ⟨by rfl, ?_⟩) (by assumption) ?_
            rotate_left 1
            · intro w hSw; (try dsimp only at hSw); go_simp; (try with_reducible rfl)
            simp only [Act.put, List.getElem_toArray, List.getElem_cons_zero, List.getElem_cons_succ, List.setIfInBounds_toArray, List.set_cons_zero, List.set_cons_succ]
            refine wpAnyH_ready (rs := [5]) (by kernel_rfl) (by simp) ?_
            refine AllReadyH.cons rfl (fun K hK => ?_) AllReadyH.nil
            go_simp
            refine (rApart (rat l i).1 (rat l i).2 (4 * (j : Int)) s _).mono ?_
            rintro e w3 ⟨rfl, hb⟩
            go_wp2_with fail
            refine hK.out _ _ (⟨Below.kept hb e0, Below.kept hb e1, Below.kept hb d0, Below.kept hb d1⟩) (fun hHeld => ?_)
            clear hK K
            refine wpAnyH_take (i := 6) (v := ?_) rfl (by kernel_rfl) (by kernel_rfl) (by kernel_rfl) (fun _ _ _ h => h) (Or.inl ⟨by rfl, ?_⟩) (by assumption) ?_
            rotate_left 1
            · intro w hSw; (try dsimp only at hSw); go_simp; (try with_reducible rfl)
            simp only [Act.put, List.getElem_toArray, List.getElem_cons_zero, List.getElem_cons_succ, List.setIfInBounds_toArray, List.set_cons_zero, List.set_cons_succ]
            refine wpAnyH_done (by kernel_rfl) ?_ _
            clear hHeld
            replace B := Lib.hid (B.out.trans (hb.mono B.out.size))
            replace X4 := Lib.hid (X4.out.to hb)
            replace X8 := Lib.hid (X8.out.to hb)
            clear hb e0 e1 d0 d1
            go_wp2_with fail
            go_roundw
            case rel => exact ⟨i + 1, HI.out, by go_num, by rw [HO.out], X8.out, X4.out, B.out⟩
            case measure => have := HI.out; simp [intOf]; omega
          · obtain rfl : i = n := by omega
            have hinI : ¬ (i : Int) < (i : Int) := by omega
            have HP : Hid (placeR l s = ((4 * (j : Int), s), 0)) := placeR_at HL.out H0.out HM.out HJ.out (by rw [← okR_full, R0.out.1]; exact hq) HLOW.out
            have d0 := X8.out.c0
            have d1 := X8.out.c1
            have c0 := X4.out.c0
            have c1 := X4.out.c1
            have f0 := X4.out.f0
            have f1 := X4.out.f1
            clear hq hi hin
            go_wp2_with fail
            refine bodyPost_ret (res_reg rfl _ _ w.heap.size (4 * (j : Int)) s (.int .i64 0) rfl rfl ((X4.out.set0 _).set1 _)) rfl ⟨by rw [HP.out], (B.out.setCell (p := ⟨w.heap.size, 0, none⟩) (Nat.le_refl _) _).setCell (p := ⟨w.heap.size, 1, none⟩) (Nat.le_refl _) _⟩
    · obtain rfl : j = 1024 := by omega
      have HP : Hid (placeR l s = (reg0, 4)) := placeR_full HL.out H0.out HM.out hlow
      have X4 := Lib.hid hx4
      have B := Lib.hid hB
      have c0 := X4.out.c0
      have c1 := X4.out.c1
      have f0 := X4.out.f0
      have f1 := X4.out.f1
      clear hj hlt hx4 hB hlow
      go_wp2_with fail
      refine bodyPost_ret (res_reg rfl _ _ w.heap.size 0 0 (.int .i64 4) rfl rfl ((X4.out.set0 0).set1 0)) rfl ⟨by rw [HP.out]; rfl, (B.out.setCell (p := ⟨w.heap.size, 0, none⟩) (Nat.le_refl _) _).setCell (p := ⟨w.heap.size, 1, none⟩) (Nat.le_refl _) _⟩
end Go.Proofs.Ytggnpnicmjjfbaa
