/- Several texts in one (a claim has 60 files at most): VaI, VaS, VaX. -/
import Derived.Test.YtnaegbnijbdgbaaVaPq
import Derived.Test.YtnaegbnijbdgbaaVaM
import Derived.Test.YtnaegbnijbdgbaaCfZ
import Derived.Test.YtnaegbnijbdgbaaCfBq
import Derived.Test.YtnaegbnijbdgbaaCfLq
import Derived.Deep.DeepCutAuto
namespace Go.Proofs.Ytnaegbnijbdgbaa

/- The laws' own helper of layer 12: is. -/
section
open Go.RowKit
set_option linter.unusedVariables false
set_option linter.unusedSimpArgs false

theorem zat_ext {a b : List Int} (hl : a.length = b.length) (h : ∀ j, j < a.length → zat a j = zat b j) : a = b := by
  apply List.ext_getElem hl
  intro i h1 h2
  have := h i h1
  rwa [zat_of_lt h1, zat_of_lt h2] at this
set_option maxRecDepth 1000000 in
set_option maxHeartbeats 1000000 in
theorem lIs (v : CV) (c : Cf) (A : Option Addr) (n k : Nat) (l : List Int) (w : World) (h : RdCf w w.heap.size v c) (hl : RdZ w w.heap.size A n l) (hw : v.nw ≤ 1000) (hp : v.np ≤ 1000) (hc : v.nc ≤ 1000) :
    Calls Try.prog 21 #[.agg #[.slice v.aw v.nw v.kw, .slice v.ap v.np v.kp, .slice v.ac v.nc v.kc], .slice A n k] w fun x w' => x = .returned (.bool (decide (allV c = l))) ∧ Below w.heap.size w w' := by
  have hb1 := (Below.refl w.heap.size w).alloc (Nat.le_refl _) (.cells #[.slice v.aw v.nw v.kw, .slice v.ap v.np v.kp, .slice v.ac v.nc v.kc] 26)
  have hx : Bx (w.alloc (.cells #[.slice v.aw v.nw v.kw, .slice v.ap v.np v.kp, .slice v.ac v.nc v.kc] 26)) w.heap.size 26 (cfL v) := Bx.new w _ (cfL v)
  have R := Lib.hid (h.to hb1)
  have L := Lib.hid (hl.to hb1)
  have B := Lib.hid hb1
  have X := Lib.hid hx
  have HNW := Lib.hid hw
  have HNP := Lib.hid hp
  have HNC := Lib.hid hc
  clear h hl hw hp hc hb1 hx
  go_enter Try.func21, Try.ntmps21
  go_upto_region 1 with (fail)
  generalize w.alloc (.cells #[.slice v.aw v.nw v.kw, .slice v.ap v.np v.kp, .slice v.ac v.nc v.kc] 26) = w1 at *
  have p1 := X.out.at (j := 0) rfl
  have p2 := X.out.at (j := 1) rfl
  have p3 := X.out.at (j := 2) rfl
  go_wp2_with fail
  refine (wAllV v c w1 R.out HNW.out HNP.out HNC.out).mono ?_
  rintro e w2 ⟨A2, m, k2, rfl, ho, hb⟩
  replace B := Lib.hid (B.out.trans (hb.mono B.out.size))
  replace L := Lib.hid (L.out.to hb)
  have Z := Lib.hid ho
  have HM5 : Hid (m ≤ 5) := by (show _ ≤ _); have := ho.1; have := allV_len c; omega
  clear ho hb p1 p2 p3 R X
  by_cases hmn : m = n
  rotate_left 1
  · have h1 : ((m : Int) != (n : Int)) = true := by rw [bne_iff_ne]; omega
    have HF : Hid (false = decide (allV c = l)) := by
      (show _ = _)
      rw [decide_eq_false]
      intro e
      exact hmn (by rw [← Z.out.1, ← L.out.1, e])
    clear hmn
    go_wp2_with fail
    go_ret
    exact ⟨ret_bool HF.out, B.out⟩
  subst hmn
  have h1 : ((m : Int) != (m : Int)) = false := by simp
  go_wp2_with fail
  clear h1
  go_loopw [6] (fun i wr => ∃ j : Nat, j ≤ m ∧ i = .int .i64 (j : Int) ∧ (∀ q, q < j → zat (allV c) q = zat l q) ∧ Below w2.heap.size w2 wr) (fun i _ => m - (intOf i).toNat)
  case atStart => exact ⟨0, Nat.zero_le _, rfl, fun q hq => by omega, Below.refl _ _⟩
  case round =>
    obtain ⟨j, hj, rfl, hq, hbel⟩ := hrel
    have BD := Lib.hid hbel
    have HJ := Lib.hid hj
    have HQ := Lib.hid hq
    clear hj hq hbel
    by_cases hlt : j < m
    · have hltI : (j : Int) < (m : Int) := by omega
      have HLT := Lib.hid hlt
      have hwj : IntKind.i64.wrap ((j : Int) + 1) = (j : Int) + 1 := by have := HM5.out; rw [IntKind.wrap_i64]; omega
      obtain ⟨b1, o1, hA1, hB1, hc1⟩ := Z.out.2 (by omega)
      obtain ⟨b2, o2, hA2, hB2, hc2⟩ := L.out.2 (by omega)
      subst hA1 hA2
      obtain ⟨x, hx⟩ : ∃ x, zat (allV c) j = x := ⟨_, rfl⟩
      obtain ⟨y, hy⟩ : ∃ x, zat l j = x := ⟨_, rfl⟩
      have HX : Hid (w2.cell? ⟨b1, o1 + j, none⟩ = some (.int .i64 x)) := by (show _ = _); rw [← hx]; exact hc1 j hlt
      have HY : Hid (w2.cell? ⟨b2, o2 + j, none⟩ = some (.int .i64 y)) := by (show _ = _); rw [← hy]; exact hc2 j hlt
      have HB1 := Lib.hid hB1
      have HB2 := Lib.hid hB2
      clear hc1 hc2 hB1 hB2 hlt
      by_cases hxy : x = y
      · have hz : (x != y) = false := by simp [hxy]
        have HQ2 : Hid (∀ q, q < j + 1 → zat (allV c) q = zat l q) := fun q hq => by
          rcases Nat.lt_or_ge q j with g | g
          · exact HQ.out q g
          · obtain rfl : q = j := by omega
            rw [hx, hy, hxy]
        clear hxy hx hy
        go_upto_region 7 with (fail)
        obtain ⟨wd, hwd⟩ : ∃ wd, wr.drew = wd := ⟨_, rfl⟩
        refine wp_region_held_drew (S := (fun w' => Below w2.heap.size w2 w')) (by kernel_rfl) (BD.out.drew) (fun hHeld => ?_)
        rw [hwd] at hHeld ⊢
        clear hwd
        refine wpAnyH_take (i := 0) (v := ?_) rfl (by kernel_rfl) (by kernel_rfl) (by kernel_rfl) (fun _ _ _ h => h) (Or.inl ⟨by rfl, ?_⟩) (by assumption) ?_
        rotate_left 1
        · intro w hSw; (try dsimp only at hSw); go_simp; (try with_reducible rfl)
        simp only [Act.put, List.getElem_toArray, List.getElem_cons_zero, List.getElem_cons_succ, List.setIfInBounds_toArray, List.set_cons_zero, List.set_cons_succ]
        refine wpAnyH_take (i := 1) (v := ?_) rfl (by kernel_rfl) (by kernel_rfl) (by kernel_rfl) (fun _ _ _ h => h) (Or.inl ⟨by rfl, ?_⟩) (by assumption) ?_
        rotate_left 1
        · intro w hSw; (try dsimp only at hSw); go_simp; (try with_reducible rfl)
        simp only [Act.put, List.getElem_toArray, List.getElem_cons_zero, List.getElem_cons_succ, List.setIfInBounds_toArray, List.set_cons_zero, List.set_cons_succ]
        refine wpAnyH_take (i := 2) (v := ?_) rfl (by kernel_rfl) (by kernel_rfl) (by kernel_rfl) (fun _ _ _ h => h) (Or.inl ⟨by rfl, ?_⟩) (by assumption) ?_
        rotate_left 1
        · intro w hSw; (try dsimp only at hSw); go_simp; (try with_reducible rfl)
        simp only [Act.put, List.getElem_toArray, List.getElem_cons_zero, List.getElem_cons_succ, List.setIfInBounds_toArray, List.set_cons_zero, List.set_cons_succ]
        refine wpAnyH_take (i := 3) (v := ?_) rfl (by kernel_rfl) (by kernel_rfl) (by kernel_rfl) (fun _ _ _ h => h) (Or.inl ⟨by rfl, ?_⟩) (by assumption) ?_
        rotate_left 1
        · intro w hSw; (try dsimp only at hSw); have t1 := (hSw.cell (p := ⟨b1, o1 + j, none⟩) HB1.out).trans HX.out; go_simp; (try with_reducible rfl)
        simp only [Act.put, List.getElem_toArray, List.getElem_cons_zero, List.getElem_cons_succ, List.setIfInBounds_toArray, List.set_cons_zero, List.set_cons_succ]
        refine wpAnyH_take (i := 4) (v := ?_) rfl (by kernel_rfl) (by kernel_rfl) (by kernel_rfl) (fun _ _ _ h => h) (Or.inl ⟨by rfl, ?_⟩) (by assumption) ?_
        rotate_left 1
        · intro w hSw; (try dsimp only at hSw); go_simp; (try with_reducible rfl)
        simp only [Act.put, List.getElem_toArray, List.getElem_cons_zero, List.getElem_cons_succ, List.setIfInBounds_toArray, List.set_cons_zero, List.set_cons_succ]
        refine wpAnyH_take (i := 5) (v := ?_) rfl (by kernel_rfl) (by kernel_rfl) (by kernel_rfl) (fun _ _ _ h => h) (Or.inl ⟨by rfl, ?_⟩) (by assumption) ?_
        rotate_left 1
        · intro w hSw; (try dsimp only at hSw); go_simp; (try with_reducible rfl)
        simp only [Act.put, List.getElem_toArray, List.getElem_cons_zero, List.getElem_cons_succ, List.setIfInBounds_toArray, List.set_cons_zero, List.set_cons_succ]
        refine wpAnyH_take (i := 6) (v := ?_) rfl (by kernel_rfl) (by kernel_rfl) (by kernel_rfl) (fun _ _ _ h => h) (Or.inl ⟨by rfl, ?_⟩) (by assumption) ?_
        rotate_left 1
        · intro w hSw; (try dsimp only at hSw); go_simp; (try with_reducible rfl)
        simp only [Act.put, List.getElem_toArray, List.getElem_cons_zero, List.getElem_cons_succ, List.setIfInBounds_toArray, List.set_cons_zero, List.set_cons_succ]
        refine wpAnyH_take (i := 7) (v := ?_) rfl (by kernel_rfl) (by kernel_rfl) (by kernel_rfl) (fun _ _ _ h => h) (Or.inl ⟨by rfl, ?_⟩) (by assumption) ?_
        rotate_left 1
        · intro w hSw; (try dsimp only at hSw); have t1 := (hSw.cell (p := ⟨b2, o2 + j, none⟩) HB2.out).trans HY.out; go_simp; (try with_reducible rfl)
        simp only [Act.put, List.getElem_toArray, List.getElem_cons_zero, List.getElem_cons_succ, List.setIfInBounds_toArray, List.set_cons_zero, List.set_cons_succ]
        refine wpAnyH_take (i := 8) (v := ?_) rfl (by kernel_rfl) (by kernel_rfl) (by kernel_rfl) (fun _ _ _ h => h) (Or.inl ⟨by rfl, ?_⟩) (by assumption) ?_
        rotate_left 1
        · intro w hSw; (try dsimp only at hSw); go_simp; (try with_reducible rfl)
        simp only [Act.put, List.getElem_toArray, List.getElem_cons_zero, List.getElem_cons_succ, List.setIfInBounds_toArray, List.set_cons_zero, List.set_cons_succ]
        refine wpAnyH_done (by kernel_rfl) ?_ _
        have BE := Lib.hid hHeld
        clear hHeld hz
        go_wp2_with fail
        go_roundw
        case rel => exact ⟨j + 1, HLT.out, by go_num, HQ2.out, BE.out⟩
        case measure => simp [intOf]; omega
      · have hz : (x != y) = true := bne_iff_ne.2 hxy
        have HF : Hid (false = decide (allV c = l)) := by
          (show _ = _)
          rw [decide_eq_false]
          intro e
          exact hxy (by rw [← hx, ← hy, e])
        clear hxy hx hy
        go_upto_region 7 with (fail)
        obtain ⟨wd, hwd⟩ : ∃ wd, wr.drew = wd := ⟨_, rfl⟩
        refine wp_region_held_drew (S := (fun w' => Below w2.heap.size w2 w')) (by kernel_rfl) (BD.out.drew) (fun hHeld => ?_)
        rw [hwd] at hHeld ⊢
        clear hwd
        refine wpAnyH_take (i := 0) (v := ?_) rfl (by kernel_rfl) (by kernel_rfl) (by kernel_rfl) (fun _ _ _ h => h) (Or.inl ⟨by rfl, ?_⟩) (by assumption) ?_
        rotate_left 1
        · intro w hSw; (try dsimp only at hSw); go_simp; (try with_reducible rfl)
        simp only [Act.put, List.getElem_toArray, List.getElem_cons_zero, List.getElem_cons_succ, List.setIfInBounds_toArray, List.set_cons_zero, List.set_cons_succ]
        refine wpAnyH_take (i := 1) (v := ?_) rfl (by kernel_rfl) (by kernel_rfl) (by kernel_rfl) (fun _ _ _ h => h) (Or.inl ⟨by rfl, ?_⟩) (by assumption) ?_
        rotate_left 1
        · intro w hSw; (try dsimp only at hSw); go_simp; (try with_reducible rfl)
        simp only [Act.put, List.getElem_toArray, List.getElem_cons_zero, List.getElem_cons_succ, List.setIfInBounds_toArray, List.set_cons_zero, List.set_cons_succ]
        refine wpAnyH_take (i := 2) (v := ?_) rfl (by kernel_rfl) (by kernel_rfl) (by kernel_rfl) (fun _ _ _ h => h) (Or.inl ⟨by rfl, ?_⟩) (by assumption) ?_
        rotate_left 1
        · intro w hSw; (try dsimp only at hSw); go_simp; (try with_reducible rfl)
        simp only [Act.put, List.getElem_toArray, List.getElem_cons_zero, List.getElem_cons_succ, List.setIfInBounds_toArray, List.set_cons_zero, List.set_cons_succ]
        refine wpAnyH_take (i := 3) (v := ?_) rfl (by kernel_rfl) (by kernel_rfl) (by kernel_rfl) (fun _ _ _ h => h) (Or.inl ⟨by rfl, ?_⟩) (by assumption) ?_
        rotate_left 1
        · intro w hSw; (try dsimp only at hSw); have t1 := (hSw.cell (p := ⟨b1, o1 + j, none⟩) HB1.out).trans HX.out; go_simp; (try with_reducible rfl)
        simp only [Act.put, List.getElem_toArray, List.getElem_cons_zero, List.getElem_cons_succ, List.setIfInBounds_toArray, List.set_cons_zero, List.set_cons_succ]
        refine wpAnyH_take (i := 4) (v := ?_) rfl (by kernel_rfl) (by kernel_rfl) (by kernel_rfl) (fun _ _ _ h => h) (Or.inl ⟨by rfl, ?_⟩) (by assumption) ?_
        rotate_left 1
        · intro w hSw; (try dsimp only at hSw); go_simp; (try with_reducible rfl)
        simp only [Act.put, List.getElem_toArray, List.getElem_cons_zero, List.getElem_cons_succ, List.setIfInBounds_toArray, List.set_cons_zero, List.set_cons_succ]
        refine wpAnyH_take (i := 5) (v := ?_) rfl (by kernel_rfl) (by kernel_rfl) (by kernel_rfl) (fun _ _ _ h => h) (Or.inl ⟨by rfl, ?_⟩) (by assumption) ?_
        rotate_left 1
        · intro w hSw; (try dsimp only at hSw); go_simp; (try with_reducible rfl)
        simp only [Act.put, List.getElem_toArray, List.getElem_cons_zero, List.getElem_cons_succ, List.setIfInBounds_toArray, List.set_cons_zero, List.set_cons_succ]
        refine wpAnyH_take (i := 6) (v := ?_) rfl (by kernel_rfl) (by kernel_rfl) (by kernel_rfl) (fun _ _ _ h => h) (Or.inl ⟨by rfl, ?_⟩) (by assumption) ?_
        rotate_left 1
        · intro w hSw; (try dsimp only at hSw); go_simp; (try with_reducible rfl)
        simp only [Act.put, List.getElem_toArray, List.getElem_cons_zero, List.getElem_cons_succ, List.setIfInBounds_toArray, List.set_cons_zero, List.set_cons_succ]
        refine wpAnyH_take (i := 7) (v := ?_) rfl (by kernel_rfl) (by kernel_rfl) (by kernel_rfl) (fun _ _ _ h => h) (Or.inl ⟨by rfl, ?_⟩) (by assumption) ?_
        rotate_left 1
        · intro w hSw; (try dsimp only at hSw); have t1 := (hSw.cell (p := ⟨b2, o2 + j, none⟩) HB2.out).trans HY.out; go_simp; (try with_reducible rfl)
        simp only [Act.put, List.getElem_toArray, List.getElem_cons_zero, List.getElem_cons_succ, List.setIfInBounds_toArray, List.set_cons_zero, List.set_cons_succ]
        refine wpAnyH_take (i := 8) (v := ?_) rfl (by kernel_rfl) (by kernel_rfl) (by kernel_rfl) (fun _ _ _ h => h) (Or.inl ⟨by rfl, ?_⟩) (by assumption) ?_
        rotate_left 1
        · intro w hSw; (try dsimp only at hSw); go_simp; (try with_reducible rfl)
        simp only [Act.put, List.getElem_toArray, List.getElem_cons_zero, List.getElem_cons_succ, List.setIfInBounds_toArray, List.set_cons_zero, List.set_cons_succ]
        refine wpAnyH_done (by kernel_rfl) ?_ _
        have BE := Lib.hid (B.out.trans (hHeld.mono B.out.size))
        clear hHeld
        go_wp2_with fail
        go_ret
        exact ⟨ret_bool HF.out, BE.out⟩
    · obtain rfl : j = m := by have := HJ.out; omega
      have HF : Hid (true = decide (allV c = l)) := by
        (show _ = _)
        rw [decide_eq_true (zat_ext (Z.out.1.trans L.out.1.symm) (fun q hq => HQ.out q (by rw [← Z.out.1]; exact hq)))]
      have BE := Lib.hid (B.out.trans (BD.out.mono B.out.size))
      clear hlt
      go_wp2_with fail
      go_ret
      exact ⟨ret_bool HF.out, BE.out⟩
end

/- The laws' own helper of layer 12: shown; configurations of one window and one partition, cell by cell. -/
section
open Go.RowKit
set_option linter.unusedVariables false
set_option linter.unusedSimpArgs false

theorem own_oneV {w : World} {g B z : Nat} {U : TypeId} {xs : List Value} (h : Bx w g U xs) (hl : xs.length = z) (hB : B ≤ g) : w.ownsRow B U z (.slice (some ⟨g, 0, none⟩) 1 1) 1 xs := by
  have h' : w.heap[g]? = some (.cells xs.toArray U (0, 0)) := h
  refine ⟨by omega, .inr ⟨g, 1, xs.toArray, rfl, hB, h', Nat.le_refl _, by unfold maxLen; omega, by simp [hl], ?_⟩⟩
  show xs.take (1 * z) = xs
  rw [List.take_of_length_le (by omega)]
/-- A row of the call's own in a block, whole. -/
theorem own_blk {w : World} {g B n z : Nat} {U : TypeId} {xs : List Value} (h : Bx w g U xs) (hl : xs.length = n * z) (hn : n ≤ 1000) (hB : B ≤ g) : w.ownsRow B U z (.slice (some ⟨g, 0, none⟩) n n) n xs := by
  have h' : w.heap[g]? = some (.cells xs.toArray U (0, 0)) := h
  refine ⟨hl, .inr ⟨g, n, xs.toArray, rfl, hB, h', Nat.le_refl _, by unfold maxLen; omega, by simp [hl], ?_⟩⟩
  rw [List.take_of_length_le (Nat.le_of_eq hl)]
theorem rd_ww {w : World} {g : Nat} {a b : Int} (h : Bx w g 49 [.int .i64 a, .int .i64 b]) : RdG w w.heap.size (some ⟨g, 0, none⟩) 1 [(a, b)] :=
  RdG.of_ownV (B := 0) (own_oneV h rfl (Nat.zero_le _))
theorem rd_cc {w : World} {g : Nat} {a b d e s : Int} (h : Bx w g 51 [.int .i64 a, .int .i64 b, .int .i64 d, .int .i64 e, .int .i64 s]) : RdC w w.heap.size (some ⟨g, 0, none⟩) 1 [⟨a, b, d, e, s⟩] :=
  RdC.of_ownV (B := 0) (own_oneV h rfl (Nat.zero_le _))
/-- A partition whose image is nil. -/
def qp0 (id base size : Int) (keep : Bool) : QP := ⟨⟨id, base, size, keep, []⟩, none, 0, 0⟩
theorem img0 (w : World) (B : Nat) (id base size : Int) (keep : Bool) : Img w B (qp0 id base size keep) :=
  ⟨⟨Rd.nil _ _ _, fun h => absurd h (Nat.lt_irrefl 0)⟩, Nat.le_refl _, (show (0 : Nat) ≤ 9223372036854775807 by decide), (show (0 : Nat) ≤ 140737488351232 by decide)⟩
theorem own_pp {w : World} {g B : Nat} {id base size : Int} {keep : Bool} (h : Bx w g 45 [.int .i64 id, .int .i64 base, .int .i64 size, .bool keep, .slice none 0 0]) (hB : B ≤ g) :
    OwnP w B (.slice (some ⟨g, 0, none⟩) 1 1) [qp0 id base size keep] := by
  refine ⟨own_oneV h rfl hB, fun q hq => ?_, fun q hq b hb => ?_⟩
  · obtain rfl := List.mem_singleton.1 hq
    exact img0 _ _ _ _ _ _
  · obtain rfl := List.mem_singleton.1 hq
    exact fun h => absurd h (Nat.lt_irrefl 0)
theorem rd_pp {w : World} {g : Nat} {id base size : Int} {keep : Bool} (h : Bx w g 45 [.int .i64 id, .int .i64 base, .int .i64 size, .bool keep, .slice none 0 0]) : RdP w w.heap.size (some ⟨g, 0, none⟩) 1 [⟨id, base, size, keep, []⟩] :=
  (own_pp h (Nat.zero_le _)).rd
theorem rd_ccnil (w : World) : RdC w w.heap.size none 0 [] := ⟨rfl, fun h => absurd h (Nat.lt_irrefl 0)⟩
theorem shown_worldV (w : World) : ∃ w3, (((w.alloc (.cells #[.slice (some ⟨w.heap.size + 1, 0, none⟩) 1 1, .slice (some ⟨w.heap.size + 1 + 1, 0, none⟩) 1 1, .slice none 0 0] 26)).alloc (.cells #[.int .i64 2, .int .i64 1] 49)).alloc (.cells #[.int .i64 1, .int .i64 0, .int .i64 16, .bool false, .slice none 0 0] 45)) = w3 ∧ Below w.heap.size w w3 ∧
    Bx w3 w.heap.size 26 [.slice (some ⟨w.heap.size + 1, 0, none⟩) 1 1, .slice (some ⟨w.heap.size + 1 + 1, 0, none⟩) 1 1, .slice none 0 0] ∧ Bx w3 (w.heap.size + 1) 49 [.int .i64 2, .int .i64 1] ∧ Bx w3 (w.heap.size + 1 + 1) 45 [.int .i64 1, .int .i64 0, .int .i64 16, .bool false, .slice none 0 0] := by
  refine ⟨_, rfl, ?_⟩
  have x1 := Bx.new w 26 [.slice (some ⟨w.heap.size + 1, 0, none⟩) 1 1, .slice (some ⟨w.heap.size + 1 + 1, 0, none⟩) 1 1, .slice none 0 0]
  have b1 := (Below.refl w.heap.size w).alloc (Nat.le_refl _) (.cells #[.slice (some ⟨w.heap.size + 1, 0, none⟩) 1 1, .slice (some ⟨w.heap.size + 1 + 1, 0, none⟩) 1 1, .slice none 0 0] 26)
  have e1 : (w.alloc (.cells #[.slice (some ⟨w.heap.size + 1, 0, none⟩) 1 1, .slice (some ⟨w.heap.size + 1 + 1, 0, none⟩) 1 1, .slice none 0 0] 26)).heap.size = w.heap.size + 1 := by simp
  generalize hw1 : w.alloc (.cells #[.slice (some ⟨w.heap.size + 1, 0, none⟩) 1 1, .slice (some ⟨w.heap.size + 1 + 1, 0, none⟩) 1 1, .slice none 0 0] 26) = w1 at *
  clear hw1
  have x2 : Bx (w1.alloc (.cells #[.int .i64 2, .int .i64 1] 49)) (w.heap.size + 1) 49 [.int .i64 2, .int .i64 1] := by rw [← e1]; exact Bx.new w1 _ [.int .i64 2, .int .i64 1]
  have a2 := (Below.refl w1.heap.size w1).alloc (Nat.le_refl _) (.cells #[.int .i64 2, .int .i64 1] 49)
  have e2 : (w1.alloc (.cells #[.int .i64 2, .int .i64 1] 49)).heap.size = w.heap.size + 1 + 1 := by simp [e1]
  generalize w1.alloc (.cells #[.int .i64 2, .int .i64 1] 49) = w2 at *
  have x3 : Bx (w2.alloc (.cells #[.int .i64 1, .int .i64 0, .int .i64 16, .bool false, .slice none 0 0] 45)) (w.heap.size + 1 + 1) 45 [.int .i64 1, .int .i64 0, .int .i64 16, .bool false, .slice none 0 0] := by
    have hx := Bx.new w2 45 [.int .i64 1, .int .i64 0, .int .i64 16, .bool false, .slice none 0 0]
    rw [e2] at hx
    exact hx
  have a3 := (Below.refl w2.heap.size w2).alloc (Nat.le_refl _) (.cells #[.int .i64 1, .int .i64 0, .int .i64 16, .bool false, .slice none 0 0] 45)
  exact ⟨(b1.trans (a2.mono (by omega))).trans (a3.mono (by omega)), (x1.to a2).to a3, x2.to a3, x3⟩
set_option maxRecDepth 1000000 in
set_option maxHeartbeats 1000000 in
theorem lShownV (w : World) : Calls Try.prog 30 #[] w fun x w' => ∃ gw gp : Nat, x = .returned (.agg #[.slice (some ⟨gw, 0, none⟩) 1 1, .slice (some ⟨gp, 0, none⟩) 1 1, .slice none 0 0]) ∧
    Bx w' gw 49 [.int .i64 2, .int .i64 1] ∧ Bx w' gp 45 [.int .i64 1, .int .i64 0, .int .i64 16, .bool false, .slice none 0 0] ∧ w.heap.size ≤ gw ∧ w.heap.size ≤ gp ∧ gw ≠ gp ∧ Below w.heap.size w w' := by
  go_enter Try.func30, Try.ntmps30
  go_wp2_with fail
  obtain ⟨w3, hw3, hb, x1, x2, x3⟩ := shown_worldV w
  rw [hw3]
  exact bodyPost_ret (res_cf1 rfl _ _ w.heap.size _ _ _ rfl x1) rfl ⟨w.heap.size + 1, w.heap.size + 1 + 1, rfl, x2, x3, by omega, by omega, by omega, hb⟩
/-- The chapter's rows, in plain words. -/
def shP : Pt := ⟨1, 0, 16, false, []⟩
theorem allE_nil : allE [] = 0 := by unfold allE; simp [ascC]
theorem allE_one {c : Ch} (h : mayC c = true) : allE [c] = 0 := by
  unfold allE
  rw [if_neg (by simp [h]), if_pos]
  intro j hj
  simp at hj
theorem allV_of {c : Cf} {a b d e f : Bool} (h1 : fltW c = a) (h2 : fltP c = b) (h3 : fltR c = d) (h4 : fltO c = e) (h5 : fltC c = f) : allV c = more a 90 ++ more b 120 ++ more d 80 ++ more e 121 ++ more f 100 := by
  unfold allV
  rw [h1, h2, h3, h4, h5]
theorem fltC_nil {ws : List Reg} {ps : List Pt} : fltC ⟨ws, ps, []⟩ = false := by
  unfold fltC
  simp [allE_nil, anyN]
theorem sh_ok : allV ⟨[(2, 1)], [shP], []⟩ = [] := allV_of (a := false) (b := false) (d := false) (e := false) (f := false) (by unfold fltW; decide) (by unfold fltP; decide) (by unfold fltR; decide) (by unfold fltO; decide) fltC_nil
theorem sh_win : allV ⟨[(2, 2)], [shP], []⟩ = [90] := allV_of (a := true) (b := false) (d := false) (e := false) (f := false) (by unfold fltW; decide) (by unfold fltP; decide) (by unfold fltR; decide) (by unfold fltO; decide) fltC_nil
theorem sh_two : allV ⟨[(2, 1)], [shP, ⟨1, 16, 16, false, []⟩], []⟩ = [120] := allV_of (a := false) (b := true) (d := false) (e := false) (f := false) (by unfold fltW; decide) (by unfold fltP; decide) (by unfold fltR; decide) (by unfold fltO; decide) fltC_nil
theorem sh_over : allV ⟨[(2, 1)], [shP, ⟨1, 8, 16, false, []⟩], []⟩ = [120, 121] := allV_of (a := false) (b := true) (d := false) (e := true) (f := false) (by unfold fltW; decide) (by unfold fltP; decide) (by unfold fltR; decide) (by unfold fltO; decide) fltC_nil
theorem sh_img : allV ⟨[(2, 1)], [⟨1, 0, 16, false, List.replicate 17 0⟩], []⟩ = [80] := allV_of (a := false) (b := false) (d := true) (e := false) (f := false) (by unfold fltW; decide) (by unfold fltP; decide) (by unfold fltR; decide) (by unfold fltO; decide) fltC_nil
theorem sh_none : allV ⟨[], [shP], []⟩ = [90] := allV_of (a := true) (b := false) (d := false) (e := false) (f := false) (by unfold fltW; decide) (by unfold fltP; decide) (by unfold fltR; decide) (by unfold fltO; decide) fltC_nil
theorem sh_size : allV ⟨[(2, 1)], [⟨1, 0, 12, false, []⟩], []⟩ = [80] := allV_of (a := false) (b := false) (d := true) (e := false) (f := false) (by unfold fltW; decide) (by unfold fltP; decide) (by unfold fltR; decide) (by unfold fltO; decide) fltC_nil
theorem sh_chan : allV ⟨[(2, 1)], [shP], [⟨1, 1, 2, 1, 1⟩]⟩ = [100] := allV_of (a := false) (b := false) (d := false) (e := false) (f := true) (by unfold fltW; decide) (by unfold fltP; decide) (by unfold fltR; decide) (by unfold fltO; decide) (by
  unfold fltC
  rw [allE_one (by decide)]
  decide)
end

/- The laws' own helper of layer 12: awake. -/
section
open Go.RowKit
set_option linter.unusedVariables false
set_option linter.unusedSimpArgs false

theorem box_ne {w : World} {T z g : Nat} {U V : TypeId} {v : Value} {n : Nat} {xs cs : List Value} (h : w.ownsRow T U z v n xs) (hb : Bx w g V cs) (hU : U ≠ V) : ¬ v.ownBlock = some g := fun e => by
  rcases h.2 with ⟨rfl, _⟩ | ⟨g', cap, cur, rfl, _, hh, _⟩
  · cases e
  simp only [Value.ownBlock, Option.some.injEq] at e
  subst e
  have hb' : w.heap[g']? = _ := hb
  rw [hh] at hb'
  injection hb' with hb'
  injection hb' with _ hb'
  exact hU hb'
theorem one_qp (id base size : Int) (keep : Bool) : ∀ u ∈ (qp0 id base size keep).cells, u.oneCell' = true := by
  intro u hu
  exact partsV_one [qp0 id base size keep] u (by simpa [partsV] using hu)
theorem rd_lit1 (w : World) (T : TypeId) (x : Int) : RdZ (w.alloc (.cells #[.int .i64 x] T)) (w.alloc (.cells #[.int .i64 x] T)).heap.size (some ⟨w.heap.size, 0, none⟩) 1 [x] :=
  RdZ.of_own (base := 0) (T := T) (c := 1) (own_oneV (Bx.new w T [.int .i64 x]) rfl (Nat.zero_le _))
theorem rd_lit2 (w : World) (T : TypeId) (x y : Int) : RdZ (w.alloc (.cells #[.int .i64 x, .int .i64 y] T)) (w.alloc (.cells #[.int .i64 x, .int .i64 y] T)).heap.size (some ⟨w.heap.size, 0, none⟩) 2 [x, y] :=
  RdZ.of_own (base := 0) (T := T) (c := 2) (own_blk (n := 2) (z := 1) (Bx.new w T [.int .i64 x, .int .i64 y]) rfl (by decide) (Nat.zero_le _))
theorem cf_one {w : World} {g p : Nat} {a b id base size : Int} {keep : Bool} (hg : Bx w g 49 [.int .i64 a, .int .i64 b]) (hp : Bx w p 45 [.int .i64 id, .int .i64 base, .int .i64 size, .bool keep, .slice none 0 0]) :
    RdCf w w.heap.size ⟨some ⟨g, 0, none⟩, 1, 1, some ⟨p, 0, none⟩, 1, 1, none, 0, 0⟩ ⟨[(a, b)], [⟨id, base, size, keep, []⟩], []⟩ :=
  ⟨rd_ww hg, rd_pp hp, rd_ccnil w, Nat.le_refl _, Nat.le_refl _, Nat.le_refl _⟩
theorem cf_two {w : World} {B g c : Nat} {A : Option Addr} {a b base : Int} (hg : Bx w g 49 [.int .i64 a, .int .i64 b]) (hp : w.ownsRow B 45 5 (.slice A 2 c) (1 + 1) ([.int .i64 1, .int .i64 0, .int .i64 16, .bool false, .slice none 0 0] ++ (qp0 1 base 16 false).cells)) :
    RdCf w w.heap.size ⟨some ⟨g, 0, none⟩, 1, 1, A, 2, c, none, 0, 0⟩ ⟨[(a, b)], [shP, ⟨1, base, 16, false, []⟩], []⟩ := by
  have ho : OwnP w B (.slice A 2 c) [qp0 1 0 16 false, qp0 1 base 16 false] := by
    refine ⟨hp, fun q hq => ?_, fun q hq b hb => ?_⟩
    · rcases List.mem_cons.1 hq with rfl | hq
      · exact img0 _ _ _ _ _ _
      · obtain rfl := List.mem_singleton.1 hq
        exact img0 _ _ _ _ _ _
    · rcases List.mem_cons.1 hq with rfl | hq
      · exact fun h => absurd h (Nat.lt_irrefl 0)
      · obtain rfl := List.mem_singleton.1 hq
        exact fun h => absurd h (Nat.lt_irrefl 0)
  exact ⟨rd_ww hg, ho.rd, rd_ccnil w, Nat.le_refl _, (own_capV hp).2.1, Nat.le_refl _⟩
theorem cf_img {w : World} {B g p i n : Nat} {a b : Int} (hg : Bx w g 49 [.int .i64 a, .int .i64 b]) (hp : Bx w p 45 [.int .i64 1, .int .i64 0, .int .i64 16, .bool false, .slice (some ⟨i, 0, none⟩) n n]) (hn : n ≤ 100000) (hne : i ≠ p) (hB : B ≤ i)
    (hi : w.ownsRow B 5 1 (.slice (some ⟨i, 0, none⟩) n n) n ((List.replicate n (0 : UInt8)).map bval)) :
    RdCf w w.heap.size ⟨some ⟨g, 0, none⟩, 1, 1, some ⟨p, 0, none⟩, 1, 1, none, 0, 0⟩ ⟨[(a, b)], [⟨1, 0, 16, false, List.replicate n 0⟩], []⟩ := by
  have ho : OwnP w 0 (.slice (some ⟨p, 0, none⟩) 1 1) [⟨⟨1, 0, 16, false, List.replicate n 0⟩, some ⟨i, 0, none⟩, n, n⟩] := by
    refine ⟨own_oneV hp rfl (Nat.zero_le _), fun q hq => ?_, fun q hq b hb => ?_⟩
    · obtain rfl := List.mem_singleton.1 hq
      exact ⟨(OwR.of_own hi).mono (Nat.zero_le _), Nat.le_refl _, (show n ≤ 9223372036854775807 by omega), (show n ≤ 140737488351232 by omega)⟩
    · obtain rfl := List.mem_singleton.1 hq
      have h2 := Option.some.inj (show some p = some b from hb)
      intro _ b' o' e hh
      have e2 := Option.some.inj (show some (⟨i, 0, none⟩ : Addr) = some ⟨b', o', none⟩ from e)
      injection e2 with e3
      have h3 : b' = b := hh
      omega
  exact ⟨rd_ww hg, ho.rd, rd_ccnil w, Nat.le_refl _, Nat.le_refl _, Nat.le_refl _⟩
theorem cf_nowin {w : World} {p : Nat} {id base size : Int} {keep : Bool} (hp : Bx w p 45 [.int .i64 id, .int .i64 base, .int .i64 size, .bool keep, .slice none 0 0]) :
    RdCf w w.heap.size ⟨none, 0, 0, some ⟨p, 0, none⟩, 1, 1, none, 0, 0⟩ ⟨[], [⟨id, base, size, keep, []⟩], []⟩ :=
  ⟨RdG.nil _ _ _, rd_pp hp, rd_ccnil w, Nat.le_refl _, Nat.le_refl _, Nat.le_refl _⟩
theorem cf_chan {w : World} {g p q : Nat} {a b id base size i f d e s : Int} {keep : Bool} (hg : Bx w g 49 [.int .i64 a, .int .i64 b]) (hp : Bx w p 45 [.int .i64 id, .int .i64 base, .int .i64 size, .bool keep, .slice none 0 0]) (hq : Bx w q 51 [.int .i64 i, .int .i64 f, .int .i64 d, .int .i64 e, .int .i64 s]) :
    RdCf w w.heap.size ⟨some ⟨g, 0, none⟩, 1, 1, some ⟨p, 0, none⟩, 1, 1, some ⟨q, 0, none⟩, 1, 1⟩ ⟨[(a, b)], [⟨id, base, size, keep, []⟩], [⟨i, f, d, e, s⟩]⟩ :=
  ⟨rd_ww hg, rd_pp hp, rd_cc hq, Nat.le_refl _, Nat.le_refl _, Nat.le_refl _⟩
theorem fits_ok : fitsV ⟨[(2, 1)], [shP], []⟩ = true := by unfold fitsV; rw [sh_ok]; rfl
theorem fits_chan : fitsV ⟨[(2, 1)], [shP], [⟨1, 1, 2, 1, 1⟩]⟩ = false := by unfold fitsV; rw [sh_chan]; rfl
theorem check_chan : checkV ⟨[(2, 1)], [shP], [⟨1, 1, 2, 1, 1⟩]⟩ = 100 := by unfold checkV; rw [sh_chan]; rfl
theorem wp_makeRun {P : Program} {op : Oper} {a : Act} {w w' : World} {K : Act → World → Prop} {Q : Exit → Act → World → Prop} (t : TypeId) (l c : Operand) (ho : op.op = .makeSlice t l c) {lv cv v : Value} (hl : a.eval l = lv) (hc : a.eval c = cv)
    (hrun : (Instr.makeSlice t lv cv).run P w = .ok v w') (h : K (a.put op.dst v) w') : op.wp P a w K Q := by
  unfold Oper.wp
  simp [execOp, ho, hl, hc, hrun, Result.andThen]
  exact h
theorem run_makeU (n : Nat) (hn : n ≤ 100000) (w : World) : ∃ w5, (Instr.makeSlice 43 (.int .i64 (n : Int)) (.int .i64 (n : Int))).run Try.prog w = .ok (.slice (some ⟨w.heap.size, 0, none⟩) n n) w5 ∧ w5.ownsRow w.heap.size 5 1 (.slice (some ⟨w.heap.size, 0, none⟩) n n) n ((List.replicate n (0 : UInt8)).map bval) ∧ Below w.heap.size w w5 := by
  obtain ⟨i0, hi, hz0, hz1, hz2⟩ := info_parts isU8.info
  obtain ⟨w5, hrun, hown, hg⟩ := run_make_full (P := Try.prog) w w.heap.size 43 5 i0 (.int .u8 0) 1 Try.underlying43 hi hz0 hz1 .i64 .i64 n (by rw [hz2]; omega) (by unfold maxLen; omega) (Nat.le_refl _)
  have e : (madeCells (Value.int .u8 0).cells (n * 1)).toList = (List.replicate n (0 : UInt8)).map bval := by
    rw [Nat.mul_one, List.map_replicate]
    exact toList_madeCells_one _ _
  rw [e] at hown
  exact ⟨w5, hrun, hown, (Below.refl _ _).grown hg (Nat.le_refl _) (fun k hk => by cases hk)⟩
theorem box4 (w : World) (a1 a2 b1 b2 c1 c2 d1 d2 : Value) : ∃ w4, (((w.alloc (.cells #[a1, a2, .slice none 0 0] 26)).alloc (.cells #[b1, b2, .slice none 0 0] 26)).alloc (.cells #[c1, c2, .slice none 0 0] 26)).alloc (.cells #[d1, d2, .slice none 0 0] 26) = w4 ∧
    Below w.heap.size w w4 ∧ Bx w4 w.heap.size 26 [a1, a2, .slice none 0 0] ∧ Bx w4 (w.heap.size + 1) 26 [b1, b2, .slice none 0 0] ∧ Bx w4 (w.heap.size + 1 + 1) 26 [c1, c2, .slice none 0 0] ∧ Bx w4 (w.heap.size + 1 + 1 + 1) 26 [d1, d2, .slice none 0 0] := by
  have x1 := Bx.new w 26 [a1, a2, .slice none 0 0]
  have b1' := (Below.refl w.heap.size w).alloc (Nat.le_refl _) (.cells #[a1, a2, .slice none 0 0] 26)
  have e1 : (w.alloc (.cells #[a1, a2, .slice none 0 0] 26)).heap.size = w.heap.size + 1 := by simp
  refine ⟨_, rfl, ?_⟩
  generalize w.alloc (.cells #[a1, a2, .slice none 0 0] 26) = w1 at *
  have x2 := Bx.new w1 26 [b1, b2, .slice none 0 0]
  have b2' := (Below.refl w1.heap.size w1).alloc (Nat.le_refl _) (.cells #[b1, b2, .slice none 0 0] 26)
  have e2 : (w1.alloc (.cells #[b1, b2, .slice none 0 0] 26)).heap.size = w.heap.size + 1 + 1 := by simp [e1]
  generalize w1.alloc (.cells #[b1, b2, .slice none 0 0] 26) = w2 at *
  have x3 := Bx.new w2 26 [c1, c2, .slice none 0 0]
  have b3' := (Below.refl w2.heap.size w2).alloc (Nat.le_refl _) (.cells #[c1, c2, .slice none 0 0] 26)
  have e3 : (w2.alloc (.cells #[c1, c2, .slice none 0 0] 26)).heap.size = w.heap.size + 1 + 1 + 1 := by simp [e2]
  generalize w2.alloc (.cells #[c1, c2, .slice none 0 0] 26) = w3 at *
  have x4 := Bx.new w3 26 [d1, d2, .slice none 0 0]
  have b4' := (Below.refl w3.heap.size w3).alloc (Nat.le_refl _) (.cells #[d1, d2, .slice none 0 0] 26)
  rw [e1] at x2
  rw [e2] at x3
  rw [e3] at x4
  exact ⟨((b1'.trans (b2'.mono (by omega))).trans (b3'.mono (by omega))).trans (b4'.mono (by omega)), ((x1.to b2').to b3').to b4', (x2.to b3').to b4', x3.to b4', x4⟩
set_option maxRecDepth 1000000 in
set_option maxHeartbeats 8000000 in
theorem lAwakeV (w : World) : Calls Try.prog 15 #[] w fun x w' => x = .returned (.bool true) ∧ Below w.heap.size w w' := by
  go_enter Try.func15, Try.ntmps15
  go_wp2_with fail
  refine (lShownV w).mono ?_
  rintro e w1 ⟨ga, pa, rfl, hg, hp, l1, l2, l3, hb⟩
  have B := Lib.hid hb
  have GA := Lib.hid hg
  have PA := Lib.hid hp
  have LA := Lib.hid (And.intro l1 (And.intro l2 (And.intro l3 (And.intro hg.lt (And.intro hp.lt hb.size)))))
  clear hg hp l1 l2 l3 hb
  go_wp2_with fail
  refine (lShownV w1).mono ?_
  rintro e w2 ⟨gb, pb, rfl, hg, hp, l1, l2, l3, hb⟩
  replace GA := Lib.hid (GA.out.to hb)
  replace PA := Lib.hid (PA.out.to hb)
  replace B := Lib.hid (B.out.trans (hb.mono B.out.size))
  have GB := Lib.hid hg
  have PB := Lib.hid hp
  have LB := Lib.hid (And.intro l1 (And.intro l2 (And.intro l3 (And.intro hg.lt (And.intro hp.lt hb.size)))))
  clear hg hp l1 l2 l3 hb
  go_wp2_with fail
  refine (lShownV w2).mono ?_
  rintro e w3 ⟨gc, pc, rfl, hg, hp, l1, l2, l3, hb⟩
  replace GA := Lib.hid (GA.out.to hb)
  replace PA := Lib.hid (PA.out.to hb)
  replace GB := Lib.hid (GB.out.to hb)
  replace PB := Lib.hid (PB.out.to hb)
  replace B := Lib.hid (B.out.trans (hb.mono B.out.size))
  have GC := Lib.hid hg
  have PC := Lib.hid hp
  have LC := Lib.hid (And.intro l1 (And.intro l2 (And.intro l3 (And.intro hg.lt (And.intro hp.lt hb.size)))))
  clear hg hp l1 l2 l3 hb
  go_wp2_with fail
  refine (lShownV w3).mono ?_
  rintro e w4 ⟨gd, pd, rfl, hg, hp, l1, l2, l3, hb⟩
  replace GA := Lib.hid (GA.out.to hb)
  replace PA := Lib.hid (PA.out.to hb)
  replace GB := Lib.hid (GB.out.to hb)
  replace PB := Lib.hid (PB.out.to hb)
  replace GC := Lib.hid (GC.out.to hb)
  replace PC := Lib.hid (PC.out.to hb)
  replace B := Lib.hid (B.out.trans (hb.mono B.out.size))
  have GD := Lib.hid hg
  have PD := Lib.hid hp
  have LD := Lib.hid (And.intro l1 (And.intro l2 (And.intro l3 (And.intro hg.lt (And.intro hp.lt hb.size)))))
  clear hg hp l1 l2 l3 hb
  go_upto_region 2 with (fail)
  obtain ⟨w5, hw5, hb, x1, x2, x3, x4⟩ := box4 w4 (.slice (some ⟨ga, 0, none⟩) 1 1) (.slice (some ⟨pa, 0, none⟩) 1 1) (.slice (some ⟨gb, 0, none⟩) 1 1) (.slice (some ⟨pb, 0, none⟩) 1 1) (.slice (some ⟨gc, 0, none⟩) 1 1) (.slice (some ⟨pc, 0, none⟩) 1 1) (.slice (some ⟨gd, 0, none⟩) 1 1) (.slice (some ⟨pd, 0, none⟩) 1 1)
  rw [hw5]
  replace GA := Lib.hid (GA.out.to hb)
  replace PA := Lib.hid (PA.out.to hb)
  replace GB := Lib.hid (GB.out.to hb)
  replace PB := Lib.hid (PB.out.to hb)
  replace GC := Lib.hid (GC.out.to hb)
  replace PC := Lib.hid (PC.out.to hb)
  replace GD := Lib.hid (GD.out.to hb)
  replace PD := Lib.hid (PD.out.to hb)
  replace B := Lib.hid (B.out.trans (hb.mono B.out.size))
  have XA := Lib.hid x1
  have XB := Lib.hid x2
  have XC := Lib.hid x3
  have XD := Lib.hid x4
  have FF : Hid (w.heap.size ≤ ga ∧ w.heap.size ≤ pa ∧ ga ≠ pa ∧ ga < gb ∧ ga < pb ∧ pa < gb ∧ pa < pb ∧ gb ≠ pb ∧ gb < gc ∧ gb < pc ∧ pb < gc ∧ pb < pc ∧ gc ≠ pc ∧ gc < gd ∧ gc < pd ∧ pc < gd ∧ pc < pd ∧ gd ≠ pd ∧ gd < w4.heap.size ∧ pd < w4.heap.size) := by
    have h1 := LA.out
    have h2 := LB.out
    have h3 := LC.out
    have h4 := LD.out
    (show _ ∧ _)
    omega
  clear LA LB LC LD hw5 hb x1 x2 x3 x4
  generalize w4.heap.size = e0 at *
  -- a.Windows[0].Part = 2
  have p1 := XA.out.at (j := 0) rfl
  have p2 := GA.out.at (j := 1) rfl
  have f2 := GA.out.fz 1
  go_upto_region 3 with (fail)
  clear p1 p2 f2
  replace GA := Lib.hid (GA.out.set 1 (.int .i64 2))
  replace PA := Lib.hid (PA.out.other ⟨ga, 1, none⟩ (.int .i64 2) (by have := FF.out; dsimp only; omega))
  replace GB := Lib.hid (GB.out.other ⟨ga, 1, none⟩ (.int .i64 2) (by have := FF.out; dsimp only; omega))
  replace PB := Lib.hid (PB.out.other ⟨ga, 1, none⟩ (.int .i64 2) (by have := FF.out; dsimp only; omega))
  replace GC := Lib.hid (GC.out.other ⟨ga, 1, none⟩ (.int .i64 2) (by have := FF.out; dsimp only; omega))
  replace PC := Lib.hid (PC.out.other ⟨ga, 1, none⟩ (.int .i64 2) (by have := FF.out; dsimp only; omega))
  replace GD := Lib.hid (GD.out.other ⟨ga, 1, none⟩ (.int .i64 2) (by have := FF.out; dsimp only; omega))
  replace PD := Lib.hid (PD.out.other ⟨ga, 1, none⟩ (.int .i64 2) (by have := FF.out; dsimp only; omega))
  replace XA := Lib.hid (XA.out.other ⟨ga, 1, none⟩ (.int .i64 2) (by have := FF.out; dsimp only; omega))
  replace XB := Lib.hid (XB.out.other ⟨ga, 1, none⟩ (.int .i64 2) (by have := FF.out; dsimp only; omega))
  replace XC := Lib.hid (XC.out.other ⟨ga, 1, none⟩ (.int .i64 2) (by have := FF.out; dsimp only; omega))
  replace XD := Lib.hid (XD.out.other ⟨ga, 1, none⟩ (.int .i64 2) (by have := FF.out; dsimp only; omega))
  replace B := Lib.hid (B.out.setCell (p := ⟨ga, 1, none⟩) (by have := FF.out; dsimp only; omega) (.int .i64 2))
  generalize w5.setCell ⟨ga, 1, none⟩ (.int .i64 2) = w6 at *
  -- b.Parts = append(b.Parts, ..)
  have p1 := XB.out.at (j := 1) rfl
  have p2 := XB.out.fz 1
  have hal := (Below.refl w6.heap.size w6).alloc (Nat.le_refl _) (.cells #[.int .i64 1, .int .i64 16, .int .i64 16, .bool false, .slice none 0 0] 45)
  have N7 := Lib.hid (cells_newV w6 45 [.int .i64 1, .int .i64 16, .int .i64 16, .bool false, .slice none 0 0])
  replace GA := Lib.hid (GA.out.to hal)
  replace PA := Lib.hid (PA.out.to hal)
  replace GB := Lib.hid (GB.out.to hal)
  replace PB := Lib.hid (PB.out.to hal)
  replace GC := Lib.hid (GC.out.to hal)
  replace PC := Lib.hid (PC.out.to hal)
  replace GD := Lib.hid (GD.out.to hal)
  replace PD := Lib.hid (PD.out.to hal)
  replace XA := Lib.hid (XA.out.to hal)
  replace XB := Lib.hid (XB.out.to hal)
  replace XC := Lib.hid (XC.out.to hal)
  replace XD := Lib.hid (XD.out.to hal)
  replace B := Lib.hid (B.out.trans (hal.mono B.out.size))
  have O7 := Lib.hid (own_oneV (z := 5) PB.out rfl (B := w.heap.size) (by have := FF.out; omega))
  have q1 := XB.out.at (j := 1) rfl
  have q2 := XB.out.fz 1
  clear hal
  go_upto_region 4 with (at_builtin; refine wpList_pushV vtP rfl (.tmp 14) (.tmp 17) rfl rfl rfl O7.out (m := 1) (news := (qp0 1 16 16 false).cells) rfl (fun _ => ⟨_, rfl, N7.out⟩) (one_qp 1 16 16 false) B.out.size (by (show (1 + 1) * (56 + 1) ≤ 140737488355328); omega) ?_; intro v9 w9 hown9 hk9 hv9; obtain ⟨Ab, cb, rfl⟩ := own_slV hown9; have xb9 := XB.out.kept hk9 (fun h => by have h2 := Option.some.inj (show some pb = some ((e0 + 1)) from h); have := FF.out; omega); have xq1 := xb9.at (j := 1) rfl; have xf1 := xb9.fz 1; clear xb9; have O9 := Lib.hid hown9; have HK9 := Lib.hid hk9; have HV9 := Lib.hid hv9; clear hown9 hk9 hv9)
  clear p1 p2 q1 q2 xq1 xf1 N7
  have NBb : Hid (∀ k, (Value.slice Ab 2 cb).ownBlock = some k → k = pb ∨ e0 + 3 < k) := fun k hk => by
    rcases HV9.out k hk with h | h
    · exact .inl (Option.some.inj (show some pb = some k from h)).symm
    · exact .inr (by have := XD.out.lt; omega)
  clear HV9
  replace GA := Lib.hid (GA.out.kept HK9.out (fun h => by have h2 := Option.some.inj (show some pb = some (ga) from h); have := FF.out; omega))
  replace PA := Lib.hid (PA.out.kept HK9.out (fun h => by have h2 := Option.some.inj (show some pb = some (pa) from h); have := FF.out; omega))
  replace GB := Lib.hid (GB.out.kept HK9.out (fun h => by have h2 := Option.some.inj (show some pb = some (gb) from h); have := FF.out; omega))
  replace GC := Lib.hid (GC.out.kept HK9.out (fun h => by have h2 := Option.some.inj (show some pb = some (gc) from h); have := FF.out; omega))
  replace PC := Lib.hid (PC.out.kept HK9.out (fun h => by have h2 := Option.some.inj (show some pb = some (pc) from h); have := FF.out; omega))
  replace GD := Lib.hid (GD.out.kept HK9.out (fun h => by have h2 := Option.some.inj (show some pb = some (gd) from h); have := FF.out; omega))
  replace PD := Lib.hid (PD.out.kept HK9.out (fun h => by have h2 := Option.some.inj (show some pb = some (pd) from h); have := FF.out; omega))
  replace XA := Lib.hid (XA.out.kept HK9.out (fun h => by have h2 := Option.some.inj (show some pb = some (e0) from h); have := FF.out; omega))
  replace XB := Lib.hid (XB.out.kept HK9.out (fun h => by have h2 := Option.some.inj (show some pb = some ((e0 + 1)) from h); have := FF.out; omega))
  replace XC := Lib.hid (XC.out.kept HK9.out (fun h => by have h2 := Option.some.inj (show some pb = some ((e0 + 1 + 1)) from h); have := FF.out; omega))
  replace XD := Lib.hid (XD.out.kept HK9.out (fun h => by have h2 := Option.some.inj (show some pb = some ((e0 + 1 + 1 + 1)) from h); have := FF.out; omega))
  replace B := Lib.hid (HK9.out.below B.out B.out.size (fun k hk => by have h2 := Option.some.inj (show some pb = some k from hk); have := FF.out; omega))
  have OB := O9
  clear O9 HK9 O7 PB
  replace OB := Lib.hid (own_kv OB.out ((Keep.refl (· = (e0 + 1)) _).setCell ⟨e0 + 1, 1, none⟩ (.slice Ab 2 cb) rfl) (fun k hk hh => by have h2 : k = (e0 + 1) := hh; subst h2; exact box_ne OB.out XB.out (by decide) hk))
  replace GA := Lib.hid (GA.out.other ⟨e0 + 1, 1, none⟩ (.slice Ab 2 cb) (by have := FF.out; dsimp only; omega))
  replace PA := Lib.hid (PA.out.other ⟨e0 + 1, 1, none⟩ (.slice Ab 2 cb) (by have := FF.out; dsimp only; omega))
  replace GB := Lib.hid (GB.out.other ⟨e0 + 1, 1, none⟩ (.slice Ab 2 cb) (by have := FF.out; dsimp only; omega))
  replace GC := Lib.hid (GC.out.other ⟨e0 + 1, 1, none⟩ (.slice Ab 2 cb) (by have := FF.out; dsimp only; omega))
  replace PC := Lib.hid (PC.out.other ⟨e0 + 1, 1, none⟩ (.slice Ab 2 cb) (by have := FF.out; dsimp only; omega))
  replace GD := Lib.hid (GD.out.other ⟨e0 + 1, 1, none⟩ (.slice Ab 2 cb) (by have := FF.out; dsimp only; omega))
  replace PD := Lib.hid (PD.out.other ⟨e0 + 1, 1, none⟩ (.slice Ab 2 cb) (by have := FF.out; dsimp only; omega))
  replace XA := Lib.hid (XA.out.other ⟨e0 + 1, 1, none⟩ (.slice Ab 2 cb) (by have := FF.out; dsimp only; omega))
  replace XB := Lib.hid (XB.out.set 1 (.slice Ab 2 cb))
  replace XC := Lib.hid (XC.out.other ⟨e0 + 1, 1, none⟩ (.slice Ab 2 cb) (by have := FF.out; dsimp only; omega))
  replace XD := Lib.hid (XD.out.other ⟨e0 + 1, 1, none⟩ (.slice Ab 2 cb) (by have := FF.out; dsimp only; omega))
  replace B := Lib.hid (B.out.setCell (p := ⟨e0 + 1, 1, none⟩) (by have := FF.out; dsimp only; omega) (.slice Ab 2 cb))
  generalize w9.setCell ⟨e0 + 1, 1, none⟩ (.slice Ab 2 cb) = w7 at *
  -- c.Parts = append(c.Parts, ..)
  have p1 := XC.out.at (j := 1) rfl
  have p2 := XC.out.fz 1
  have hal := (Below.refl w7.heap.size w7).alloc (Nat.le_refl _) (.cells #[.int .i64 1, .int .i64 8, .int .i64 16, .bool false, .slice none 0 0] 45)
  have N7 := Lib.hid (cells_newV w7 45 [.int .i64 1, .int .i64 8, .int .i64 16, .bool false, .slice none 0 0])
  replace GA := Lib.hid (GA.out.to hal)
  replace PA := Lib.hid (PA.out.to hal)
  replace GB := Lib.hid (GB.out.to hal)
  replace GC := Lib.hid (GC.out.to hal)
  replace PC := Lib.hid (PC.out.to hal)
  replace GD := Lib.hid (GD.out.to hal)
  replace PD := Lib.hid (PD.out.to hal)
  replace XA := Lib.hid (XA.out.to hal)
  replace XB := Lib.hid (XB.out.to hal)
  replace XC := Lib.hid (XC.out.to hal)
  replace XD := Lib.hid (XD.out.to hal)
  replace B := Lib.hid (B.out.trans (hal.mono B.out.size))
  replace OB := Lib.hid (own_bv OB.out hal)
  have O7 := Lib.hid (own_oneV (z := 5) PC.out rfl (B := w.heap.size) (by have := FF.out; omega))
  have q1 := XC.out.at (j := 1) rfl
  have q2 := XC.out.fz 1
  clear hal
  go_upto_region 5 with (at_builtin; refine wpList_pushV vtP rfl (.tmp 21) (.tmp 24) rfl rfl rfl O7.out (m := 1) (news := (qp0 1 8 16 false).cells) rfl (fun _ => ⟨_, rfl, N7.out⟩) (one_qp 1 8 16 false) B.out.size (by (show (1 + 1) * (56 + 1) ≤ 140737488355328); omega) ?_; intro v9 w9 hown9 hk9 hv9; obtain ⟨Ac, cc, rfl⟩ := own_slV hown9; have xb9 := XC.out.kept hk9 (fun h => by have h2 := Option.some.inj (show some pc = some ((e0 + 1 + 1)) from h); have := FF.out; omega); have xq1 := xb9.at (j := 1) rfl; have xf1 := xb9.fz 1; clear xb9; have O9 := Lib.hid hown9; have HK9 := Lib.hid hk9; have HV9 := Lib.hid hv9; clear hown9 hk9 hv9)
  clear p1 p2 q1 q2 xq1 xf1 N7
  have NBc : Hid (∀ k, (Value.slice Ac 2 cc).ownBlock = some k → k = pc ∨ e0 + 3 < k) := fun k hk => by
    rcases HV9.out k hk with h | h
    · exact .inl (Option.some.inj (show some pc = some k from h)).symm
    · exact .inr (by have := XD.out.lt; omega)
  clear HV9
  replace OB := Lib.hid (own_kv OB.out HK9.out (fun k hk hh => by have h2 := Option.some.inj (show some pc = some k from hh); rcases NBb.out k hk with h | h <;> (have := FF.out; omega)))
  replace GA := Lib.hid (GA.out.kept HK9.out (fun h => by have h2 := Option.some.inj (show some pc = some (ga) from h); have := FF.out; omega))
  replace PA := Lib.hid (PA.out.kept HK9.out (fun h => by have h2 := Option.some.inj (show some pc = some (pa) from h); have := FF.out; omega))
  replace GB := Lib.hid (GB.out.kept HK9.out (fun h => by have h2 := Option.some.inj (show some pc = some (gb) from h); have := FF.out; omega))
  replace GC := Lib.hid (GC.out.kept HK9.out (fun h => by have h2 := Option.some.inj (show some pc = some (gc) from h); have := FF.out; omega))
  replace GD := Lib.hid (GD.out.kept HK9.out (fun h => by have h2 := Option.some.inj (show some pc = some (gd) from h); have := FF.out; omega))
  replace PD := Lib.hid (PD.out.kept HK9.out (fun h => by have h2 := Option.some.inj (show some pc = some (pd) from h); have := FF.out; omega))
  replace XA := Lib.hid (XA.out.kept HK9.out (fun h => by have h2 := Option.some.inj (show some pc = some (e0) from h); have := FF.out; omega))
  replace XB := Lib.hid (XB.out.kept HK9.out (fun h => by have h2 := Option.some.inj (show some pc = some ((e0 + 1)) from h); have := FF.out; omega))
  replace XC := Lib.hid (XC.out.kept HK9.out (fun h => by have h2 := Option.some.inj (show some pc = some ((e0 + 1 + 1)) from h); have := FF.out; omega))
  replace XD := Lib.hid (XD.out.kept HK9.out (fun h => by have h2 := Option.some.inj (show some pc = some ((e0 + 1 + 1 + 1)) from h); have := FF.out; omega))
  replace B := Lib.hid (HK9.out.below B.out B.out.size (fun k hk => by have h2 := Option.some.inj (show some pc = some k from hk); have := FF.out; omega))
  have OC := O9
  clear O9 HK9 O7 PC
  replace OB := Lib.hid (own_kv OB.out ((Keep.refl (· = (e0 + 1 + 1)) _).setCell ⟨e0 + 1 + 1, 1, none⟩ (.slice Ac 2 cc) rfl) (fun k hk hh => by have h2 : k = (e0 + 1 + 1) := hh; subst h2; exact box_ne OB.out XC.out (by decide) hk))
  replace OC := Lib.hid (own_kv OC.out ((Keep.refl (· = (e0 + 1 + 1)) _).setCell ⟨e0 + 1 + 1, 1, none⟩ (.slice Ac 2 cc) rfl) (fun k hk hh => by have h2 : k = (e0 + 1 + 1) := hh; subst h2; exact box_ne OC.out XC.out (by decide) hk))
  replace GA := Lib.hid (GA.out.other ⟨e0 + 1 + 1, 1, none⟩ (.slice Ac 2 cc) (by have := FF.out; dsimp only; omega))
  replace PA := Lib.hid (PA.out.other ⟨e0 + 1 + 1, 1, none⟩ (.slice Ac 2 cc) (by have := FF.out; dsimp only; omega))
  replace GB := Lib.hid (GB.out.other ⟨e0 + 1 + 1, 1, none⟩ (.slice Ac 2 cc) (by have := FF.out; dsimp only; omega))
  replace GC := Lib.hid (GC.out.other ⟨e0 + 1 + 1, 1, none⟩ (.slice Ac 2 cc) (by have := FF.out; dsimp only; omega))
  replace GD := Lib.hid (GD.out.other ⟨e0 + 1 + 1, 1, none⟩ (.slice Ac 2 cc) (by have := FF.out; dsimp only; omega))
  replace PD := Lib.hid (PD.out.other ⟨e0 + 1 + 1, 1, none⟩ (.slice Ac 2 cc) (by have := FF.out; dsimp only; omega))
  replace XA := Lib.hid (XA.out.other ⟨e0 + 1 + 1, 1, none⟩ (.slice Ac 2 cc) (by have := FF.out; dsimp only; omega))
  replace XB := Lib.hid (XB.out.other ⟨e0 + 1 + 1, 1, none⟩ (.slice Ac 2 cc) (by have := FF.out; dsimp only; omega))
  replace XC := Lib.hid (XC.out.set 1 (.slice Ac 2 cc))
  replace XD := Lib.hid (XD.out.other ⟨e0 + 1 + 1, 1, none⟩ (.slice Ac 2 cc) (by have := FF.out; dsimp only; omega))
  replace B := Lib.hid (B.out.setCell (p := ⟨e0 + 1 + 1, 1, none⟩) (by have := FF.out; dsimp only; omega) (.slice Ac 2 cc))
  generalize w9.setCell ⟨e0 + 1 + 1, 1, none⟩ (.slice Ac 2 cc) = w8 at *
  -- d.Parts[0].Image = make([]byte, 17)
  obtain ⟨wd, hwd⟩ : ∃ wd, w8.drew = wd := ⟨_, rfl⟩
  have hb : Below w8.heap.size w8 wd := by rw [← hwd]; exact (Below.refl _ w8).drew
  replace GA := Lib.hid (GA.out.to hb)
  replace PA := Lib.hid (PA.out.to hb)
  replace GB := Lib.hid (GB.out.to hb)
  replace GC := Lib.hid (GC.out.to hb)
  replace GD := Lib.hid (GD.out.to hb)
  replace PD := Lib.hid (PD.out.to hb)
  replace XA := Lib.hid (XA.out.to hb)
  replace XB := Lib.hid (XB.out.to hb)
  replace XC := Lib.hid (XC.out.to hb)
  replace XD := Lib.hid (XD.out.to hb)
  replace OB := Lib.hid (own_bv OB.out hb)
  replace OC := Lib.hid (own_bv OC.out hb)
  replace B := Lib.hid (B.out.trans (hb.mono B.out.size))
  clear hb
  obtain ⟨wm, hrun, hown, hb⟩ := run_makeU 17 (by decide) wd
  have HRUN := Lib.hid hrun
  have OI := Lib.hid hown
  have HB := Lib.hid hb
  have HGI : Hid (e0 + 3 < wd.heap.size) := XD.out.lt
  clear hrun hown hb
  refine wp_region_held_drew (S := (fun w' => Bx w' (e0 + 1 + 1 + 1) 26 [.slice (some ⟨gd, 0, none⟩) 1 1, .slice (some ⟨pd, 0, none⟩) 1 1, .slice none 0 0])) (by kernel_rfl) ((by rw [hwd]; exact XD.out)) (fun hHeld => ?_)
  rw [hwd] at hHeld ⊢
  clear hwd
  refine wpAnyH_take (i := 0) (v := ?_) rfl (by kernel_rfl) (by kernel_rfl) (by kernel_rfl) (fun _ _ _ h => h) (Or.inl ⟨by rfl, ?_⟩) (by assumption) ?_
  rotate_left 1
  · intro w hSw; (try dsimp only at hSw); go_simp; (try with_reducible rfl)
  simp only [Act.put, List.getElem_toArray, List.getElem_cons_zero, List.getElem_cons_succ, List.setIfInBounds_toArray, List.set_cons_zero, List.set_cons_succ]
  refine wpAnyH_take (i := 1) (v := ?_) rfl (by kernel_rfl) (by kernel_rfl) (by kernel_rfl) (fun _ _ _ h => h) (Or.inl ⟨by rfl, ?_⟩) (by assumption) ?_
  rotate_left 1
  · intro w hSw; (try dsimp only at hSw); have t1 := hSw.at (j := 1) rfl; go_simp; (try with_reducible rfl)
  simp only [Act.put, List.getElem_toArray, List.getElem_cons_zero, List.getElem_cons_succ, List.setIfInBounds_toArray, List.set_cons_zero, List.set_cons_succ]
  refine wpAnyH_ready (rs := [2]) (by kernel_rfl) (by simp) ?_
  refine AllReadyH.cons rfl (fun K hK => ?_) AllReadyH.nil
  rw [if_pos (by rfl)]
  refine wp_makeRun 43 _ _ rfl rfl rfl HRUN.out ?_
  refine hK.out _ _ (XD.out.to HB.out) (fun hHeld => ?_)
  clear hK K
  simp only [Act.put, List.getElem_toArray, List.getElem_cons_zero, List.getElem_cons_succ, List.setIfInBounds_toArray, List.set_cons_zero, List.set_cons_succ]
  have hb := HB.out
  replace GA := Lib.hid (GA.out.to hb)
  replace PA := Lib.hid (PA.out.to hb)
  replace GB := Lib.hid (GB.out.to hb)
  replace GC := Lib.hid (GC.out.to hb)
  replace GD := Lib.hid (GD.out.to hb)
  replace PD := Lib.hid (PD.out.to hb)
  replace XA := Lib.hid (XA.out.to hb)
  replace XB := Lib.hid (XB.out.to hb)
  replace XC := Lib.hid (XC.out.to hb)
  replace XD := Lib.hid (XD.out.to hb)
  replace OB := Lib.hid (own_bv OB.out hb)
  replace OC := Lib.hid (own_bv OC.out hb)
  replace B := Lib.hid (B.out.trans (hb.mono B.out.size))
  clear hb
  clear HB HRUN
  generalize wd.heap.size = gi at *
  refine wpAnyH_take (i := 3) (v := ?_) rfl (by kernel_rfl) (by kernel_rfl) (by kernel_rfl) (fun _ _ _ h => h) (Or.inl ⟨by rfl, ?_⟩) (by assumption) ?_
  rotate_left 1
  · intro w hSw; (try dsimp only at hSw); go_simp; (try with_reducible rfl)
  simp only [Act.put, List.getElem_toArray, List.getElem_cons_zero, List.getElem_cons_succ, List.setIfInBounds_toArray, List.set_cons_zero, List.set_cons_succ]
  refine wpAnyH_take (i := 4) (v := ?_) rfl (by kernel_rfl) (by kernel_rfl) (by kernel_rfl) (fun _ _ _ h => h) (Or.inl ⟨by rfl, ?_⟩) (by assumption) ?_
  rotate_left 1
  · intro w hSw; (try dsimp only at hSw); go_simp; (try with_reducible rfl)
  simp only [Act.put, List.getElem_toArray, List.getElem_cons_zero, List.getElem_cons_succ, List.setIfInBounds_toArray, List.set_cons_zero, List.set_cons_succ]
  have p1 := PD.out.at (j := 4) rfl
  have p2 := PD.out.fz 4
  refine wpAnyH_ready (rs := [5]) (by kernel_rfl) (by simp) ?_
  refine AllReadyH.cons rfl (fun K hK => ?_) AllReadyH.nil
  go_simp
  refine hK.out _ _ ((XD.out.other ⟨pd, 4, none⟩ (.slice (some ⟨gi, 0, none⟩) 17 17) (by have := FF.out; dsimp only; omega))) (fun hHeld => ?_)
  clear hK K
  refine wpAnyH_done (by kernel_rfl) ?_ _
  clear hHeld p1 p2
  replace OB := Lib.hid (own_kv OB.out ((Keep.refl (· = pd) _).setCell ⟨pd, 4, none⟩ (.slice (some ⟨gi, 0, none⟩) 17 17) rfl) (fun k hk hh => by have h2 : k = pd := hh; rcases NBb.out k hk with h | h <;> (have := FF.out; omega)))
  replace OC := Lib.hid (own_kv OC.out ((Keep.refl (· = pd) _).setCell ⟨pd, 4, none⟩ (.slice (some ⟨gi, 0, none⟩) 17 17) rfl) (fun k hk hh => by have h2 : k = pd := hh; rcases NBc.out k hk with h | h <;> (have := FF.out; omega)))
  replace OI := Lib.hid (own_kv OI.out ((Keep.refl (· = pd) _).setCell ⟨pd, 4, none⟩ (.slice (some ⟨gi, 0, none⟩) 17 17) rfl) (fun k hk hh => by have h2 : k = pd := hh; subst h2; exact box_ne OI.out PD.out (by decide) hk))
  replace GA := Lib.hid (GA.out.other ⟨pd, 4, none⟩ (.slice (some ⟨gi, 0, none⟩) 17 17) (by have := FF.out; dsimp only; omega))
  replace PA := Lib.hid (PA.out.other ⟨pd, 4, none⟩ (.slice (some ⟨gi, 0, none⟩) 17 17) (by have := FF.out; dsimp only; omega))
  replace GB := Lib.hid (GB.out.other ⟨pd, 4, none⟩ (.slice (some ⟨gi, 0, none⟩) 17 17) (by have := FF.out; dsimp only; omega))
  replace GC := Lib.hid (GC.out.other ⟨pd, 4, none⟩ (.slice (some ⟨gi, 0, none⟩) 17 17) (by have := FF.out; dsimp only; omega))
  replace GD := Lib.hid (GD.out.other ⟨pd, 4, none⟩ (.slice (some ⟨gi, 0, none⟩) 17 17) (by have := FF.out; dsimp only; omega))
  replace PD := Lib.hid (PD.out.set 4 (.slice (some ⟨gi, 0, none⟩) 17 17))
  replace XA := Lib.hid (XA.out.other ⟨pd, 4, none⟩ (.slice (some ⟨gi, 0, none⟩) 17 17) (by have := FF.out; dsimp only; omega))
  replace XB := Lib.hid (XB.out.other ⟨pd, 4, none⟩ (.slice (some ⟨gi, 0, none⟩) 17 17) (by have := FF.out; dsimp only; omega))
  replace XC := Lib.hid (XC.out.other ⟨pd, 4, none⟩ (.slice (some ⟨gi, 0, none⟩) 17 17) (by have := FF.out; dsimp only; omega))
  replace XD := Lib.hid (XD.out.other ⟨pd, 4, none⟩ (.slice (some ⟨gi, 0, none⟩) 17 17) (by have := FF.out; dsimp only; omega))
  replace B := Lib.hid (B.out.setCell (p := ⟨pd, 4, none⟩) (by have := FF.out; dsimp only; omega) (.slice (some ⟨gi, 0, none⟩) 17 17))
  generalize wm.setCell ⟨pd, 4, none⟩ (.slice (some ⟨gi, 0, none⟩) 17 17) = w10 at *
  go_wp2_with fail
  refine (lShownV w10).mono ?_
  rintro e wa1 ⟨gs, ps, rfl, hgs, hps, -, -, -, hb⟩
  replace GA := Lib.hid (GA.out.to hb)
  replace PA := Lib.hid (PA.out.to hb)
  replace GB := Lib.hid (GB.out.to hb)
  replace GC := Lib.hid (GC.out.to hb)
  replace GD := Lib.hid (GD.out.to hb)
  replace PD := Lib.hid (PD.out.to hb)
  replace XA := Lib.hid (XA.out.to hb)
  replace XB := Lib.hid (XB.out.to hb)
  replace XC := Lib.hid (XC.out.to hb)
  replace XD := Lib.hid (XD.out.to hb)
  replace OB := Lib.hid (own_bv OB.out hb)
  replace OC := Lib.hid (own_bv OC.out hb)
  replace OI := Lib.hid (own_bv OI.out hb)
  replace B := Lib.hid (B.out.trans (hb.mono B.out.size))
  clear hb
  go_wp2_with fail
  refine (lIs ⟨some ⟨gs, 0, none⟩, 1, 1, some ⟨ps, 0, none⟩, 1, 1, none, 0, 0⟩ ⟨[(2, 1)], [shP], []⟩ none 0 0 [] wa1 (cf_one hgs hps) (RdZ.nil _ _ _) (Nat.le_of_ble_eq_true rfl) (Nat.le_of_ble_eq_true rfl) (Nat.le_of_ble_eq_true rfl)).mono ?_
  rw [decide_eq_true sh_ok]
  rintro e wb1 ⟨rfl, hb⟩
  clear hgs hps
  replace GA := Lib.hid (GA.out.to hb)
  replace PA := Lib.hid (PA.out.to hb)
  replace GB := Lib.hid (GB.out.to hb)
  replace GC := Lib.hid (GC.out.to hb)
  replace GD := Lib.hid (GD.out.to hb)
  replace PD := Lib.hid (PD.out.to hb)
  replace XA := Lib.hid (XA.out.to hb)
  replace XB := Lib.hid (XB.out.to hb)
  replace XC := Lib.hid (XC.out.to hb)
  replace XD := Lib.hid (XD.out.to hb)
  replace OB := Lib.hid (own_bv OB.out hb)
  replace OC := Lib.hid (own_bv OC.out hb)
  replace OI := Lib.hid (own_bv OI.out hb)
  replace B := Lib.hid (B.out.trans (hb.mono B.out.size))
  clear hb
  have p1 := XA.out.at (j := 0) rfl
  have p2 := XA.out.at (j := 1) rfl
  have p3 := XA.out.at (j := 2) rfl
  have hz := rd_lit1 wb1 33 90
  have hb := (Below.refl wb1.heap.size wb1).alloc (Nat.le_refl _) (.cells #[.int .i64 90] 33)
  replace GA := Lib.hid (GA.out.to hb)
  replace PA := Lib.hid (PA.out.to hb)
  replace GB := Lib.hid (GB.out.to hb)
  replace GC := Lib.hid (GC.out.to hb)
  replace GD := Lib.hid (GD.out.to hb)
  replace PD := Lib.hid (PD.out.to hb)
  replace XA := Lib.hid (XA.out.to hb)
  replace XB := Lib.hid (XB.out.to hb)
  replace XC := Lib.hid (XC.out.to hb)
  replace XD := Lib.hid (XD.out.to hb)
  replace OB := Lib.hid (own_bv OB.out hb)
  replace OC := Lib.hid (own_bv OC.out hb)
  replace OI := Lib.hid (own_bv OI.out hb)
  replace B := Lib.hid (B.out.trans (hb.mono B.out.size))
  clear hb
  go_wp2_with fail
  refine (lIs ⟨some ⟨ga, 0, none⟩, 1, 1, some ⟨pa, 0, none⟩, 1, 1, none, 0, 0⟩ ⟨[(2, 2)], [shP], []⟩ (some ⟨wb1.heap.size, 0, none⟩) 1 1 [90] (wb1.alloc (.cells #[.int .i64 90] 33)) (cf_one GA.out PA.out) hz (Nat.le_of_ble_eq_true rfl) (Nat.le_of_ble_eq_true rfl) (Nat.le_of_ble_eq_true rfl)).mono ?_
  rw [decide_eq_true sh_win]
  rintro e wb2 ⟨rfl, hb⟩
  clear hz p1 p2 p3
  replace GA := Lib.hid (GA.out.to hb)
  replace PA := Lib.hid (PA.out.to hb)
  replace GB := Lib.hid (GB.out.to hb)
  replace GC := Lib.hid (GC.out.to hb)
  replace GD := Lib.hid (GD.out.to hb)
  replace PD := Lib.hid (PD.out.to hb)
  replace XA := Lib.hid (XA.out.to hb)
  replace XB := Lib.hid (XB.out.to hb)
  replace XC := Lib.hid (XC.out.to hb)
  replace XD := Lib.hid (XD.out.to hb)
  replace OB := Lib.hid (own_bv OB.out hb)
  replace OC := Lib.hid (own_bv OC.out hb)
  replace OI := Lib.hid (own_bv OI.out hb)
  replace B := Lib.hid (B.out.trans (hb.mono B.out.size))
  clear hb
  have p1 := XB.out.at (j := 0) rfl
  have p2 := XB.out.at (j := 1) rfl
  have p3 := XB.out.at (j := 2) rfl
  have hz := rd_lit1 wb2 33 120
  have hb := (Below.refl wb2.heap.size wb2).alloc (Nat.le_refl _) (.cells #[.int .i64 120] 33)
  replace GA := Lib.hid (GA.out.to hb)
  replace PA := Lib.hid (PA.out.to hb)
  replace GB := Lib.hid (GB.out.to hb)
  replace GC := Lib.hid (GC.out.to hb)
  replace GD := Lib.hid (GD.out.to hb)
  replace PD := Lib.hid (PD.out.to hb)
  replace XA := Lib.hid (XA.out.to hb)
  replace XB := Lib.hid (XB.out.to hb)
  replace XC := Lib.hid (XC.out.to hb)
  replace XD := Lib.hid (XD.out.to hb)
  replace OB := Lib.hid (own_bv OB.out hb)
  replace OC := Lib.hid (own_bv OC.out hb)
  replace OI := Lib.hid (own_bv OI.out hb)
  replace B := Lib.hid (B.out.trans (hb.mono B.out.size))
  clear hb
  go_wp2_with fail
  refine (lIs ⟨some ⟨gb, 0, none⟩, 1, 1, Ab, 2, cb, none, 0, 0⟩ ⟨[(2, 1)], [shP, ⟨1, 16, 16, false, []⟩], []⟩ (some ⟨wb2.heap.size, 0, none⟩) 1 1 [120] (wb2.alloc (.cells #[.int .i64 120] 33)) (cf_two GB.out OB.out) hz (Nat.le_of_ble_eq_true rfl) (Nat.le_of_ble_eq_true rfl) (Nat.le_of_ble_eq_true rfl)).mono ?_
  rw [decide_eq_true sh_two]
  rintro e wb3 ⟨rfl, hb⟩
  clear hz p1 p2 p3
  replace GA := Lib.hid (GA.out.to hb)
  replace PA := Lib.hid (PA.out.to hb)
  replace GB := Lib.hid (GB.out.to hb)
  replace GC := Lib.hid (GC.out.to hb)
  replace GD := Lib.hid (GD.out.to hb)
  replace PD := Lib.hid (PD.out.to hb)
  replace XA := Lib.hid (XA.out.to hb)
  replace XB := Lib.hid (XB.out.to hb)
  replace XC := Lib.hid (XC.out.to hb)
  replace XD := Lib.hid (XD.out.to hb)
  replace OB := Lib.hid (own_bv OB.out hb)
  replace OC := Lib.hid (own_bv OC.out hb)
  replace OI := Lib.hid (own_bv OI.out hb)
  replace B := Lib.hid (B.out.trans (hb.mono B.out.size))
  clear hb
  have p1 := XC.out.at (j := 0) rfl
  have p2 := XC.out.at (j := 1) rfl
  have p3 := XC.out.at (j := 2) rfl
  have hz := rd_lit2 wb3 33 120 121
  have hb := (Below.refl wb3.heap.size wb3).alloc (Nat.le_refl _) (.cells #[.int .i64 120, .int .i64 121] 33)
  replace GA := Lib.hid (GA.out.to hb)
  replace PA := Lib.hid (PA.out.to hb)
  replace GB := Lib.hid (GB.out.to hb)
  replace GC := Lib.hid (GC.out.to hb)
  replace GD := Lib.hid (GD.out.to hb)
  replace PD := Lib.hid (PD.out.to hb)
  replace XA := Lib.hid (XA.out.to hb)
  replace XB := Lib.hid (XB.out.to hb)
  replace XC := Lib.hid (XC.out.to hb)
  replace XD := Lib.hid (XD.out.to hb)
  replace OB := Lib.hid (own_bv OB.out hb)
  replace OC := Lib.hid (own_bv OC.out hb)
  replace OI := Lib.hid (own_bv OI.out hb)
  replace B := Lib.hid (B.out.trans (hb.mono B.out.size))
  clear hb
  go_wp2_with fail
  refine (lIs ⟨some ⟨gc, 0, none⟩, 1, 1, Ac, 2, cc, none, 0, 0⟩ ⟨[(2, 1)], [shP, ⟨1, 8, 16, false, []⟩], []⟩ (some ⟨wb3.heap.size, 0, none⟩) 2 2 [120, 121] (wb3.alloc (.cells #[.int .i64 120, .int .i64 121] 33)) (cf_two GC.out OC.out) hz (Nat.le_of_ble_eq_true rfl) (Nat.le_of_ble_eq_true rfl) (Nat.le_of_ble_eq_true rfl)).mono ?_
  rw [decide_eq_true sh_over]
  rintro e wb4 ⟨rfl, hb⟩
  clear hz p1 p2 p3
  replace GA := Lib.hid (GA.out.to hb)
  replace PA := Lib.hid (PA.out.to hb)
  replace GB := Lib.hid (GB.out.to hb)
  replace GC := Lib.hid (GC.out.to hb)
  replace GD := Lib.hid (GD.out.to hb)
  replace PD := Lib.hid (PD.out.to hb)
  replace XA := Lib.hid (XA.out.to hb)
  replace XB := Lib.hid (XB.out.to hb)
  replace XC := Lib.hid (XC.out.to hb)
  replace XD := Lib.hid (XD.out.to hb)
  replace OB := Lib.hid (own_bv OB.out hb)
  replace OC := Lib.hid (own_bv OC.out hb)
  replace OI := Lib.hid (own_bv OI.out hb)
  replace B := Lib.hid (B.out.trans (hb.mono B.out.size))
  clear hb
  have p1 := XD.out.at (j := 0) rfl
  have p2 := XD.out.at (j := 1) rfl
  have p3 := XD.out.at (j := 2) rfl
  have hz := rd_lit1 wb4 33 80
  have hb := (Below.refl wb4.heap.size wb4).alloc (Nat.le_refl _) (.cells #[.int .i64 80] 33)
  replace GA := Lib.hid (GA.out.to hb)
  replace PA := Lib.hid (PA.out.to hb)
  replace GB := Lib.hid (GB.out.to hb)
  replace GC := Lib.hid (GC.out.to hb)
  replace GD := Lib.hid (GD.out.to hb)
  replace PD := Lib.hid (PD.out.to hb)
  replace XA := Lib.hid (XA.out.to hb)
  replace XB := Lib.hid (XB.out.to hb)
  replace XC := Lib.hid (XC.out.to hb)
  replace XD := Lib.hid (XD.out.to hb)
  replace OB := Lib.hid (own_bv OB.out hb)
  replace OC := Lib.hid (own_bv OC.out hb)
  replace OI := Lib.hid (own_bv OI.out hb)
  replace B := Lib.hid (B.out.trans (hb.mono B.out.size))
  clear hb
  go_wp2_with fail
  refine (lIs ⟨some ⟨gd, 0, none⟩, 1, 1, some ⟨pd, 0, none⟩, 1, 1, none, 0, 0⟩ ⟨[(2, 1)], [⟨1, 0, 16, false, List.replicate 17 0⟩], []⟩ (some ⟨wb4.heap.size, 0, none⟩) 1 1 [80] (wb4.alloc (.cells #[.int .i64 80] 33)) (cf_img GD.out PD.out (by decide) (by have := FF.out; have := HGI.out; omega) (Nat.le_refl _) OI.out) hz (Nat.le_of_ble_eq_true rfl) (Nat.le_of_ble_eq_true rfl) (Nat.le_of_ble_eq_true rfl)).mono ?_
  rw [decide_eq_true sh_img]
  rintro e wb5 ⟨rfl, hb⟩
  clear hz p1 p2 p3
  replace GA := Lib.hid (GA.out.to hb)
  replace PA := Lib.hid (PA.out.to hb)
  replace GB := Lib.hid (GB.out.to hb)
  replace GC := Lib.hid (GC.out.to hb)
  replace GD := Lib.hid (GD.out.to hb)
  replace PD := Lib.hid (PD.out.to hb)
  replace XA := Lib.hid (XA.out.to hb)
  replace XB := Lib.hid (XB.out.to hb)
  replace XC := Lib.hid (XC.out.to hb)
  replace XD := Lib.hid (XD.out.to hb)
  replace OB := Lib.hid (own_bv OB.out hb)
  replace OC := Lib.hid (own_bv OC.out hb)
  replace OI := Lib.hid (own_bv OI.out hb)
  replace B := Lib.hid (B.out.trans (hb.mono B.out.size))
  clear hb
  clear GA PA GB GC GD PD XD OB OC OI NBb NBc HGI
  go_upto_region 8 with (fail)
  obtain ⟨wc0, hwc0⟩ : ∃ x, x = wb5 := ⟨_, rfl⟩
  subst hwc0
  have HE0 : Hid (w.heap.size ≤ e0) := by (show _ ≤ _); have := FF.out; omega
  have HE3 : Hid (e0 + 1 + 1 < wc0.heap.size) := XC.out.lt
  clear FF
  go_wp2_with fail
  refine (lShownV wc0).mono ?_
  rintro e wc1 ⟨ha, qa, rfl, hg, hp, l1, l2, l3, hb⟩
  have LA := Lib.hid (And.intro l1 (And.intro l2 (And.intro l3 (And.intro hg.lt (And.intro hp.lt hb.size)))))
  clear l1 l2 l3
  replace XA := Lib.hid (XA.out.to hb)
  replace XB := Lib.hid (XB.out.to hb)
  replace XC := Lib.hid (XC.out.to hb)
  replace B := Lib.hid (B.out.trans (hb.mono B.out.size))
  clear hb
  have GA := Lib.hid hg
  have PA := Lib.hid hp
  clear hg hp
  go_wp2_with fail
  refine (lShownV wc1).mono ?_
  rintro e wc2 ⟨hb, qb, rfl, hg, hp, l1, l2, l3, hb⟩
  have LB := Lib.hid (And.intro l1 (And.intro l2 (And.intro l3 (And.intro hg.lt (And.intro hp.lt hb.size)))))
  clear l1 l2 l3
  replace XA := Lib.hid (XA.out.to hb)
  replace XB := Lib.hid (XB.out.to hb)
  replace XC := Lib.hid (XC.out.to hb)
  replace GA := Lib.hid (GA.out.to hb)
  replace PA := Lib.hid (PA.out.to hb)
  replace B := Lib.hid (B.out.trans (hb.mono B.out.size))
  clear hb
  have GB := Lib.hid hg
  have PB := Lib.hid hp
  clear hg hp
  go_wp2_with fail
  refine (lShownV wc2).mono ?_
  rintro e wc3 ⟨hc, qc, rfl, hg, hp, l1, l2, l3, hb⟩
  have LC := Lib.hid (And.intro l1 (And.intro l2 (And.intro l3 (And.intro hg.lt (And.intro hp.lt hb.size)))))
  clear l1 l2 l3
  replace XA := Lib.hid (XA.out.to hb)
  replace XB := Lib.hid (XB.out.to hb)
  replace XC := Lib.hid (XC.out.to hb)
  replace GA := Lib.hid (GA.out.to hb)
  replace PA := Lib.hid (PA.out.to hb)
  replace GB := Lib.hid (GB.out.to hb)
  replace PB := Lib.hid (PB.out.to hb)
  replace B := Lib.hid (B.out.trans (hb.mono B.out.size))
  clear hb
  have GC := Lib.hid hg
  have PC := Lib.hid hp
  clear hg hp
  have cXA0 := XA.out.at (j := 0) rfl
  have fXA0 := XA.out.fz 0
  have cXA1 := XA.out.at (j := 1) rfl
  have fXA1 := XA.out.fz 1
  have cXA2 := XA.out.at (j := 2) rfl
  have fXA2 := XA.out.fz 2
  have cXB0 := XB.out.at (j := 0) rfl
  have fXB0 := XB.out.fz 0
  have cXB1 := XB.out.at (j := 1) rfl
  have fXB1 := XB.out.fz 1
  have cXB2 := XB.out.at (j := 2) rfl
  have fXB2 := XB.out.fz 2
  have cXC0 := XC.out.at (j := 0) rfl
  have fXC0 := XC.out.fz 0
  have cXC1 := XC.out.at (j := 1) rfl
  have fXC1 := XC.out.fz 1
  have cXC2 := XC.out.at (j := 2) rfl
  have fXC2 := XC.out.fz 2
  have FF : Hid (w.heap.size ≤ e0 ∧ e0 + 1 + 1 < ha ∧ e0 + 1 + 1 < qa ∧ ha ≠ qa ∧ ha < hb ∧ ha < qb ∧ qa < hb ∧ qa < qb ∧ hb ≠ qb ∧ hb < hc ∧ hb < qc ∧ qb < hc ∧ qb < qc ∧ hc ≠ qc) := by
    have h0 := HE0.out
    have h4 := HE3.out
    have h1 := LA.out
    have h2 := LB.out
    have h3 := LC.out
    (show _ ∧ _)
    omega
  clear LA LB LC HE0 HE3
  go_upto_region 9 with (fail)
  obtain ⟨v1, hv1⟩ : ∃ x, setsC wc3 e0 0 [.slice (some ⟨ha, 0, none⟩) 1 1, .slice (some ⟨qa, 0, none⟩) 1 1, .slice none 0 0] = x := ⟨_, rfl⟩
  obtain ⟨v2, hv2⟩ : ∃ x, setsC v1 (e0 + 1) 0 [.slice (some ⟨hb, 0, none⟩) 1 1, .slice (some ⟨qb, 0, none⟩) 1 1, .slice none 0 0] = x := ⟨_, rfl⟩
  obtain ⟨v3, hv3⟩ : ∃ x, setsC v2 (e0 + 1 + 1) 0 [.slice (some ⟨hc, 0, none⟩) 1 1, .slice (some ⟨qc, 0, none⟩) 1 1, .slice none 0 0] = x := ⟨_, rfl⟩
  have hch : (((((((((wc3.setCell ⟨e0, 0, none⟩ (.slice (some ⟨ha, 0, none⟩) 1 1)).setCell ⟨e0, 1, none⟩ (.slice (some ⟨qa, 0, none⟩) 1 1)).setCell ⟨e0, 2, none⟩ (.slice none 0 0)).setCell ⟨e0 + 1, 0, none⟩ (.slice (some ⟨hb, 0, none⟩) 1 1)).setCell ⟨e0 + 1, 1, none⟩ (.slice (some ⟨qb, 0, none⟩) 1 1)).setCell ⟨e0 + 1, 2, none⟩ (.slice none 0 0)).setCell ⟨e0 + 1 + 1, 0, none⟩ (.slice (some ⟨hc, 0, none⟩) 1 1)).setCell ⟨e0 + 1 + 1, 1, none⟩ (.slice (some ⟨qc, 0, none⟩) 1 1)).setCell ⟨e0 + 1 + 1, 2, none⟩ (.slice none 0 0)) = v3 := by rw [← hv3, ← hv2, ← hv1]; rfl
  rw [hch]
  clear hch cXA0 cXA1 cXA2 cXB0 cXB1 cXB2 cXC0 cXC1 cXC2 fXA0 fXA1 fXA2 fXB0 fXB1 fXB2 fXC0 fXC1 fXC2
  replace XA := Lib.hid (XA.out.sets [.slice (some ⟨ha, 0, none⟩) 1 1, .slice (some ⟨qa, 0, none⟩) 1 1, .slice none 0 0] rfl)
  replace XB := Lib.hid (XB.out.kept (Keep.sets (R := (· = e0)) rfl [.slice (some ⟨ha, 0, none⟩) 1 1, .slice (some ⟨qa, 0, none⟩) 1 1, .slice none 0 0] 0 (Keep.refl _ _)) (fun h => by have h2 : (e0 + 1) = e0 := h; have := FF.out; omega))
  replace XC := Lib.hid (XC.out.kept (Keep.sets (R := (· = e0)) rfl [.slice (some ⟨ha, 0, none⟩) 1 1, .slice (some ⟨qa, 0, none⟩) 1 1, .slice none 0 0] 0 (Keep.refl _ _)) (fun h => by have h2 : (e0 + 1 + 1) = e0 := h; have := FF.out; omega))
  replace GA := Lib.hid (GA.out.kept (Keep.sets (R := (· = e0)) rfl [.slice (some ⟨ha, 0, none⟩) 1 1, .slice (some ⟨qa, 0, none⟩) 1 1, .slice none 0 0] 0 (Keep.refl _ _)) (fun h => by have h2 : ha = e0 := h; have := FF.out; omega))
  replace PA := Lib.hid (PA.out.kept (Keep.sets (R := (· = e0)) rfl [.slice (some ⟨ha, 0, none⟩) 1 1, .slice (some ⟨qa, 0, none⟩) 1 1, .slice none 0 0] 0 (Keep.refl _ _)) (fun h => by have h2 : qa = e0 := h; have := FF.out; omega))
  replace GB := Lib.hid (GB.out.kept (Keep.sets (R := (· = e0)) rfl [.slice (some ⟨ha, 0, none⟩) 1 1, .slice (some ⟨qa, 0, none⟩) 1 1, .slice none 0 0] 0 (Keep.refl _ _)) (fun h => by have h2 : hb = e0 := h; have := FF.out; omega))
  replace PB := Lib.hid (PB.out.kept (Keep.sets (R := (· = e0)) rfl [.slice (some ⟨ha, 0, none⟩) 1 1, .slice (some ⟨qa, 0, none⟩) 1 1, .slice none 0 0] 0 (Keep.refl _ _)) (fun h => by have h2 : qb = e0 := h; have := FF.out; omega))
  replace GC := Lib.hid (GC.out.kept (Keep.sets (R := (· = e0)) rfl [.slice (some ⟨ha, 0, none⟩) 1 1, .slice (some ⟨qa, 0, none⟩) 1 1, .slice none 0 0] 0 (Keep.refl _ _)) (fun h => by have h2 : hc = e0 := h; have := FF.out; omega))
  replace PC := Lib.hid (PC.out.kept (Keep.sets (R := (· = e0)) rfl [.slice (some ⟨ha, 0, none⟩) 1 1, .slice (some ⟨qa, 0, none⟩) 1 1, .slice none 0 0] 0 (Keep.refl _ _)) (fun h => by have h2 : qc = e0 := h; have := FF.out; omega))
  replace B := Lib.hid (below_sets (show w.heap.size ≤ e0 by have := FF.out; omega) [.slice (some ⟨ha, 0, none⟩) 1 1, .slice (some ⟨qa, 0, none⟩) 1 1, .slice none 0 0] 0 B.out)
  rw [hv1] at XA XB XC GA PA GB PB GC PC B
  clear hv1
  replace XA := Lib.hid (XA.out.kept (Keep.sets (R := (· = (e0 + 1))) rfl [.slice (some ⟨hb, 0, none⟩) 1 1, .slice (some ⟨qb, 0, none⟩) 1 1, .slice none 0 0] 0 (Keep.refl _ _)) (fun h => by have h2 : e0 = (e0 + 1) := h; have := FF.out; omega))
  replace XB := Lib.hid (XB.out.sets [.slice (some ⟨hb, 0, none⟩) 1 1, .slice (some ⟨qb, 0, none⟩) 1 1, .slice none 0 0] rfl)
  replace XC := Lib.hid (XC.out.kept (Keep.sets (R := (· = (e0 + 1))) rfl [.slice (some ⟨hb, 0, none⟩) 1 1, .slice (some ⟨qb, 0, none⟩) 1 1, .slice none 0 0] 0 (Keep.refl _ _)) (fun h => by have h2 : (e0 + 1 + 1) = (e0 + 1) := h; have := FF.out; omega))
  replace GA := Lib.hid (GA.out.kept (Keep.sets (R := (· = (e0 + 1))) rfl [.slice (some ⟨hb, 0, none⟩) 1 1, .slice (some ⟨qb, 0, none⟩) 1 1, .slice none 0 0] 0 (Keep.refl _ _)) (fun h => by have h2 : ha = (e0 + 1) := h; have := FF.out; omega))
  replace PA := Lib.hid (PA.out.kept (Keep.sets (R := (· = (e0 + 1))) rfl [.slice (some ⟨hb, 0, none⟩) 1 1, .slice (some ⟨qb, 0, none⟩) 1 1, .slice none 0 0] 0 (Keep.refl _ _)) (fun h => by have h2 : qa = (e0 + 1) := h; have := FF.out; omega))
  replace GB := Lib.hid (GB.out.kept (Keep.sets (R := (· = (e0 + 1))) rfl [.slice (some ⟨hb, 0, none⟩) 1 1, .slice (some ⟨qb, 0, none⟩) 1 1, .slice none 0 0] 0 (Keep.refl _ _)) (fun h => by have h2 : hb = (e0 + 1) := h; have := FF.out; omega))
  replace PB := Lib.hid (PB.out.kept (Keep.sets (R := (· = (e0 + 1))) rfl [.slice (some ⟨hb, 0, none⟩) 1 1, .slice (some ⟨qb, 0, none⟩) 1 1, .slice none 0 0] 0 (Keep.refl _ _)) (fun h => by have h2 : qb = (e0 + 1) := h; have := FF.out; omega))
  replace GC := Lib.hid (GC.out.kept (Keep.sets (R := (· = (e0 + 1))) rfl [.slice (some ⟨hb, 0, none⟩) 1 1, .slice (some ⟨qb, 0, none⟩) 1 1, .slice none 0 0] 0 (Keep.refl _ _)) (fun h => by have h2 : hc = (e0 + 1) := h; have := FF.out; omega))
  replace PC := Lib.hid (PC.out.kept (Keep.sets (R := (· = (e0 + 1))) rfl [.slice (some ⟨hb, 0, none⟩) 1 1, .slice (some ⟨qb, 0, none⟩) 1 1, .slice none 0 0] 0 (Keep.refl _ _)) (fun h => by have h2 : qc = (e0 + 1) := h; have := FF.out; omega))
  replace B := Lib.hid (below_sets (show w.heap.size ≤ (e0 + 1) by have := FF.out; omega) [.slice (some ⟨hb, 0, none⟩) 1 1, .slice (some ⟨qb, 0, none⟩) 1 1, .slice none 0 0] 0 B.out)
  rw [hv2] at XA XB XC GA PA GB PB GC PC B
  clear hv2
  replace XA := Lib.hid (XA.out.kept (Keep.sets (R := (· = (e0 + 1 + 1))) rfl [.slice (some ⟨hc, 0, none⟩) 1 1, .slice (some ⟨qc, 0, none⟩) 1 1, .slice none 0 0] 0 (Keep.refl _ _)) (fun h => by have h2 : e0 = (e0 + 1 + 1) := h; have := FF.out; omega))
  replace XB := Lib.hid (XB.out.kept (Keep.sets (R := (· = (e0 + 1 + 1))) rfl [.slice (some ⟨hc, 0, none⟩) 1 1, .slice (some ⟨qc, 0, none⟩) 1 1, .slice none 0 0] 0 (Keep.refl _ _)) (fun h => by have h2 : (e0 + 1) = (e0 + 1 + 1) := h; have := FF.out; omega))
  replace XC := Lib.hid (XC.out.sets [.slice (some ⟨hc, 0, none⟩) 1 1, .slice (some ⟨qc, 0, none⟩) 1 1, .slice none 0 0] rfl)
  replace GA := Lib.hid (GA.out.kept (Keep.sets (R := (· = (e0 + 1 + 1))) rfl [.slice (some ⟨hc, 0, none⟩) 1 1, .slice (some ⟨qc, 0, none⟩) 1 1, .slice none 0 0] 0 (Keep.refl _ _)) (fun h => by have h2 : ha = (e0 + 1 + 1) := h; have := FF.out; omega))
  replace PA := Lib.hid (PA.out.kept (Keep.sets (R := (· = (e0 + 1 + 1))) rfl [.slice (some ⟨hc, 0, none⟩) 1 1, .slice (some ⟨qc, 0, none⟩) 1 1, .slice none 0 0] 0 (Keep.refl _ _)) (fun h => by have h2 : qa = (e0 + 1 + 1) := h; have := FF.out; omega))
  replace GB := Lib.hid (GB.out.kept (Keep.sets (R := (· = (e0 + 1 + 1))) rfl [.slice (some ⟨hc, 0, none⟩) 1 1, .slice (some ⟨qc, 0, none⟩) 1 1, .slice none 0 0] 0 (Keep.refl _ _)) (fun h => by have h2 : hb = (e0 + 1 + 1) := h; have := FF.out; omega))
  replace PB := Lib.hid (PB.out.kept (Keep.sets (R := (· = (e0 + 1 + 1))) rfl [.slice (some ⟨hc, 0, none⟩) 1 1, .slice (some ⟨qc, 0, none⟩) 1 1, .slice none 0 0] 0 (Keep.refl _ _)) (fun h => by have h2 : qb = (e0 + 1 + 1) := h; have := FF.out; omega))
  replace GC := Lib.hid (GC.out.kept (Keep.sets (R := (· = (e0 + 1 + 1))) rfl [.slice (some ⟨hc, 0, none⟩) 1 1, .slice (some ⟨qc, 0, none⟩) 1 1, .slice none 0 0] 0 (Keep.refl _ _)) (fun h => by have h2 : hc = (e0 + 1 + 1) := h; have := FF.out; omega))
  replace PC := Lib.hid (PC.out.kept (Keep.sets (R := (· = (e0 + 1 + 1))) rfl [.slice (some ⟨hc, 0, none⟩) 1 1, .slice (some ⟨qc, 0, none⟩) 1 1, .slice none 0 0] 0 (Keep.refl _ _)) (fun h => by have h2 : qc = (e0 + 1 + 1) := h; have := FF.out; omega))
  replace B := Lib.hid (below_sets (show w.heap.size ≤ (e0 + 1 + 1) by have := FF.out; omega) [.slice (some ⟨hc, 0, none⟩) 1 1, .slice (some ⟨qc, 0, none⟩) 1 1, .slice none 0 0] 0 B.out)
  rw [hv3] at XA XB XC GA PA GB PB GC PC B
  clear hv3
  -- a.Windows = nil
  have p1 := XA.out.at (j := 0) rfl
  have p2 := XA.out.fz 0
  go_upto_region 10 with (fail)
  clear p1 p2
  replace XA := Lib.hid (XA.out.set 0 (.slice none 0 0))
  replace XB := Lib.hid (XB.out.other ⟨e0, 0, none⟩ (.slice none 0 0) (by have := FF.out; dsimp only; omega))
  replace XC := Lib.hid (XC.out.other ⟨e0, 0, none⟩ (.slice none 0 0) (by have := FF.out; dsimp only; omega))
  replace GA := Lib.hid (GA.out.other ⟨e0, 0, none⟩ (.slice none 0 0) (by have := FF.out; dsimp only; omega))
  replace PA := Lib.hid (PA.out.other ⟨e0, 0, none⟩ (.slice none 0 0) (by have := FF.out; dsimp only; omega))
  replace GB := Lib.hid (GB.out.other ⟨e0, 0, none⟩ (.slice none 0 0) (by have := FF.out; dsimp only; omega))
  replace PB := Lib.hid (PB.out.other ⟨e0, 0, none⟩ (.slice none 0 0) (by have := FF.out; dsimp only; omega))
  replace GC := Lib.hid (GC.out.other ⟨e0, 0, none⟩ (.slice none 0 0) (by have := FF.out; dsimp only; omega))
  replace PC := Lib.hid (PC.out.other ⟨e0, 0, none⟩ (.slice none 0 0) (by have := FF.out; dsimp only; omega))
  replace B := Lib.hid (B.out.setCell (p := ⟨e0, 0, none⟩) (by have := FF.out; dsimp only; omega) (.slice none 0 0))
  generalize v3.setCell ⟨e0, 0, none⟩ (.slice none 0 0) = v4 at *
  -- b.Parts[0].Region.Size = 12
  have p1 := XB.out.at (j := 1) rfl
  have p2 := PB.out.at (j := 2) rfl
  have p3 := PB.out.fz 2
  go_upto_region 11 with (fail)
  clear p1 p2 p3
  replace XA := Lib.hid (XA.out.other ⟨qb, 2, none⟩ (.int .i64 12) (by have := FF.out; dsimp only; omega))
  replace XB := Lib.hid (XB.out.other ⟨qb, 2, none⟩ (.int .i64 12) (by have := FF.out; dsimp only; omega))
  replace XC := Lib.hid (XC.out.other ⟨qb, 2, none⟩ (.int .i64 12) (by have := FF.out; dsimp only; omega))
  replace GA := Lib.hid (GA.out.other ⟨qb, 2, none⟩ (.int .i64 12) (by have := FF.out; dsimp only; omega))
  replace PA := Lib.hid (PA.out.other ⟨qb, 2, none⟩ (.int .i64 12) (by have := FF.out; dsimp only; omega))
  replace GB := Lib.hid (GB.out.other ⟨qb, 2, none⟩ (.int .i64 12) (by have := FF.out; dsimp only; omega))
  replace PB := Lib.hid (PB.out.set 2 (.int .i64 12))
  replace GC := Lib.hid (GC.out.other ⟨qb, 2, none⟩ (.int .i64 12) (by have := FF.out; dsimp only; omega))
  replace PC := Lib.hid (PC.out.other ⟨qb, 2, none⟩ (.int .i64 12) (by have := FF.out; dsimp only; omega))
  replace B := Lib.hid (B.out.setCell (p := ⟨qb, 2, none⟩) (by have := FF.out; dsimp only; omega) (.int .i64 12))
  generalize v4.setCell ⟨qb, 2, none⟩ (.int .i64 12) = v5 at *
  -- c.Channels = []Channel{..}
  have hqs := XC.out.lt
  have p1 := XC.out.at (j := 2) rfl
  have p2 := XC.out.fz 2
  go_upto_region 12 with (fail)
  clear p1 p2
  generalize hqn : v5.heap.size = qn at *
  have HQN := Lib.hid hqs
  have FG := FF
  replace FF : Hid ((w.heap.size ≤ e0 ∧ e0 + 1 + 1 < ha ∧ e0 + 1 + 1 < qa ∧ ha ≠ qa ∧ ha < hb ∧ ha < qb ∧ qa < hb ∧ qa < qb ∧ hb ≠ qb ∧ hb < hc ∧ hb < qc ∧ qb < hc ∧ qb < qc ∧ hc ≠ qc) ∧ e0 + 1 + 1 < qn) := ⟨FG.out, HQN.out⟩
  have hsz : (v5.setCell ⟨e0 + 1 + 1, 2, none⟩ (.slice (some ⟨qn, 0, none⟩) 1 1)).heap.size = qn := by rw [← hqn]; simp
  clear FG HQN hqs hqn
  replace XA := Lib.hid (XA.out.other ⟨e0 + 1 + 1, 2, none⟩ (.slice (some ⟨qn, 0, none⟩) 1 1) (by have := FF.out; dsimp only; omega))
  replace XB := Lib.hid (XB.out.other ⟨e0 + 1 + 1, 2, none⟩ (.slice (some ⟨qn, 0, none⟩) 1 1) (by have := FF.out; dsimp only; omega))
  replace XC := Lib.hid (XC.out.set 2 (.slice (some ⟨qn, 0, none⟩) 1 1))
  replace GA := Lib.hid (GA.out.other ⟨e0 + 1 + 1, 2, none⟩ (.slice (some ⟨qn, 0, none⟩) 1 1) (by have := FF.out; dsimp only; omega))
  replace PA := Lib.hid (PA.out.other ⟨e0 + 1 + 1, 2, none⟩ (.slice (some ⟨qn, 0, none⟩) 1 1) (by have := FF.out; dsimp only; omega))
  replace GB := Lib.hid (GB.out.other ⟨e0 + 1 + 1, 2, none⟩ (.slice (some ⟨qn, 0, none⟩) 1 1) (by have := FF.out; dsimp only; omega))
  replace PB := Lib.hid (PB.out.other ⟨e0 + 1 + 1, 2, none⟩ (.slice (some ⟨qn, 0, none⟩) 1 1) (by have := FF.out; dsimp only; omega))
  replace GC := Lib.hid (GC.out.other ⟨e0 + 1 + 1, 2, none⟩ (.slice (some ⟨qn, 0, none⟩) 1 1) (by have := FF.out; dsimp only; omega))
  replace PC := Lib.hid (PC.out.other ⟨e0 + 1 + 1, 2, none⟩ (.slice (some ⟨qn, 0, none⟩) 1 1) (by have := FF.out; dsimp only; omega))
  replace B := Lib.hid (B.out.setCell (p := ⟨e0 + 1 + 1, 2, none⟩) (by have := FF.out; dsimp only; omega) (.slice (some ⟨qn, 0, none⟩) 1 1))
  generalize v5.setCell ⟨e0 + 1 + 1, 2, none⟩ (.slice (some ⟨qn, 0, none⟩) 1 1) = v6 at *
  have hb := (Below.refl v6.heap.size v6).alloc (Nat.le_refl _) (.cells #[.int .i64 1, .int .i64 1, .int .i64 2, .int .i64 1, .int .i64 1] 51)
  have hq := Bx.new v6 51 [.int .i64 1, .int .i64 1, .int .i64 2, .int .i64 1, .int .i64 1]
  rw [hsz] at hq
  clear hsz
  replace XA := Lib.hid (XA.out.to hb)
  replace XB := Lib.hid (XB.out.to hb)
  replace XC := Lib.hid (XC.out.to hb)
  replace GA := Lib.hid (GA.out.to hb)
  replace PA := Lib.hid (PA.out.to hb)
  replace GB := Lib.hid (GB.out.to hb)
  replace PB := Lib.hid (PB.out.to hb)
  replace GC := Lib.hid (GC.out.to hb)
  replace PC := Lib.hid (PC.out.to hb)
  replace B := Lib.hid (B.out.trans (hb.mono B.out.size))
  clear hb
  generalize v6.alloc (.cells #[.int .i64 1, .int .i64 1, .int .i64 2, .int .i64 1, .int .i64 1] 51) = v7 at *
  have QC := Lib.hid hq
  clear hq
  have p1 := XA.out.at (j := 0) rfl
  have p2 := XA.out.at (j := 1) rfl
  have p3 := XA.out.at (j := 2) rfl
  have hz := rd_lit1 v7 33 90
  have hb := (Below.refl v7.heap.size v7).alloc (Nat.le_refl _) (.cells #[.int .i64 90] 33)
  replace XA := Lib.hid (XA.out.to hb)
  replace XB := Lib.hid (XB.out.to hb)
  replace XC := Lib.hid (XC.out.to hb)
  replace GA := Lib.hid (GA.out.to hb)
  replace PA := Lib.hid (PA.out.to hb)
  replace GB := Lib.hid (GB.out.to hb)
  replace PB := Lib.hid (PB.out.to hb)
  replace GC := Lib.hid (GC.out.to hb)
  replace PC := Lib.hid (PC.out.to hb)
  replace QC := Lib.hid (QC.out.to hb)
  replace B := Lib.hid (B.out.trans (hb.mono B.out.size))
  clear hb
  go_wp2_with fail
  refine (lIs ⟨none, 0, 0, some ⟨qa, 0, none⟩, 1, 1, none, 0, 0⟩ ⟨[], [shP], []⟩ (some ⟨v7.heap.size, 0, none⟩) 1 1 [90] (v7.alloc (.cells #[.int .i64 90] 33)) (cf_nowin PA.out) hz (Nat.le_of_ble_eq_true rfl) (Nat.le_of_ble_eq_true rfl) (Nat.le_of_ble_eq_true rfl)).mono ?_
  rw [decide_eq_true sh_none]
  rintro e wb6 ⟨rfl, hb⟩
  clear hz p1 p2 p3
  replace XA := Lib.hid (XA.out.to hb)
  replace XB := Lib.hid (XB.out.to hb)
  replace XC := Lib.hid (XC.out.to hb)
  replace GA := Lib.hid (GA.out.to hb)
  replace PA := Lib.hid (PA.out.to hb)
  replace GB := Lib.hid (GB.out.to hb)
  replace PB := Lib.hid (PB.out.to hb)
  replace GC := Lib.hid (GC.out.to hb)
  replace PC := Lib.hid (PC.out.to hb)
  replace QC := Lib.hid (QC.out.to hb)
  replace B := Lib.hid (B.out.trans (hb.mono B.out.size))
  clear hb
  have p1 := XB.out.at (j := 0) rfl
  have p2 := XB.out.at (j := 1) rfl
  have p3 := XB.out.at (j := 2) rfl
  have hz := rd_lit1 wb6 33 80
  have hb := (Below.refl wb6.heap.size wb6).alloc (Nat.le_refl _) (.cells #[.int .i64 80] 33)
  replace XA := Lib.hid (XA.out.to hb)
  replace XB := Lib.hid (XB.out.to hb)
  replace XC := Lib.hid (XC.out.to hb)
  replace GA := Lib.hid (GA.out.to hb)
  replace PA := Lib.hid (PA.out.to hb)
  replace GB := Lib.hid (GB.out.to hb)
  replace PB := Lib.hid (PB.out.to hb)
  replace GC := Lib.hid (GC.out.to hb)
  replace PC := Lib.hid (PC.out.to hb)
  replace QC := Lib.hid (QC.out.to hb)
  replace B := Lib.hid (B.out.trans (hb.mono B.out.size))
  clear hb
  go_wp2_with fail
  refine (lIs ⟨some ⟨hb, 0, none⟩, 1, 1, some ⟨qb, 0, none⟩, 1, 1, none, 0, 0⟩ ⟨[(2, 1)], [⟨1, 0, 12, false, []⟩], []⟩ (some ⟨wb6.heap.size, 0, none⟩) 1 1 [80] (wb6.alloc (.cells #[.int .i64 80] 33)) (cf_one GB.out PB.out) hz (Nat.le_of_ble_eq_true rfl) (Nat.le_of_ble_eq_true rfl) (Nat.le_of_ble_eq_true rfl)).mono ?_
  rw [decide_eq_true sh_size]
  rintro e wb7 ⟨rfl, hb⟩
  clear hz p1 p2 p3
  replace XA := Lib.hid (XA.out.to hb)
  replace XB := Lib.hid (XB.out.to hb)
  replace XC := Lib.hid (XC.out.to hb)
  replace GA := Lib.hid (GA.out.to hb)
  replace PA := Lib.hid (PA.out.to hb)
  replace GB := Lib.hid (GB.out.to hb)
  replace PB := Lib.hid (PB.out.to hb)
  replace GC := Lib.hid (GC.out.to hb)
  replace PC := Lib.hid (PC.out.to hb)
  replace QC := Lib.hid (QC.out.to hb)
  replace B := Lib.hid (B.out.trans (hb.mono B.out.size))
  clear hb
  have p1 := XC.out.at (j := 0) rfl
  have p2 := XC.out.at (j := 1) rfl
  have p3 := XC.out.at (j := 2) rfl
  have hz := rd_lit1 wb7 33 100
  have hb := (Below.refl wb7.heap.size wb7).alloc (Nat.le_refl _) (.cells #[.int .i64 100] 33)
  replace XA := Lib.hid (XA.out.to hb)
  replace XB := Lib.hid (XB.out.to hb)
  replace XC := Lib.hid (XC.out.to hb)
  replace GA := Lib.hid (GA.out.to hb)
  replace PA := Lib.hid (PA.out.to hb)
  replace GB := Lib.hid (GB.out.to hb)
  replace PB := Lib.hid (PB.out.to hb)
  replace GC := Lib.hid (GC.out.to hb)
  replace PC := Lib.hid (PC.out.to hb)
  replace QC := Lib.hid (QC.out.to hb)
  replace B := Lib.hid (B.out.trans (hb.mono B.out.size))
  clear hb
  go_wp2_with fail
  refine (lIs ⟨some ⟨hc, 0, none⟩, 1, 1, some ⟨qc, 0, none⟩, 1, 1, some ⟨qn, 0, none⟩, 1, 1⟩ ⟨[(2, 1)], [shP], [⟨1, 1, 2, 1, 1⟩]⟩ (some ⟨wb7.heap.size, 0, none⟩) 1 1 [100] (wb7.alloc (.cells #[.int .i64 100] 33)) (cf_chan GC.out PC.out QC.out) hz (Nat.le_of_ble_eq_true rfl) (Nat.le_of_ble_eq_true rfl) (Nat.le_of_ble_eq_true rfl)).mono ?_
  rw [decide_eq_true sh_chan]
  rintro e wb8 ⟨rfl, hb⟩
  clear hz p1 p2 p3
  replace XA := Lib.hid (XA.out.to hb)
  replace XB := Lib.hid (XB.out.to hb)
  replace XC := Lib.hid (XC.out.to hb)
  replace GA := Lib.hid (GA.out.to hb)
  replace PA := Lib.hid (PA.out.to hb)
  replace GB := Lib.hid (GB.out.to hb)
  replace PB := Lib.hid (PB.out.to hb)
  replace GC := Lib.hid (GC.out.to hb)
  replace PC := Lib.hid (PC.out.to hb)
  replace QC := Lib.hid (QC.out.to hb)
  replace B := Lib.hid (B.out.trans (hb.mono B.out.size))
  clear hb
  go_wp2_with fail
  refine (lShownV wb8).mono ?_
  rintro e z1 ⟨gs, ps, rfl, hgs, hps, -, -, -, hb⟩
  replace XA := Lib.hid (XA.out.to hb)
  replace XB := Lib.hid (XB.out.to hb)
  replace XC := Lib.hid (XC.out.to hb)
  replace GA := Lib.hid (GA.out.to hb)
  replace PA := Lib.hid (PA.out.to hb)
  replace GB := Lib.hid (GB.out.to hb)
  replace PB := Lib.hid (PB.out.to hb)
  replace GC := Lib.hid (GC.out.to hb)
  replace PC := Lib.hid (PC.out.to hb)
  replace QC := Lib.hid (QC.out.to hb)
  replace B := Lib.hid (B.out.trans (hb.mono B.out.size))
  clear hb
  go_wp2_with fail
  refine (wFitsV ⟨some ⟨gs, 0, none⟩, 1, 1, some ⟨ps, 0, none⟩, 1, 1, none, 0, 0⟩ ⟨[(2, 1)], [shP], []⟩ z1 (cf_one hgs hps) (Nat.le_of_ble_eq_true rfl) (Nat.le_of_ble_eq_true rfl) (Nat.le_of_ble_eq_true rfl)).mono ?_
  rw [fits_ok]
  rintro e z2 ⟨rfl, hb⟩
  clear hgs hps
  replace XA := Lib.hid (XA.out.to hb)
  replace XB := Lib.hid (XB.out.to hb)
  replace XC := Lib.hid (XC.out.to hb)
  replace GA := Lib.hid (GA.out.to hb)
  replace PA := Lib.hid (PA.out.to hb)
  replace GB := Lib.hid (GB.out.to hb)
  replace PB := Lib.hid (PB.out.to hb)
  replace GC := Lib.hid (GC.out.to hb)
  replace PC := Lib.hid (PC.out.to hb)
  replace QC := Lib.hid (QC.out.to hb)
  replace B := Lib.hid (B.out.trans (hb.mono B.out.size))
  clear hb
  have p1 := XC.out.at (j := 0) rfl
  have p2 := XC.out.at (j := 1) rfl
  have p3 := XC.out.at (j := 2) rfl
  go_wp2_with fail
  refine (wFitsV ⟨some ⟨hc, 0, none⟩, 1, 1, some ⟨qc, 0, none⟩, 1, 1, some ⟨qn, 0, none⟩, 1, 1⟩ ⟨[(2, 1)], [shP], [⟨1, 1, 2, 1, 1⟩]⟩ z2 (cf_chan GC.out PC.out QC.out) (Nat.le_of_ble_eq_true rfl) (Nat.le_of_ble_eq_true rfl) (Nat.le_of_ble_eq_true rfl)).mono ?_
  rw [fits_chan]
  rintro e z3 ⟨rfl, hb⟩
  clear p1 p2 p3
  replace XA := Lib.hid (XA.out.to hb)
  replace XB := Lib.hid (XB.out.to hb)
  replace XC := Lib.hid (XC.out.to hb)
  replace GA := Lib.hid (GA.out.to hb)
  replace PA := Lib.hid (PA.out.to hb)
  replace GB := Lib.hid (GB.out.to hb)
  replace PB := Lib.hid (PB.out.to hb)
  replace GC := Lib.hid (GC.out.to hb)
  replace PC := Lib.hid (PC.out.to hb)
  replace QC := Lib.hid (QC.out.to hb)
  replace B := Lib.hid (B.out.trans (hb.mono B.out.size))
  clear hb
  have p1 := XC.out.at (j := 0) rfl
  have p2 := XC.out.at (j := 1) rfl
  have p3 := XC.out.at (j := 2) rfl
  go_wp2_with fail
  refine (wCheckV ⟨some ⟨hc, 0, none⟩, 1, 1, some ⟨qc, 0, none⟩, 1, 1, some ⟨qn, 0, none⟩, 1, 1⟩ ⟨[(2, 1)], [shP], [⟨1, 1, 2, 1, 1⟩]⟩ z3 (cf_chan GC.out PC.out QC.out) (Nat.le_of_ble_eq_true rfl) (Nat.le_of_ble_eq_true rfl) (Nat.le_of_ble_eq_true rfl)).mono ?_
  rw [check_chan]
  rintro e z4 ⟨rfl, hb⟩
  clear p1 p2 p3
  replace XA := Lib.hid (XA.out.to hb)
  replace XB := Lib.hid (XB.out.to hb)
  replace XC := Lib.hid (XC.out.to hb)
  replace GA := Lib.hid (GA.out.to hb)
  replace PA := Lib.hid (PA.out.to hb)
  replace GB := Lib.hid (GB.out.to hb)
  replace PB := Lib.hid (PB.out.to hb)
  replace GC := Lib.hid (GC.out.to hb)
  replace PC := Lib.hid (PC.out.to hb)
  replace QC := Lib.hid (QC.out.to hb)
  replace B := Lib.hid (B.out.trans (hb.mono B.out.size))
  clear hb
  go_wp2_with fail
  go_ret
  exact ⟨rfl, B.out⟩
end
end Go.Proofs.Ytnaegbnijbdgbaa
