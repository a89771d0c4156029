/- Contract of the program's Chain (sha). -/
import Derived.Test.YtbgcnhhdgnalgaaDoorShaH
namespace Go.Proofs.YtbgcnhhdgnalgaaDoor
open Go.RowKit
set_option linter.unusedVariables false
set_option linter.unusedSimpArgs false

/-- Each row's length is at most its capacity. -/
def CapS (w : World) (A : Option Addr) (n : Nat) : Prop :=
  ∀ b o, A = some ⟨b, o, none⟩ → ∀ j, j < n → ∀ A1 n1 c1, w.cell? ⟨b, o + j, none⟩ = some (.slice A1 n1 c1) → n1 ≤ c1 ∧ c1 ≤ 9223372036854775807
theorem CapS.below {w w' : World} {B : Nat} {A : Option Addr} {n : Nat} (h : CapS w A n) (hb : Below B w w') (hA : ∀ b o, A = some ⟨b, o, none⟩ → 0 < n → b < B) : CapS w' A n := fun b o e j hj A1 n1 c1 hc => by
  rw [hb.cell (hA b o e (by omega))] at hc
  exact h b o e j hj A1 n1 c1 hc
theorem chain_take {bss : List (List UInt8)} {k : Nat} (h : k + 1 < bss.length) : chainL (bss.take (k + 1 + 1)) = shaL (chainL (bss.take (k + 1)) ++ bss.getD (k + 1) []) := by
  cases bss with
  | nil => simp at h
  | cons x l =>
    have hk : k < l.length := by simpa using h
    rw [List.take_succ_cons, List.take_succ_cons, List.getD_cons_succ, List.take_succ_eq_append_getElem hk, ← List.cons_append, chainL_snoc]
    simp [List.getD, List.getElem?_eq_getElem hk]
theorem chain_one {bss : List (List UInt8)} (h : 0 < bss.length) : chainL (bss.take 1) = shaL (bss.getD 0 []) := by
  cases bss with
  | nil => simp at h
  | cons x l => rfl
theorem row_le {bss : List (List UInt8)} {j : Nat} (h : j < bss.length) : (bss.getD j []).length ≤ bss.flatten.length := by
  have h1 := tot_succ h
  have h2 := tot_le bss (j + 1)
  omega
/-- 'l[1:]' of rows. -/
theorem rows_tail (b o n c : Nat) (h1 : 1 ≤ n) (hc : n ≤ c) : ∃ A', (∀ w : World, (Instr.slice 46 (.slice (some ⟨b, o, none⟩) n c) (some (.int .i64 1)) none none).run Tryd.prog w = .ok (.slice A' (n - 1) (c - 1)) w) ∧ (1 < n → A' = some ⟨b, o + 1, none⟩) := by
  refine ⟨if c = 1 then some ⟨b, o, none⟩ else some ⟨b, o + 1, none⟩, fun w => ?_, fun h => by rw [if_neg (by omega)]⟩
  have he : Tryd.prog.elem 46 = 25 := by kernel_rfl
  rw [run_slice_l (ht := by kernel_rfl) (kl := .i64) (l := 1) (h0 := by decide) (h1 := by omega), he, rows_size]
  simp [Result.andThen, sliced, Addr.add]

/-- 't[:]' of a tag in a block. -/
theorem tag_sliceAll (g : Nat) (w : World) : (Instr.sliceAt 36 (.pointer (some ⟨g, 0, none⟩)) none none none).run Tryd.prog w = .ok (.slice (some ⟨g, 0, none⟩) 32 32) w := by
  have hl : Tryd.prog.arrayLen 36 = 32 := by kernel_rfl
  have he : Tryd.prog.elem 36 = 5 := by kernel_rfl
  have hs : (sizeOf 5).run Tryd.prog w = .ok 1 w := sizeOf_one (by kernel_rfl) w
  rw [run_sliceAt_array_all (ht := by kernel_rfl), he, hl, hs]
  simp [Result.andThen, slicedAt, Addr.add]

def ChRel (w : World) (bss : List (List UInt8)) (n g3 g4 : Nat) (i : Value) (wr : World) : Prop :=
  ∃ k : Nat, k + 1 ≤ n ∧ i = .int .i64 (k : Int) ∧ TagAt wr g4 (chainL (bss.take (k + 1))) ∧ NumAt 59 .u32 wr g3 shaK ∧ TagAt wr w.heap.size zeros32 ∧ Below w.heap.size w wr

set_option maxRecDepth 1000000 in
set_option maxHeartbeats 1000000 in
theorem wChain (A : Option Addr) (n c : Nat) (bss : List (List UInt8)) (w : World) (hp : Pr w) (ha : RdS w w.heap.size A n bss) (hcs : CapS w A n) (hc : n ≤ c) (hc' : c ≤ 9223372036854775807) (hn : n ≤ 100000) (ht : bss.flatten.length ≤ 1000000) :
    Calls Tryd.prog 24 #[.slice A n c] w fun e w' => e = .returned (.agg (arrB (chainL bss))) ∧ Below w.heap.size w w' := by
  have hz := tag_zero
  have T0 : Hid (TagAt (w.alloc (.cells (arrB zeros32) 36)) w.heap.size zeros32) := ⟨rfl, heap_alloc_last w _⟩
  have B : Hid (Below w.heap.size w (w.alloc (.cells (arrB zeros32) 36))) := (Below.refl _ _).alloc (Nat.le_refl _) _
  have P := Lib.hid (hp.to B.out)
  have HP := Lib.hid hp
  clear hp
  by_cases h0 : n = 0
  · subst h0
    obtain rfl : bss = [] := List.eq_nil_of_length_eq_zero ha.1
    have HC : Hid (chainL [] = shaL []) := rfl
    clear ha hcs
    go_enter Tryd.func24, Tryd.ntmps24
    go_wp2_with fail
    clear hz
    generalize w.alloc (.cells (arrB zeros32) 36) = w0 at *
    refine (wSha none 0 0 [] w0 P.out (Rd.nil _ _ _) (by decide) (by decide) (by decide)).mono ?_
    rintro e w2 ⟨rfl, hb⟩
    replace T0 := Lib.hid (T0.out.below hb)
    replace B := Lib.hid (B.out.trans (hb.mono B.out.size))
    clear hb
    have S1 := Lib.hid (tag_size (shaL_len []))
    have E1 : Hid ((arrB zeros32).size = (arrB (shaL [])).size) := by
      show _ = _
      rw [arrB_size, arrB_size, shaL_len]; rfl
    go_wp2_with (refine wpList_store_row rfl 36 _ _ rfl w.heap.size (arrB (shaL [])) rfl rfl 36 (arrB zeros32) T0.out.2 S1.out E1.out (arrB_one _) ?_)
    (try simp only [Exit.inBlock, Exit.then])
    refine bodyPost_ret (v := .agg (arrB (shaL []))) ?_ rfl ⟨rfl, below_setRow B.out (Nat.le_refl _) _⟩
    exact results_cell_row rfl _ _ w.heap.size 36 (arrB (shaL [])) (0, 0) _ rfl (setRow_heap _ _ _ _ _ _ T0.out.2) Tryd.underlying36 rfl S1.out
  · have hz64 := k_zero
    have HA := Lib.hid ha
    obtain ⟨b, o, rfl, hbo, hrow⟩ := ha.2 (by omega)
    have HROW : Hid (∀ j, j < n → ∃ A1 n1 c1, w.cell? ⟨b, o + j, none⟩ = some (.slice A1 n1 c1) ∧ Rd w w.heap.size A1 n1 (bss.getD j []) ∧ n1 ≤ c1 ∧ c1 ≤ 9223372036854775807 ∧ n1 ≤ 1000000) := fun j hj => by
      obtain ⟨A1, n1, c1, h1, h2⟩ := hrow j hj
      obtain ⟨h3, h4⟩ := hcs b o rfl j hj A1 n1 c1 h1
      have := row_le (bss := bss) (j := j) (by rw [HA.out.1]; exact hj)
      exact ⟨A1, n1, c1, h1, h2, h3, h4, by rw [← h2.1]; omega⟩
    obtain ⟨A9, hs9, hA9⟩ := rows_tail b o n c (by omega) hc
    obtain ⟨n9, hn9⟩ : ∃ m, n - 1 = m := ⟨_, rfl⟩
    rw [hn9] at hs9
    have HN9 : Hid (n = n9 + 1) := by (show _ = _); omega
    clear hn9
    have HA9 := Lib.hid hA9
    obtain ⟨A1, n1, c1, hcell1, hrd1, hcap1, hcap1', hlen1⟩ := HROW.out 0 (by omega)
    rw [Nat.add_zero] at hcell1
    have R1 := Lib.hid hrd1
    have HCELL := Lib.hid hcell1
    have hn0 : ((n : Int) == 0) = false := by simp; omega
    have hn0' : ¬ ((n : Int) = 0) := by omega
    have hnpos : 0 < n := by omega
    have HBO := Lib.hid hbo
    clear ha hcs hrow hA9 hrd1 hbo hcell1
    go_enter Tryd.func24, Tryd.ntmps24
    go_wp2_with fail
    generalize w.alloc (.cells (arrB zeros32) 36) = w0 at *
    refine (wConstants w0 P.out).mono ?_
    rintro e w1 ⟨rfl, hb⟩
    replace P := Lib.hid (P.out.to hb)
    replace T0 := Lib.hid (T0.out.below hb)
    replace B := Lib.hid (B.out.trans (hb.mono B.out.size))
    clear hb
    have HK64 := Lib.hid (k_size (xs := shaK) rfl)
    have HKE := Lib.hid (same_size (k := .u32) (xs := zeros64) (ys := shaK) rfl)
    go_wp2_with (refine wpList_store_row rfl 59 _ _ rfl w1.heap.size (arrN .u32 shaK) rfl rfl 59 (arrN .u32 zeros64) (heap_alloc_last w1 _) HK64.out HKE.out (arrN_one _ _) ?_; rw [World.setRow_alloc_new])
    clear hz64
    have hba : Below w1.heap.size w1 (w1.alloc (.cells (arrN .u32 shaK) 59)) := (Below.refl _ _).alloc (Nat.le_refl _) _
    have N3 := Lib.hid (NumAt.new 59 .u32 w1 shaK)
    have HG3 : Hid (w.heap.size < w1.heap.size) := heap_at_lt T0.out.2
    replace T0 := Lib.hid (T0.out.below hba)
    replace B := Lib.hid (B.out.trans (hba.mono B.out.size))
    clear hba
    generalize w1.heap.size = g3 at *
    generalize w1.alloc (.cells (arrN .u32 shaK) 59) = w2 at *
    replace T0 : Hid (TagAt w2.drew w.heap.size zeros32) := T0.out
    replace N3 := Lib.hid N3.out.drew
    replace B := Lib.hid B.out.drew
    generalize hwd : w2.drew = wd at *
    have HWD := Lib.hid hwd
    clear hwd P
    have HC1 := Lib.hid (chain_one (bss := bss) (by rw [HA.out.1]; omega))
    obtain ⟨r0, hr0⟩ : ∃ r, bss.getD 0 [] = r := ⟨_, rfl⟩
    rw [hr0] at R1 HC1
    clear hr0
    have S1 := Lib.hid (tag_size (shaL_len r0))
    have E1 : Hid ((arrB zeros32).size = (arrB (shaL r0)).size) := by
      show _ = _
      rw [arrB_size, arrB_size, shaL_len]; rfl
    refine wp_region_held_drew (S := (fun w' => w'.cell? ⟨b, o, none⟩ = some (.slice A1 n1 c1) ∧ NumAt 59 .u32 w' g3 shaK)) (by kernel_rfl) ((by rw [HWD.out]; exact ⟨(B.out.cell HBO.out).trans HCELL.out, N3.out⟩)) (fun hHeld => ?_)
    rw [HWD.out] at hHeld ⊢
    refine wpAnyH_take (i := 0) (v := ?_) rfl (by kernel_rfl) (by kernel_rfl) (by kernel_rfl) (fun _ _ _ h => h) (Or.inl ⟨by rfl, ?_⟩) (by assumption) ?_
    rotate_left 1
    · intro w hSw; (try dsimp only at hSw); go_simp; (try with_reducible rfl)
    simp only [Act.put, List.getElem_toArray, List.getElem_cons_zero, List.getElem_cons_succ, List.setIfInBounds_toArray, List.set_cons_zero, List.set_cons_succ]
    refine wpAnyH_take (i := 1) (v := ?_) rfl (by kernel_rfl) (by kernel_rfl) (by kernel_rfl) (fun _ _ _ h => h) (Or.inl ⟨by rfl, ?_⟩) (by assumption) ?_
    rotate_left 1
    · intro w hSw; (try dsimp only at hSw); go_simp; (try with_reducible rfl)
    simp only [Act.put, List.getElem_toArray, List.getElem_cons_zero, List.getElem_cons_succ, List.setIfInBounds_toArray, List.set_cons_zero, List.set_cons_succ]
    refine wpAnyH_take (i := 2) (v := ?_) rfl (by kernel_rfl) (by kernel_rfl) (by kernel_rfl) (fun _ _ _ h => h) (Or.inl ⟨by rfl, ?_⟩) (by assumption) ?_
    rotate_left 1
    · intro w hSw; (try dsimp only at hSw); go_simp; (try with_reducible rfl)
    simp only [Act.put, List.getElem_toArray, List.getElem_cons_zero, List.getElem_cons_succ, List.setIfInBounds_toArray, List.set_cons_zero, List.set_cons_succ]
    refine wpAnyH_take (i := 3) (v := .agg (arrN .u32 shaK)) rfl (by kernel_rfl) (by kernel_rfl) (by kernel_rfl) (fun _ _ _ h => h) (yieldsIf_load_row (by rfl) 59 _ rfl g3 rfl 59 (arrN .u32 shaK) (0, 0) _ (fun _ h => h.2) Tryd.underlying59 rfl HK64.out) (by assumption) ?_
    simp only [Act.put, List.getElem_toArray, List.getElem_cons_zero, List.getElem_cons_succ, List.setIfInBounds_toArray, List.set_cons_zero, List.set_cons_succ]
    refine wpAnyH_ready (rs := [4, 5]) (by kernel_rfl) (by simp) ?_
    refine AllReadyH.cons rfl (fun K hK => ?_) (AllReadyH.cons rfl (fun K hK => ?_) AllReadyH.nil)
    · skip
      go_simp
      refine (wDigest A1 n1 c1 r0 _ (HP.out.to B.out) (R1.out.to B.out) (by omega) hcap1 hcap1').mono ?_
      rintro e w5 ⟨rfl, hb⟩
      replace B := Lib.hid (B.out.trans (hb.mono B.out.size))
      replace T0 := Lib.hid (T0.out.below hb)
      replace N3 := Lib.hid (N3.out.to hb)
      clear hb
      go_wp2_with fail
      refine hK.out _ _ (⟨(B.out.cell HBO.out).trans HCELL.out, N3.out⟩) (fun hHeld => ?_)
      clear hK K
      have hba : Below w5.heap.size w5 (w5.alloc (.cells (arrB zeros32) 36)) := (Below.refl _ _).alloc (Nat.le_refl _) _
      have T4 : Hid (TagAt (w5.alloc (.cells (arrB zeros32) 36)) w5.heap.size zeros32) := ⟨rfl, heap_alloc_last w5 _⟩
      have HNE : Hid (g3 ≠ w5.heap.size) := Nat.ne_of_lt N3.out.lt
      have HLE : Hid (w.heap.size ≤ w5.heap.size) := B.out.size
      have HW4 : Hid (w.heap.size ≠ w5.heap.size) := Nat.ne_of_lt (heap_at_lt T0.out.2)
      replace T0 := Lib.hid (T0.out.below hba)
      replace N3 := Lib.hid (N3.out.to hba)
      replace B := Lib.hid (B.out.trans (hba.mono B.out.size))
      refine wpAnyH_ready (rs := [5]) (by kernel_rfl) (by simp) ?_
      refine AllReadyH.cons rfl (fun K hK => ?_) AllReadyH.nil
      go_simp
      refine hK.out _ _ (⟨(B.out.cell HBO.out).trans HCELL.out, N3.out⟩) (fun hHeld => ?_)
      clear hK K
      clear hba hHeld
      generalize w5.heap.size = g4 at *
      generalize w5.alloc (.cells (arrB zeros32) 36) = w6 at *
      have HN43 : Hid (g3 ≠ g4) := HNE.out
      have HBW : Hid (w.heap.size ≤ g4) := HLE.out
      have BB := Lib.hid (below_setRow B.out HBW.out (arrB (shaL r0)))
      refine wpAnyH_ready (rs := [6]) (by kernel_rfl) (by simp) ?_
      refine AllReadyH.cons rfl (fun K hK => ?_) AllReadyH.nil
      rw [if_pos (by rfl)]
      refine wp_store_row0 36 _ _ rfl rfl g4 (arrB (shaL r0)) rfl rfl 36 _ T4.out.2 S1.out E1.out (arrB_one _) ?_
      refine hK.out _ _ (⟨(BB.out.cell HBO.out).trans HCELL.out, N3.out.setRowOther _ HN43.out⟩) (fun hHeld => ?_)
      clear hK K
      refine wpAnyH_done (by kernel_rfl) ?_ _
      replace T4 := Lib.hid (T4.out.setRow (shaL_len r0))
      replace T0 := Lib.hid (T0.out.setRowOther (arrB (shaL r0)) HW4.out)
      replace N3 := Lib.hid (N3.out.setRowOther (arrB (shaL r0)) HN43.out)
      clear B hHeld
      generalize w6.setRow g4 (arrB (shaL r0)) = w7 at *
      have B := BB
      clear BB
      have HG34 := HN43
      clear S1 E1 R1 HCELL hcap1 hcap1' hlen1
      have hsa := tag_sliceAll g4
      go_wp2_with fail
      go_loopw [20] (fun i wr => ChRel w bss n g3 g4 i wr) (fun i _ => n9 - (intOf i).toNat)
      case atStart => exact ⟨0, by omega, rfl, by rw [HC1.out]; exact T4.out, N3.out, T0.out, B.out⟩
      case round =>
        clear T4 N3 T0 B
        obtain ⟨k, hk, rfl, h4, h3, ht0, hb⟩ := hrel
        have T4 := Lib.hid h4
        have N3 := Lib.hid h3
        have T0 := Lib.hid ht0
        have B := Lib.hid hb
        have HK := Lib.hid hk
        clear h4 h3 ht0 hb hk
        by_cases hlt : k < n9
        · have hn1 : k + 1 < n := by have := HN9.out; omega
          have hkb : (k : Int) < 100000 := by have := HN9.out; omega
          obtain rfl := HA9.out (by omega)
          obtain ⟨A2, n2, c2, hc2, hr2, hcp, hcp', hl2⟩ := HROW.out (k + 1) hn1
          have hcell : wr.cell? ⟨b, o + 1 + k, none⟩ = some (.slice A2 n2 c2) := by
            refine (B.out.cell HBO.out).trans ?_
            rw [show o + 1 + k = o + (k + 1) from by omega]; exact hc2
          have HC2 := Lib.hid (chain_take (bss := bss) (k := k) (by rw [HA.out.1]; exact hn1))
          have hcl := chainL_len (bss.take (k + 1))
          obtain ⟨row, hrow⟩ : ∃ r, bss.getD (k + 1) [] = r := ⟨_, rfl⟩
          obtain ⟨tg, htg⟩ : ∃ r, chainL (bss.take (k + 1)) = r := ⟨_, rfl⟩
          rw [hrow] at hr2 HC2
          rw [htg] at HC2 T4 hcl
          have R2 := Lib.hid hr2
          have HN1 := Lib.hid hn1
          clear hc2 hr2 hrow htg hn1
          have HLEN : Hid (∀ (l : List UInt8) (m : Nat), (tg ++ row).length = m → m ≤ 1000032) := fun _ m hm => by rw [← hm, List.length_append, hcl]; have := R2.out.1; omega
          have S1 := Lib.hid (tag_size (shaL_len (tg ++ row)))
          have E1 : Hid ((arrB tg).size = (arrB (shaL (tg ++ row))).size) := by
            show _ = _
            rw [arrB_size, arrB_size, shaL_len, hcl]
          go_wp2_with fail
          replace T4 : Hid (TagAt wr.drew g4 tg) := T4.out
          replace T0 : Hid (TagAt wr.drew w.heap.size zeros32) := T0.out
          replace N3 := Lib.hid N3.out.drew
          replace B := Lib.hid B.out.drew
          generalize hwx : wr.drew = wx at *
          have HWX := Lib.hid hwx
          clear hwx hcell
          refine wp_region_held_drew (S := (fun w' => NumAt 59 .u32 w' g3 shaK)) (by kernel_rfl) ((by rw [HWX.out]; exact N3.out)) (fun hHeld => ?_)
          rw [HWX.out] at hHeld ⊢
          refine wpAnyH_take (i := 0) (v := ?_) rfl (by kernel_rfl) (by kernel_rfl) (by kernel_rfl) (fun _ _ _ h => h) (Or.inl ⟨by rfl, ?_⟩) (by assumption) ?_
          rotate_left 1
          · intro w hSw; (try dsimp only at hSw); go_simp; (try with_reducible rfl)
          simp only [Act.put, List.getElem_toArray, List.getElem_cons_zero, List.getElem_cons_succ, List.setIfInBounds_toArray, List.set_cons_zero, List.set_cons_succ]
          refine wpAnyH_take (i := 1) (v := ?_) rfl (by kernel_rfl) (by kernel_rfl) (by kernel_rfl) (fun _ _ _ h => h) (Or.inl ⟨by rfl, ?_⟩) (by assumption) ?_
          rotate_left 1
          · intro w hSw; (try dsimp only at hSw); go_simp; (try with_reducible rfl)
          simp only [Act.put, List.getElem_toArray, List.getElem_cons_zero, List.getElem_cons_succ, List.setIfInBounds_toArray, List.set_cons_zero, List.set_cons_succ]
          refine wpAnyH_take (i := 4) (v := .agg (arrN .u32 shaK)) rfl (by kernel_rfl) (by kernel_rfl) (by kernel_rfl) (fun _ _ _ h => h) (yieldsIf_load_row (by rfl) 59 _ rfl g3 rfl 59 (arrN .u32 shaK) (0, 0) _ (fun _ h => h) Tryd.underlying59 rfl HK64.out) (by assumption) ?_
          simp only [Act.put, List.getElem_toArray, List.getElem_cons_zero, List.getElem_cons_succ, List.setIfInBounds_toArray, List.set_cons_zero, List.set_cons_succ]
          refine wpAnyH_ready (rs := [2]) (by kernel_rfl) (by simp) ?_
          refine AllReadyH.cons rfl (fun K hK => ?_) AllReadyH.nil
          go_simp
          refine hK.out _ _ ((N3.out.alloc _)) (fun hHeld => ?_)
          clear hK K
          refine wpAnyH_ready (rs := [3]) (by kernel_rfl) (by simp) ?_
          refine AllReadyH.cons rfl (fun K hK => ?_) AllReadyH.nil
          go_simp
          refine (wCat2 (some ⟨g4, 0, none⟩) A2 32 n2 32 c2 tg row wx T4.out.rd (R2.out.to B.out) (by omega)).mono ?_
          rintro e w8 ⟨A8, n8, c8, rfl, hown8, hb⟩
          have M := Lib.hid (Rd.of_own hown8)
          obtain ⟨hcap8, hcap8'⟩ := own_cap hown8
          have hn8 : n8 ≤ 1000032 := HLEN.out [] _ M.out.1
          replace B := Lib.hid (B.out.trans (hb.mono B.out.size))
          replace T4 := Lib.hid (T4.out.below hb)
          replace T0 := Lib.hid (T0.out.below hb)
          replace N3 := Lib.hid (N3.out.to hb)
          clear hb hown8
          go_wp2_with fail
          refine hK.out _ _ (N3.out) (fun hHeld => ?_)
          clear hK K
          refine wpAnyH_ready (rs := [5]) (by kernel_rfl) (by simp) ?_
          refine AllReadyH.cons rfl (fun K hK => ?_) AllReadyH.nil
          go_simp
          refine (wDigest A8 n8 c8 (tg ++ row) _ (HP.out.to B.out) M.out (by omega) hcap8 hcap8').mono ?_
          rintro e w9 ⟨rfl, hb⟩
          replace B := Lib.hid (B.out.trans (hb.mono B.out.size))
          replace T4 := Lib.hid (T4.out.below hb)
          replace T0 := Lib.hid (T0.out.below hb)
          replace N3 := Lib.hid (N3.out.to hb)
          clear hb M
          go_wp2_with fail
          refine hK.out _ _ (N3.out) (fun hHeld => ?_)
          clear hK K
          refine wpAnyH_ready (rs := [6]) (by kernel_rfl) (by simp) ?_
          refine AllReadyH.cons rfl (fun K hK => ?_) AllReadyH.nil
          rw [if_pos (by rfl)]
          refine wp_store_row0 36 _ _ rfl rfl g4 (arrB (shaL (tg ++ row))) rfl rfl 36 _ T4.out.2 S1.out E1.out (arrB_one _) ?_
          refine hK.out _ _ ((N3.out.setRowOther _ HG34.out)) (fun hHeld => ?_)
          clear hK K
          refine wpAnyH_done (by kernel_rfl) ?_ _
          have HF : Hid (ChRel w bss n g3 g4 (.int .i64 ((k : Int) + 1)) (w9.setRow g4 (arrB (shaL (tg ++ row))))) :=
            ⟨k + 1, HN1.out, by go_num, by rw [HC2.out]; exact T4.out.setRow (shaL_len _), N3.out.setRowOther _ HG34.out, T0.out.setRowOther _ HW4.out, below_setRow B.out HBW.out _⟩
          clear hHeld T4 T0 N3 B
          generalize w9.setRow g4 (arrB (shaL (tg ++ row))) = w10 at *
          go_wp2_with fail
          go_roundw
          case rel => exact HF.out
          case measure => simp [intOf]; omega
        · have hkn : k + 1 = n := by have := HN9.out; have := HK.out; omega
          have e : bss.take (k + 1) = bss := List.take_of_length_le (by rw [HA.out.1]; omega)
          have hcl := chainL_len bss
          rw [e] at T4
          obtain ⟨tg, htg⟩ : ∃ r, chainL bss = r := ⟨_, rfl⟩
          rw [htg] at T4 hcl
          have HTG := Lib.hid htg
          clear htg
          have S1 := Lib.hid (tag_size hcl)
          have E1 : Hid ((arrB zeros32).size = (arrB tg).size) := by
            show _ = _
            rw [arrB_size, arrB_size, hcl]; rfl
          go_wp2_with (first | (refine wpList_load_row rfl 36 _ rfl g4 rfl 36 (arrB tg) (0, 0) _ T4.out.2 Tryd.underlying36 rfl S1.out ?_) | (refine wpList_store_row rfl 36 _ _ rfl w.heap.size (arrB tg) rfl rfl 36 (arrB zeros32) T0.out.2 S1.out E1.out (arrB_one _) ?_))
          (try simp only [Exit.inBlock, Exit.then])
          refine bodyPost_ret (v := .agg (arrB tg)) ?_ rfl ⟨by rw [HTG.out], below_setRow B.out (Nat.le_refl _) _⟩
          exact results_cell_row rfl _ _ w.heap.size 36 (arrB tg) (0, 0) _ rfl (setRow_heap _ _ _ _ _ _ T0.out.2) Tryd.underlying36 rfl S1.out
    · skip
      have hba : Below wd.heap.size wd (wd.alloc (.cells (arrB zeros32) 36)) := (Below.refl _ _).alloc (Nat.le_refl _) _
      have T4 : Hid (TagAt (wd.alloc (.cells (arrB zeros32) 36)) wd.heap.size zeros32) := ⟨rfl, heap_alloc_last wd _⟩
      have HNE : Hid (g3 ≠ wd.heap.size) := Nat.ne_of_lt N3.out.lt
      have HLE : Hid (w.heap.size ≤ wd.heap.size) := B.out.size
      have HW4 : Hid (w.heap.size ≠ wd.heap.size) := Nat.ne_of_lt (heap_at_lt T0.out.2)
      replace T0 := Lib.hid (T0.out.below hba)
      replace N3 := Lib.hid (N3.out.to hba)
      replace B := Lib.hid (B.out.trans (hba.mono B.out.size))
      go_simp
      refine hK.out _ _ (⟨(B.out.cell HBO.out).trans HCELL.out, N3.out⟩) (fun hHeld => ?_)
      clear hK K
      clear hba hHeld
      generalize wd.heap.size = g4 at *
      generalize wd.alloc (.cells (arrB zeros32) 36) = w5 at *
      refine wpAnyH_ready (rs := [4]) (by kernel_rfl) (by simp) ?_
      refine AllReadyH.cons rfl (fun K hK => ?_) AllReadyH.nil
      go_simp
      refine (wDigest A1 n1 c1 r0 _ (HP.out.to B.out) (R1.out.to B.out) (by omega) hcap1 hcap1').mono ?_
      rintro e w6 ⟨rfl, hb⟩
      replace B := Lib.hid (B.out.trans (hb.mono B.out.size))
      replace T0 := Lib.hid (T0.out.below hb)
      replace T4 := Lib.hid (T4.out.below hb)
      replace N3 := Lib.hid (N3.out.to hb)
      clear hb
      go_wp2_with fail
      refine hK.out _ _ (⟨(B.out.cell HBO.out).trans HCELL.out, N3.out⟩) (fun hHeld => ?_)
      clear hK K
      have HN43 : Hid (g3 ≠ g4) := HNE.out
      have HBW : Hid (w.heap.size ≤ g4) := HLE.out
      have BB := Lib.hid (below_setRow B.out HBW.out (arrB (shaL r0)))
      refine wpAnyH_ready (rs := [6]) (by kernel_rfl) (by simp) ?_
      refine AllReadyH.cons rfl (fun K hK => ?_) AllReadyH.nil
      rw [if_pos (by rfl)]
      refine wp_store_row0 36 _ _ rfl rfl g4 (arrB (shaL r0)) rfl rfl 36 _ T4.out.2 S1.out E1.out (arrB_one _) ?_
      refine hK.out _ _ (⟨(BB.out.cell HBO.out).trans HCELL.out, N3.out.setRowOther _ HN43.out⟩) (fun hHeld => ?_)
      clear hK K
      refine wpAnyH_done (by kernel_rfl) ?_ _
      replace T4 := Lib.hid (T4.out.setRow (shaL_len r0))
      replace T0 := Lib.hid (T0.out.setRowOther (arrB (shaL r0)) HW4.out)
      replace N3 := Lib.hid (N3.out.setRowOther (arrB (shaL r0)) HN43.out)
      clear B hHeld
      generalize w6.setRow g4 (arrB (shaL r0)) = w7 at *
      have B := BB
      clear BB
      have HG34 := HN43
      clear S1 E1 R1 HCELL hcap1 hcap1' hlen1
      have hsa := tag_sliceAll g4
      go_wp2_with fail
      go_loopw [20] (fun i wr => ChRel w bss n g3 g4 i wr) (fun i _ => n9 - (intOf i).toNat)
      case atStart => exact ⟨0, by omega, rfl, by rw [HC1.out]; exact T4.out, N3.out, T0.out, B.out⟩
      case round =>
        clear T4 N3 T0 B
        obtain ⟨k, hk, rfl, h4, h3, ht0, hb⟩ := hrel
        have T4 := Lib.hid h4
        have N3 := Lib.hid h3
        have T0 := Lib.hid ht0
        have B := Lib.hid hb
        have HK := Lib.hid hk
        clear h4 h3 ht0 hb hk
        by_cases hlt : k < n9
        · have hn1 : k + 1 < n := by have := HN9.out; omega
          have hkb : (k : Int) < 100000 := by have := HN9.out; omega
          obtain rfl := HA9.out (by omega)
          obtain ⟨A2, n2, c2, hc2, hr2, hcp, hcp', hl2⟩ := HROW.out (k + 1) hn1
          have hcell : wr.cell? ⟨b, o + 1 + k, none⟩ = some (.slice A2 n2 c2) := by
            refine (B.out.cell HBO.out).trans ?_
            rw [show o + 1 + k = o + (k + 1) from by omega]; exact hc2
          have HC2 := Lib.hid (chain_take (bss := bss) (k := k) (by rw [HA.out.1]; exact hn1))
          have hcl := chainL_len (bss.take (k + 1))
          obtain ⟨row, hrow⟩ : ∃ r, bss.getD (k + 1) [] = r := ⟨_, rfl⟩
          obtain ⟨tg, htg⟩ : ∃ r, chainL (bss.take (k + 1)) = r := ⟨_, rfl⟩
          rw [hrow] at hr2 HC2
          rw [htg] at HC2 T4 hcl
          have R2 := Lib.hid hr2
          have HN1 := Lib.hid hn1
          clear hc2 hr2 hrow htg hn1
          have HLEN : Hid (∀ (l : List UInt8) (m : Nat), (tg ++ row).length = m → m ≤ 1000032) := fun _ m hm => by rw [← hm, List.length_append, hcl]; have := R2.out.1; omega
          have S1 := Lib.hid (tag_size (shaL_len (tg ++ row)))
          have E1 : Hid ((arrB tg).size = (arrB (shaL (tg ++ row))).size) := by
            show _ = _
            rw [arrB_size, arrB_size, shaL_len, hcl]
          go_wp2_with fail
          replace T4 : Hid (TagAt wr.drew g4 tg) := T4.out
          replace T0 : Hid (TagAt wr.drew w.heap.size zeros32) := T0.out
          replace N3 := Lib.hid N3.out.drew
          replace B := Lib.hid B.out.drew
          generalize hwx : wr.drew = wx at *
          have HWX := Lib.hid hwx
          clear hwx hcell
          refine wp_region_held_drew (S := (fun w' => NumAt 59 .u32 w' g3 shaK)) (by kernel_rfl) ((by rw [HWX.out]; exact N3.out)) (fun hHeld => ?_)
          rw [HWX.out] at hHeld ⊢
          refine wpAnyH_take (i := 0) (v := ?_) rfl (by kernel_rfl) (by kernel_rfl) (by kernel_rfl) (fun _ _ _ h => h) (Or.inl ⟨by rfl, ?_⟩) (by assumption) ?_
          rotate_left 1
          · intro w hSw; (try dsimp only at hSw); go_simp; (try with_reducible rfl)
          simp only [Act.put, List.getElem_toArray, List.getElem_cons_zero, List.getElem_cons_succ, List.setIfInBounds_toArray, List.set_cons_zero, List.set_cons_succ]
          refine wpAnyH_take (i := 1) (v := ?_) rfl (by kernel_rfl) (by kernel_rfl) (by kernel_rfl) (fun _ _ _ h => h) (Or.inl ⟨by rfl, ?_⟩) (by assumption) ?_
          rotate_left 1
          · intro w hSw; (try dsimp only at hSw); go_simp; (try with_reducible rfl)
          simp only [Act.put, List.getElem_toArray, List.getElem_cons_zero, List.getElem_cons_succ, List.setIfInBounds_toArray, List.set_cons_zero, List.set_cons_succ]
          refine wpAnyH_take (i := 4) (v := .agg (arrN .u32 shaK)) rfl (by kernel_rfl) (by kernel_rfl) (by kernel_rfl) (fun _ _ _ h => h) (yieldsIf_load_row (by rfl) 59 _ rfl g3 rfl 59 (arrN .u32 shaK) (0, 0) _ (fun _ h => h) Tryd.underlying59 rfl HK64.out) (by assumption) ?_
          simp only [Act.put, List.getElem_toArray, List.getElem_cons_zero, List.getElem_cons_succ, List.setIfInBounds_toArray, List.set_cons_zero, List.set_cons_succ]
          refine wpAnyH_ready (rs := [2]) (by kernel_rfl) (by simp) ?_
          refine AllReadyH.cons rfl (fun K hK => ?_) AllReadyH.nil
          go_simp
          refine hK.out _ _ ((N3.out.alloc _)) (fun hHeld => ?_)
          clear hK K
          refine wpAnyH_ready (rs := [3]) (by kernel_rfl) (by simp) ?_
          refine AllReadyH.cons rfl (fun K hK => ?_) AllReadyH.nil
          go_simp
          refine (wCat2 (some ⟨g4, 0, none⟩) A2 32 n2 32 c2 tg row wx T4.out.rd (R2.out.to B.out) (by omega)).mono ?_
          rintro e w8 ⟨A8, n8, c8, rfl, hown8, hb⟩
          have M := Lib.hid (Rd.of_own hown8)
          obtain ⟨hcap8, hcap8'⟩ := own_cap hown8
          have hn8 : n8 ≤ 1000032 := HLEN.out [] _ M.out.1
          replace B := Lib.hid (B.out.trans (hb.mono B.out.size))
          replace T4 := Lib.hid (T4.out.below hb)
          replace T0 := Lib.hid (T0.out.below hb)
          replace N3 := Lib.hid (N3.out.to hb)
          clear hb hown8
          go_wp2_with fail
          refine hK.out _ _ (N3.out) (fun hHeld => ?_)
          clear hK K
          refine wpAnyH_ready (rs := [5]) (by kernel_rfl) (by simp) ?_
          refine AllReadyH.cons rfl (fun K hK => ?_) AllReadyH.nil
          go_simp
          refine (wDigest A8 n8 c8 (tg ++ row) _ (HP.out.to B.out) M.out (by omega) hcap8 hcap8').mono ?_
          rintro e w9 ⟨rfl, hb⟩
          replace B := Lib.hid (B.out.trans (hb.mono B.out.size))
          replace T4 := Lib.hid (T4.out.below hb)
          replace T0 := Lib.hid (T0.out.below hb)
          replace N3 := Lib.hid (N3.out.to hb)
          clear hb M
          go_wp2_with fail
          refine hK.out _ _ (N3.out) (fun hHeld => ?_)
          clear hK K
          refine wpAnyH_ready (rs := [6]) (by kernel_rfl) (by simp) ?_
          refine AllReadyH.cons rfl (fun K hK => ?_) AllReadyH.nil
          rw [if_pos (by rfl)]
          refine wp_store_row0 36 _ _ rfl rfl g4 (arrB (shaL (tg ++ row))) rfl rfl 36 _ T4.out.2 S1.out E1.out (arrB_one _) ?_
          refine hK.out _ _ ((N3.out.setRowOther _ HG34.out)) (fun hHeld => ?_)
          clear hK K
          refine wpAnyH_done (by kernel_rfl) ?_ _
          have HF : Hid (ChRel w bss n g3 g4 (.int .i64 ((k : Int) + 1)) (w9.setRow g4 (arrB (shaL (tg ++ row))))) :=
            ⟨k + 1, HN1.out, by go_num, by rw [HC2.out]; exact T4.out.setRow (shaL_len _), N3.out.setRowOther _ HG34.out, T0.out.setRowOther _ HW4.out, below_setRow B.out HBW.out _⟩
          clear hHeld T4 T0 N3 B
          generalize w9.setRow g4 (arrB (shaL (tg ++ row))) = w10 at *
          go_wp2_with fail
          go_roundw
          case rel => exact HF.out
          case measure => simp [intOf]; omega
        · have hkn : k + 1 = n := by have := HN9.out; have := HK.out; omega
          have e : bss.take (k + 1) = bss := List.take_of_length_le (by rw [HA.out.1]; omega)
          have hcl := chainL_len bss
          rw [e] at T4
          obtain ⟨tg, htg⟩ : ∃ r, chainL bss = r := ⟨_, rfl⟩
          rw [htg] at T4 hcl
          have HTG := Lib.hid htg
          clear htg
          have S1 := Lib.hid (tag_size hcl)
          have E1 : Hid ((arrB zeros32).size = (arrB tg).size) := by
            show _ = _
            rw [arrB_size, arrB_size, hcl]; rfl
          go_wp2_with (first | (refine wpList_load_row rfl 36 _ rfl g4 rfl 36 (arrB tg) (0, 0) _ T4.out.2 Tryd.underlying36 rfl S1.out ?_) | (refine wpList_store_row rfl 36 _ _ rfl w.heap.size (arrB tg) rfl rfl 36 (arrB zeros32) T0.out.2 S1.out E1.out (arrB_one _) ?_))
          (try simp only [Exit.inBlock, Exit.then])
          refine bodyPost_ret (v := .agg (arrB tg)) ?_ rfl ⟨by rw [HTG.out], below_setRow B.out (Nat.le_refl _) _⟩
          exact results_cell_row rfl _ _ w.heap.size 36 (arrB tg) (0, 0) _ rfl (setRow_heap _ _ _ _ _ _ T0.out.2) Tryd.underlying36 rfl S1.out
end Go.Proofs.YtbgcnhhdgnalgaaDoor
