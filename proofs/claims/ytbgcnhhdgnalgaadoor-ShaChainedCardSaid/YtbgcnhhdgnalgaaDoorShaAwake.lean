/- The chapter's examples, as the laws begin with them (citadellaw03.awake): it returns true. -/
import Derived.Test.YtbgcnhhdgnalgaaDoorShaI
import Derived.Test.YtbgcnhhdgnalgaaDoorArrEq
import Derived.Deep.RegionHeld
import Derived.Lib.SlBytesConst
namespace Go.Proofs.YtbgcnhhdgnalgaaDoor
open Go.RowKit
set_option linter.unusedVariables false
set_option linter.unusedSimpArgs false

theorem ex_sha0 : hexL (shaL []) = [101, 51, 98, 48, 99, 52, 52, 50, 57, 56, 102, 99, 49, 99, 49, 52, 57, 97, 102, 98, 102, 52, 99, 56, 57, 57, 54, 102, 98, 57, 50, 52, 50, 55, 97, 101, 52, 49, 101, 52, 54, 52, 57, 98, 57, 51, 52, 99, 97, 52, 57, 53, 57, 57, 49, 98, 55, 56, 53, 50, 98, 56, 53, 53] := by decide +kernel
theorem ex_shaA : hexL (shaL [97, 98, 99]) = [98, 97, 55, 56, 49, 54, 98, 102, 56, 102, 48, 49, 99, 102, 101, 97, 52, 49, 52, 49, 52, 48, 100, 101, 53, 100, 97, 101, 50, 50, 50, 51, 98, 48, 48, 51, 54, 49, 97, 51, 57, 54, 49, 55, 55, 97, 57, 99, 98, 52, 49, 48, 102, 102, 54, 49, 102, 50, 48, 48, 49, 53, 97, 100] := by decide +kernel


/-- A row of constants, just laid, with a mark. -/
theorem rd_topM {w : World} (bs : List UInt8) (vs : List Value) (T : TypeId) (fr : Nat × Nat) (h : bs.map bval = vs) : Rd (w.alloc (.cells vs.toArray T fr)) (w.alloc (.cells vs.toArray T fr)).heap.size (some ⟨w.heap.size, 0, none⟩) vs.length bs := by
  subst h
  refine ⟨by simp, fun hn => ⟨w.heap.size, 0, rfl, by simp, fun j hj => ?_⟩⟩
  have hl : j < bs.length := by simpa using hj
  rw [World.cell?_alloc_mark, nth_of_lt hl]
  simp [hl, bval]
def abc : List UInt8 := [97, 98, 99]
def abcV : List Value := [.int .u8 97, .int .u8 98, .int .u8 99]
theorem one_row {w : World} {A : Option Addr} {n : Nat} {bs : List UInt8} (h : Rd w w.heap.size A n bs) (hc : n ≤ 9223372036854775807) :
    RdS (w.alloc (.cells #[.slice A n n] 25)) (w.alloc (.cells #[.slice A n n] 25)).heap.size (some ⟨w.heap.size, 0, none⟩) 1 [bs] ∧ CapS (w.alloc (.cells #[.slice A n n] 25)) (some ⟨w.heap.size, 0, none⟩) 1 := by
  have S := RdS.lit (w := w) [.slice A n n] 25 [bs] rfl (fun j hj => by
    rcases j with _ | j
    · exact ⟨_, _, _, rfl, h⟩
    · simp at hj)
  refine ⟨by simpa using S, fun b o e j hj A1 n1 c1 hcc => ?_⟩
  injection e with e
  injection e with e1 e2
  subst e1; subst e2
  obtain rfl : j = 0 := by omega
  rw [World.cell?_alloc_at _ _ _ _ (by rfl)] at hcc
  simp at hcc
  obtain ⟨_, h2, h3⟩ := hcc
  omega
theorem eq_tag {t : List UInt8} (hl : t.length = 32) (w : World) : (Op.equalIn 10000 36 (.agg (arrB t)) (.agg (arrB t))).run Tryd.prog w = .ok true w := by
  have h := run_eql_arrB (P := Tryd.prog) Tryd.underlying36 Tryd.underlying5 (sizeOf_one (by kernel_rfl)) t t hl hl w
  rwa [show decide (t = t) = true from decide_eq_true rfl] at h
theorem hex_0 : strB (hexL (shaL [])) = ⟨#[101, 51, 98, 48, 99, 52, 52, 50, 57, 56, 102, 99, 49, 99, 49, 52, 57, 97, 102, 98, 102, 52, 99, 56, 57, 57, 54, 102, 98, 57, 50, 52, 50, 55, 97, 101, 52, 49, 101, 52, 54, 52, 57, 98, 57, 51, 52, 99, 97, 52, 57, 53, 57, 57, 49, 98, 55, 56, 53, 50, 98, 56, 53, 53]⟩ := by rw [ex_sha0]; rfl
theorem hex_A : strB (hexL (shaL [97, 98, 99])) = ⟨#[98, 97, 55, 56, 49, 54, 98, 102, 56, 102, 48, 49, 99, 102, 101, 97, 52, 49, 52, 49, 52, 48, 100, 101, 53, 100, 97, 101, 50, 50, 50, 51, 98, 48, 48, 51, 54, 49, 97, 51, 57, 54, 49, 55, 55, 97, 57, 99, 98, 52, 49, 48, 102, 102, 54, 49, 102, 50, 48, 48, 49, 53, 97, 100]⟩ := by rw [ex_shaA]; rfl

set_option maxRecDepth 1000000 in
set_option maxHeartbeats 4000000 in
theorem awake (w : World) (hp : Pr w) : Calls Tryd.prog 26 #[] w fun e w' => e = .returned (.bool true) ∧ Below w.heap.size w w' := by
  have hm : ∀ w, (Instr.makeSlice 25 (.int .i64 63) (.int .i64 63)).run Tryd.prog w = .ok (.slice (some ⟨w.heap.size, 0, none⟩) 63 63) (w.alloc (.cells (Array.replicate 63 (.int .u8 0)) 5)) := fun _ => by kernel_rfl
  have hz := st_zero
  have HP := Lib.hid hp
  have B : Hid (Below w.heap.size w w.drew) := (Below.refl _ _).drew
  have HS8 := Lib.hid (st_size (xs := zeros8) rfl)
  have HS9 := Lib.hid (same_size (k := .u32) (xs := zeros8) (ys := zeros8) rfl)
  clear hp
  go_enter Tryd.func26, Tryd.ntmps26
  go_wp2_with fail
  rename_i K0 hK0
  have REST : ∀ (g1 a5 : Nat) (wf : World), Hid (Below w.heap.size w wf) → K0 { tmps := #[Value.bool false, Value.pointer (some ⟨g1, 0, none⟩), Value.int .i64 2, Value.tuple #[Value.agg (arrN .u32 zeros8), Value.int .i64 2], Value.agg (arrN .u32 shaF), Value.slice (some ⟨a5, 0, none⟩) 63 63, Value.tuple #[Value.agg (arrN .u32 zeros8), Value.int .i64 2], Value.agg (arrN .u32 zeros8), Value.int .i64 2, undef, undef, undef, undef, undef, undef, undef, undef, undef, undef, undef, undef, undef, undef, undef, undef, undef, undef, undef, undef, undef, undef, undef, undef, undef, undef, undef, undef, undef, undef, undef, undef, undef, undef, undef, undef, undef, undef, undef], defers := [] } wf := by
    intro g1 a5 wf B
    refine hK0 _ _ ?_
    have kc := fun (w : World) (C : Array Value) (n c : Nat) => Lib.run_convert_bytes_const (P := Tryd.prog) w 25 5 C n c Tryd.underlying25 Tryd.underlying5
    have HPF := Lib.hid (HP.out.to B.out)
    go_wp2_with fail
    refine (wSha none 0 0 [] wf HPF.out (Rd.nil _ _ _) (by decide) (by decide) (by decide)).mono ?_
    rintro e w1 ⟨rfl, hb⟩
    replace B := Lib.hid (B.out.trans (hb.mono B.out.size))
    clear hb
    go_wp2_with fail
    refine (wHex (shaL []) w1 (shaL_len [])).mono ?_
    rintro e w2 ⟨rfl, hb⟩
    replace B := Lib.hid (B.out.trans (hb.mono B.out.size))
    clear hb
    rw [hex_0]
    go_wp2_with fail
    have hba : Below w2.heap.size w2 (w2.alloc (.cells abcV.toArray 5 (3, 4))) := (Below.refl _ _).alloc (Nat.le_refl _) _
    have RA := Lib.hid (rd_topM (w := w2) abc abcV 5 (3, 4) rfl)
    replace B := Lib.hid (B.out.trans (hba.mono B.out.size))
    clear hba
    refine (wSha (some ⟨w2.heap.size, 0, none⟩) 3 3 abc (w2.alloc (.cells abcV.toArray 5 (3, 4))) (HP.out.to B.out) RA.out (by decide) (by decide) (by decide)).mono ?_
    generalize w2.alloc (.cells abcV.toArray 5 (3, 4)) = w3 at *
    rintro e w4 ⟨rfl, hb⟩
    replace B := Lib.hid (B.out.trans (hb.mono B.out.size))
    clear hb
    go_wp2_with fail
    refine (wHex (shaL abc) w4 (shaL_len abc)).mono ?_
    rintro e w5 ⟨rfl, hb⟩
    replace B := Lib.hid (B.out.trans (hb.mono B.out.size))
    clear hb
    rw [show strB (hexL (shaL abc)) = _ from hex_A]
    go_wp2_with fail
    refine (wTail 55 w5 (by decide)).mono ?_
    rintro e w6 ⟨A6, n6, c6, rfl, hown6, hb⟩
    obtain rfl : n6 = 9 := by rw [← (Rd.of_own hown6).1, tailL_len]; rfl
    clear hown6
    replace B := Lib.hid (B.out.trans (hb.mono B.out.size))
    clear hb
    go_wp2_with fail
    refine (wTail 56 w6 (by decide)).mono ?_
    rintro e w7 ⟨A7, n7, c7, rfl, hown7, hb⟩
    obtain rfl : n7 = 72 := by rw [← (Rd.of_own hown7).1, tailL_len]; rfl
    clear hown7
    replace B := Lib.hid (B.out.trans (hb.mono B.out.size))
    clear hb
    go_wp2_with fail
    have hba : Below w7.heap.size w7 (w7.alloc (.cells abcV.toArray 5 (3, 4))) := (Below.refl _ _).alloc (Nat.le_refl _) _
    have RA := Lib.hid (rd_topM (w := w7) abc abcV 5 (3, 4) rfl)
    have h8 : (w7.alloc (.cells abcV.toArray 5 (3, 4))).heap.size = w7.heap.size + 1 := by simp
    have S := one_row (w := w7.alloc (.cells abcV.toArray 5 (3, 4))) RA.out (by decide)
    have B7 := B
    replace B := Lib.hid (B.out.trans (hba.mono B.out.size))
    have hbb : Below (w7.alloc (.cells abcV.toArray 5 (3, 4))).heap.size (w7.alloc (.cells abcV.toArray 5 (3, 4))) ((w7.alloc (.cells abcV.toArray 5 (3, 4))).alloc (.cells #[.slice (some ⟨w7.heap.size, 0, none⟩) 3 3] 25)) := (Below.refl _ _).alloc (Nat.le_refl _) _
    replace B := Lib.hid (B.out.trans (hbb.mono B.out.size))
    rw [h8] at S
    clear hba hbb h8 B7 RA
    refine (wChain (some ⟨w7.heap.size + 1, 0, none⟩) 1 1 [abc] ((w7.alloc (.cells abcV.toArray 5 (3, 4))).alloc (.cells #[.slice (some ⟨w7.heap.size, 0, none⟩) 3 3] 25)) (HP.out.to B.out) S.1 S.2 (by decide) (by decide) (by decide) (by decide)).mono ?_
    clear S
    generalize (w7.alloc (.cells abcV.toArray 5 (3, 4))).alloc (.cells #[.slice (some ⟨w7.heap.size, 0, none⟩) 3 3] 25) = w8 at *
    rintro e w9 ⟨rfl, hb⟩
    rw [show chainL [abc] = shaL abc from rfl]
    replace B := Lib.hid (B.out.trans (hb.mono B.out.size))
    clear hb
    go_wp2_with fail
    have hba : Below w9.heap.size w9 (w9.alloc (.cells abcV.toArray 5 (3, 4))) := (Below.refl _ _).alloc (Nat.le_refl _) _
    have RA := Lib.hid (rd_topM (w := w9) abc abcV 5 (3, 4) rfl)
    replace B := Lib.hid (B.out.trans (hba.mono B.out.size))
    clear hba
    refine (wSha (some ⟨w9.heap.size, 0, none⟩) 3 3 abc (w9.alloc (.cells abcV.toArray 5 (3, 4))) (HP.out.to B.out) RA.out (by decide) (by decide) (by decide)).mono ?_
    generalize w9.alloc (.cells abcV.toArray 5 (3, 4)) = w10 at *
    rintro e w11 ⟨rfl, hb⟩
    replace B := Lib.hid (B.out.trans (hb.mono B.out.size))
    clear hb
    have hgd : Tryd.prog.eqGuardType Tryd.prog.depth 36 = false := by kernel_rfl
    have heq := eq_tag (shaL_len abc)
    go_wp2_with fail
    clear heq
    refine (wChain none 0 0 [] w11 (HP.out.to B.out) (RdS.nil _ _ _) (fun b o e => by cases e) (by decide) (by decide) (by decide) (by decide)).mono ?_
    rintro e w12 ⟨rfl, hb⟩
    rw [show chainL [] = shaL [] from rfl]
    replace B := Lib.hid (B.out.trans (hb.mono B.out.size))
    clear hb
    go_wp2_with fail
    refine (wSha none 0 0 [] w12 (HP.out.to B.out) (Rd.nil _ _ _) (by decide) (by decide) (by decide)).mono ?_
    rintro e w13 ⟨rfl, hb⟩
    replace B := Lib.hid (B.out.trans (hb.mono B.out.size))
    clear hb
    have heq := eq_tag (shaL_len [])
    go_wp2_with fail
    go_ret
    exact ⟨rfl, B.out⟩
  refine wp_region_held_drew (S := (fun _ => True)) (by kernel_rfl) (trivial) (fun hHeld => ?_)
  clear hHeld
  generalize w.drew = w0 at *
  refine wpAnyH_ready (rs := [0, 1, 6]) (by kernel_rfl) (by simp) ?_
  refine AllReadyH.cons rfl (fun K hK => ?_) (AllReadyH.cons rfl (fun K hK => ?_) (AllReadyH.cons rfl (fun K hK => ?_) AllReadyH.nil))
  · skip
    go_simp
    refine (wFirst _ (HP.out.to B.out)).mono ?_
    rintro e w1 ⟨rfl, hb⟩
    replace B := Lib.hid (B.out.trans (hb.mono B.out.size))
    clear hb
    go_wp2_with fail
    refine hK.out _ _ (trivial) (fun hHeld => ?_)
    clear hK K
    clear hHeld
    refine wpAnyH_ready (rs := [1, 6]) (by kernel_rfl) (by simp) ?_
    refine AllReadyH.cons rfl (fun K hK => ?_) (AllReadyH.cons rfl (fun K hK => ?_) AllReadyH.nil)
    · skip
      go_simp
      refine hK.out _ _ (trivial) (fun hHeld => ?_)
      clear hK K
      have hb : Below w1.heap.size w1 (w1.alloc (.cells (Array.replicate 63 (.int .u8 0)) 5)) := (Below.refl _ _).alloc (Nat.le_refl _) _
      replace B := Lib.hid (B.out.trans (hb.mono B.out.size))
      clear hb hHeld
      generalize w1.alloc (.cells (Array.replicate 63 (.int .u8 0)) 5) = w2 at *
      refine wpAnyH_ready (rs := [2, 6]) (by kernel_rfl) (by simp) ?_
      refine AllReadyH.cons rfl (fun K hK => ?_) (AllReadyH.cons rfl (fun K hK => ?_) AllReadyH.nil)
      · skip
        go_simp
        refine (wEatNo _ 63 63 shaF _ (by decide) (by decide)).mono ?_
        rintro e w3 ⟨rfl, hb⟩
        replace B := Lib.hid (B.out.trans (hb.mono B.out.size))
        clear hb
        go_wp2_with fail
        refine hK.out _ _ (trivial) (fun hHeld => ?_)
        clear hK K
        clear hHeld
        refine wpAnyH_take (i := 3) (v := ?_) rfl (by kernel_rfl) (by kernel_rfl) (by kernel_rfl) (fun _ _ _ h => h) (Or.inl ⟨by rfl, ?_⟩) (by assumption) ?_
        rotate_left 1
        · intro w hSw; (try dsimp only at hSw); go_simp; (try with_reducible rfl)
        simp only [Act.put, List.getElem_toArray, List.getElem_cons_zero, List.getElem_cons_succ, List.setIfInBounds_toArray, List.set_cons_zero, List.set_cons_succ]
        refine wpAnyH_take (i := 4) (v := ?_) rfl (by kernel_rfl) (by kernel_rfl) (by kernel_rfl) (fun _ _ _ h => h) (Or.inl ⟨by rfl, ?_⟩) (by assumption) ?_
        rotate_left 1
        · intro w hSw; (try dsimp only at hSw); go_simp; (try with_reducible rfl)
        simp only [Act.put, List.getElem_toArray, List.getElem_cons_zero, List.getElem_cons_succ, List.setIfInBounds_toArray, List.set_cons_zero, List.set_cons_succ]
        refine wpAnyH_take (i := 5) (v := ?_) rfl (by kernel_rfl) (by kernel_rfl) (by kernel_rfl) (fun _ _ _ h => h) (Or.inl ⟨by rfl, ?_⟩) (by assumption) ?_
        rotate_left 1
        · intro w hSw; (try dsimp only at hSw); go_simp; (try with_reducible rfl)
        simp only [Act.put, List.getElem_toArray, List.getElem_cons_zero, List.getElem_cons_succ, List.setIfInBounds_toArray, List.set_cons_zero, List.set_cons_succ]
        refine wpAnyH_ready (rs := [6]) (by kernel_rfl) (by simp) ?_
        refine AllReadyH.cons rfl (fun K hK => ?_) AllReadyH.nil
        go_simp
        refine hK.out _ _ (trivial) (fun hHeld => ?_)
        clear hK K
        have hb : Below w3.heap.size w3 (w3.alloc (.cells (arrN .u32 zeros8) 24)) := (Below.refl _ _).alloc (Nat.le_refl _) _
        have N1 := Lib.hid (NumAt.new 24 .u32 w3 zeros8)
        have HG : Hid (w.heap.size ≤ w3.heap.size) := B.out.size
        replace B := Lib.hid (B.out.trans (hb.mono B.out.size))
        clear hb hHeld
        obtain ⟨g1, hg1⟩ : ∃ g, w3.heap.size = g := ⟨_, rfl⟩
        rw [hg1] at N1 HG ⊢
        clear hg1
        generalize w3.alloc (.cells (arrN .u32 zeros8) 24) = w4 at *
        refine wpAnyH_ready (rs := [7]) (by kernel_rfl) (by simp) ?_
        refine AllReadyH.cons rfl (fun K hK => ?_) AllReadyH.nil
        rw [if_pos (by rfl)]
        refine wp_store_row0 24 _ _ rfl rfl g1 (arrN .u32 zeros8) rfl rfl 24 _ N1.out HS8.out rfl (arrN_one _ _) ?_
        refine hK.out _ _ (trivial) (fun hHeld => ?_)
        clear hK K
        refine wpAnyH_take (i := 8) (v := ?_) rfl (by kernel_rfl) (by kernel_rfl) (by kernel_rfl) (fun _ _ _ h => h) (Or.inl ⟨by rfl, ?_⟩) (by assumption) ?_
        rotate_left 1
        · intro w hSw; (try dsimp only at hSw); go_simp; (try with_reducible rfl)
        simp only [Act.put, List.getElem_toArray, List.getElem_cons_zero, List.getElem_cons_succ, List.setIfInBounds_toArray, List.set_cons_zero, List.set_cons_succ]
        refine wpAnyH_done (by kernel_rfl) ?_ _
        replace B := Lib.hid (below_setRow B.out HG.out (arrN .u32 zeros8))
        generalize w4.setRow g1 (arrN .u32 zeros8) = wf at *
        clear hHeld N1 HG
        exact REST _ _ _ B
      · skip
        go_simp
        refine hK.out _ _ (trivial) (fun hHeld => ?_)
        clear hK K
        have hb : Below w2.heap.size w2 (w2.alloc (.cells (arrN .u32 zeros8) 24)) := (Below.refl _ _).alloc (Nat.le_refl _) _
        have N1 := Lib.hid (NumAt.new 24 .u32 w2 zeros8)
        have HG : Hid (w.heap.size ≤ w2.heap.size) := B.out.size
        replace B := Lib.hid (B.out.trans (hb.mono B.out.size))
        clear hb hHeld
        obtain ⟨g1, hg1⟩ : ∃ g, w2.heap.size = g := ⟨_, rfl⟩
        rw [hg1] at N1 HG ⊢
        clear hg1
        generalize w2.alloc (.cells (arrN .u32 zeros8) 24) = w3 at *
        refine wpAnyH_ready (rs := [2]) (by kernel_rfl) (by simp) ?_
        refine AllReadyH.cons rfl (fun K hK => ?_) AllReadyH.nil
        go_simp
        refine (wEatNo _ 63 63 shaF _ (by decide) (by decide)).mono ?_
        rintro e w4 ⟨rfl, hb⟩
        replace B := Lib.hid (B.out.trans (hb.mono B.out.size))
        replace N1 := Lib.hid (N1.out.to hb)
        clear hb
        go_wp2_with fail
        refine hK.out _ _ (trivial) (fun hHeld => ?_)
        clear hK K
        clear hHeld
        refine wpAnyH_take (i := 3) (v := ?_) rfl (by kernel_rfl) (by kernel_rfl) (by kernel_rfl) (fun _ _ _ h => h) (Or.inl ⟨by rfl, ?_⟩) (by assumption) ?_
        rotate_left 1
        · intro w hSw; (try dsimp only at hSw); go_simp; (try with_reducible rfl)
        simp only [Act.put, List.getElem_toArray, List.getElem_cons_zero, List.getElem_cons_succ, List.setIfInBounds_toArray, List.set_cons_zero, List.set_cons_succ]
        refine wpAnyH_take (i := 4) (v := ?_) rfl (by kernel_rfl) (by kernel_rfl) (by kernel_rfl) (fun _ _ _ h => h) (Or.inl ⟨by rfl, ?_⟩) (by assumption) ?_
        rotate_left 1
        · intro w hSw; (try dsimp only at hSw); go_simp; (try with_reducible rfl)
        simp only [Act.put, List.getElem_toArray, List.getElem_cons_zero, List.getElem_cons_succ, List.setIfInBounds_toArray, List.set_cons_zero, List.set_cons_succ]
        refine wpAnyH_take (i := 5) (v := ?_) rfl (by kernel_rfl) (by kernel_rfl) (by kernel_rfl) (fun _ _ _ h => h) (Or.inl ⟨by rfl, ?_⟩) (by assumption) ?_
        rotate_left 1
        · intro w hSw; (try dsimp only at hSw); go_simp; (try with_reducible rfl)
        simp only [Act.put, List.getElem_toArray, List.getElem_cons_zero, List.getElem_cons_succ, List.setIfInBounds_toArray, List.set_cons_zero, List.set_cons_succ]
        refine wpAnyH_ready (rs := [7]) (by kernel_rfl) (by simp) ?_
        refine AllReadyH.cons rfl (fun K hK => ?_) AllReadyH.nil
        rw [if_pos (by rfl)]
        refine wp_store_row0 24 _ _ rfl rfl g1 (arrN .u32 zeros8) rfl rfl 24 _ N1.out HS8.out rfl (arrN_one _ _) ?_
        refine hK.out _ _ (trivial) (fun hHeld => ?_)
        clear hK K
        refine wpAnyH_take (i := 8) (v := ?_) rfl (by kernel_rfl) (by kernel_rfl) (by kernel_rfl) (fun _ _ _ h => h) (Or.inl ⟨by rfl, ?_⟩) (by assumption) ?_
        rotate_left 1
        · intro w hSw; (try dsimp only at hSw); go_simp; (try with_reducible rfl)
        simp only [Act.put, List.getElem_toArray, List.getElem_cons_zero, List.getElem_cons_succ, List.setIfInBounds_toArray, List.set_cons_zero, List.set_cons_succ]
        refine wpAnyH_done (by kernel_rfl) ?_ _
        replace B := Lib.hid (below_setRow B.out HG.out (arrN .u32 zeros8))
        generalize w4.setRow g1 (arrN .u32 zeros8) = wf at *
        clear hHeld N1 HG
        exact REST _ _ _ B
    · skip
      go_simp
      refine hK.out _ _ (trivial) (fun hHeld => ?_)
      clear hK K
      have hb : Below w1.heap.size w1 (w1.alloc (.cells (arrN .u32 zeros8) 24)) := (Below.refl _ _).alloc (Nat.le_refl _) _
      have N1 := Lib.hid (NumAt.new 24 .u32 w1 zeros8)
      have HG : Hid (w.heap.size ≤ w1.heap.size) := B.out.size
      replace B := Lib.hid (B.out.trans (hb.mono B.out.size))
      clear hb hHeld
      obtain ⟨g1, hg1⟩ : ∃ g, w1.heap.size = g := ⟨_, rfl⟩
      rw [hg1] at N1 HG ⊢
      clear hg1
      generalize w1.alloc (.cells (arrN .u32 zeros8) 24) = w2 at *
      refine wpAnyH_ready (rs := [1]) (by kernel_rfl) (by simp) ?_
      refine AllReadyH.cons rfl (fun K hK => ?_) AllReadyH.nil
      go_simp
      refine hK.out _ _ (trivial) (fun hHeld => ?_)
      clear hK K
      have hb : Below w2.heap.size w2 (w2.alloc (.cells (Array.replicate 63 (.int .u8 0)) 5)) := (Below.refl _ _).alloc (Nat.le_refl _) _
      replace B := Lib.hid (B.out.trans (hb.mono B.out.size))
      replace N1 := Lib.hid (N1.out.to hb)
      clear hb hHeld
      generalize w2.alloc (.cells (Array.replicate 63 (.int .u8 0)) 5) = w3 at *
      refine wpAnyH_ready (rs := [2]) (by kernel_rfl) (by simp) ?_
      refine AllReadyH.cons rfl (fun K hK => ?_) AllReadyH.nil
      go_simp
      refine (wEatNo _ 63 63 shaF _ (by decide) (by decide)).mono ?_
      rintro e w4 ⟨rfl, hb⟩
      replace B := Lib.hid (B.out.trans (hb.mono B.out.size))
      replace N1 := Lib.hid (N1.out.to hb)
      clear hb
      go_wp2_with fail
      refine hK.out _ _ (trivial) (fun hHeld => ?_)
      clear hK K
      clear hHeld
      refine wpAnyH_take (i := 3) (v := ?_) rfl (by kernel_rfl) (by kernel_rfl) (by kernel_rfl) (fun _ _ _ h => h) (Or.inl ⟨by rfl, ?_⟩) (by assumption) ?_
      rotate_left 1
      · intro w hSw; (try dsimp only at hSw); go_simp; (try with_reducible rfl)
      simp only [Act.put, List.getElem_toArray, List.getElem_cons_zero, List.getElem_cons_succ, List.setIfInBounds_toArray, List.set_cons_zero, List.set_cons_succ]
      refine wpAnyH_take (i := 4) (v := ?_) rfl (by kernel_rfl) (by kernel_rfl) (by kernel_rfl) (fun _ _ _ h => h) (Or.inl ⟨by rfl, ?_⟩) (by assumption) ?_
      rotate_left 1
      · intro w hSw; (try dsimp only at hSw); go_simp; (try with_reducible rfl)
      simp only [Act.put, List.getElem_toArray, List.getElem_cons_zero, List.getElem_cons_succ, List.setIfInBounds_toArray, List.set_cons_zero, List.set_cons_succ]
      refine wpAnyH_take (i := 5) (v := ?_) rfl (by kernel_rfl) (by kernel_rfl) (by kernel_rfl) (fun _ _ _ h => h) (Or.inl ⟨by rfl, ?_⟩) (by assumption) ?_
      rotate_left 1
      · intro w hSw; (try dsimp only at hSw); go_simp; (try with_reducible rfl)
      simp only [Act.put, List.getElem_toArray, List.getElem_cons_zero, List.getElem_cons_succ, List.setIfInBounds_toArray, List.set_cons_zero, List.set_cons_succ]
      refine wpAnyH_ready (rs := [7]) (by kernel_rfl) (by simp) ?_
      refine AllReadyH.cons rfl (fun K hK => ?_) AllReadyH.nil
      rw [if_pos (by rfl)]
      refine wp_store_row0 24 _ _ rfl rfl g1 (arrN .u32 zeros8) rfl rfl 24 _ N1.out HS8.out rfl (arrN_one _ _) ?_
      refine hK.out _ _ (trivial) (fun hHeld => ?_)
      clear hK K
      refine wpAnyH_take (i := 8) (v := ?_) rfl (by kernel_rfl) (by kernel_rfl) (by kernel_rfl) (fun _ _ _ h => h) (Or.inl ⟨by rfl, ?_⟩) (by assumption) ?_
      rotate_left 1
      · intro w hSw; (try dsimp only at hSw); go_simp; (try with_reducible rfl)
      simp only [Act.put, List.getElem_toArray, List.getElem_cons_zero, List.getElem_cons_succ, List.setIfInBounds_toArray, List.set_cons_zero, List.set_cons_succ]
      refine wpAnyH_done (by kernel_rfl) ?_ _
      replace B := Lib.hid (below_setRow B.out HG.out (arrN .u32 zeros8))
      generalize w4.setRow g1 (arrN .u32 zeros8) = wf at *
      clear hHeld N1 HG
      exact REST _ _ _ B
  · skip
    go_simp
    refine hK.out _ _ (trivial) (fun hHeld => ?_)
    clear hK K
    have hb : Below w0.heap.size w0 (w0.alloc (.cells (Array.replicate 63 (.int .u8 0)) 5)) := (Below.refl _ _).alloc (Nat.le_refl _) _
    replace B := Lib.hid (B.out.trans (hb.mono B.out.size))
    clear hb hHeld
    generalize w0.alloc (.cells (Array.replicate 63 (.int .u8 0)) 5) = w1 at *
    refine wpAnyH_ready (rs := [0, 6]) (by kernel_rfl) (by simp) ?_
    refine AllReadyH.cons rfl (fun K hK => ?_) (AllReadyH.cons rfl (fun K hK => ?_) AllReadyH.nil)
    · skip
      go_simp
      refine (wFirst _ (HP.out.to B.out)).mono ?_
      rintro e w2 ⟨rfl, hb⟩
      replace B := Lib.hid (B.out.trans (hb.mono B.out.size))
      clear hb
      go_wp2_with fail
      refine hK.out _ _ (trivial) (fun hHeld => ?_)
      clear hK K
      clear hHeld
      refine wpAnyH_ready (rs := [2, 6]) (by kernel_rfl) (by simp) ?_
      refine AllReadyH.cons rfl (fun K hK => ?_) (AllReadyH.cons rfl (fun K hK => ?_) AllReadyH.nil)
      · skip
        go_simp
        refine (wEatNo _ 63 63 shaF _ (by decide) (by decide)).mono ?_
        rintro e w3 ⟨rfl, hb⟩
        replace B := Lib.hid (B.out.trans (hb.mono B.out.size))
        clear hb
        go_wp2_with fail
        refine hK.out _ _ (trivial) (fun hHeld => ?_)
        clear hK K
        clear hHeld
        refine wpAnyH_take (i := 3) (v := ?_) rfl (by kernel_rfl) (by kernel_rfl) (by kernel_rfl) (fun _ _ _ h => h) (Or.inl ⟨by rfl, ?_⟩) (by assumption) ?_
        rotate_left 1
        · intro w hSw; (try dsimp only at hSw); go_simp; (try with_reducible rfl)
        simp only [Act.put, List.getElem_toArray, List.getElem_cons_zero, List.getElem_cons_succ, List.setIfInBounds_toArray, List.set_cons_zero, List.set_cons_succ]
        refine wpAnyH_take (i := 4) (v := ?_) rfl (by kernel_rfl) (by kernel_rfl) (by kernel_rfl) (fun _ _ _ h => h) (Or.inl ⟨by rfl, ?_⟩) (by assumption) ?_
        rotate_left 1
        · intro w hSw; (try dsimp only at hSw); go_simp; (try with_reducible rfl)
        simp only [Act.put, List.getElem_toArray, List.getElem_cons_zero, List.getElem_cons_succ, List.setIfInBounds_toArray, List.set_cons_zero, List.set_cons_succ]
        refine wpAnyH_take (i := 5) (v := ?_) rfl (by kernel_rfl) (by kernel_rfl) (by kernel_rfl) (fun _ _ _ h => h) (Or.inl ⟨by rfl, ?_⟩) (by assumption) ?_
        rotate_left 1
        · intro w hSw; (try dsimp only at hSw); go_simp; (try with_reducible rfl)
        simp only [Act.put, List.getElem_toArray, List.getElem_cons_zero, List.getElem_cons_succ, List.setIfInBounds_toArray, List.set_cons_zero, List.set_cons_succ]
        refine wpAnyH_ready (rs := [6]) (by kernel_rfl) (by simp) ?_
        refine AllReadyH.cons rfl (fun K hK => ?_) AllReadyH.nil
        go_simp
        refine hK.out _ _ (trivial) (fun hHeld => ?_)
        clear hK K
        have hb : Below w3.heap.size w3 (w3.alloc (.cells (arrN .u32 zeros8) 24)) := (Below.refl _ _).alloc (Nat.le_refl _) _
        have N1 := Lib.hid (NumAt.new 24 .u32 w3 zeros8)
        have HG : Hid (w.heap.size ≤ w3.heap.size) := B.out.size
        replace B := Lib.hid (B.out.trans (hb.mono B.out.size))
        clear hb hHeld
        obtain ⟨g1, hg1⟩ : ∃ g, w3.heap.size = g := ⟨_, rfl⟩
        rw [hg1] at N1 HG ⊢
        clear hg1
        generalize w3.alloc (.cells (arrN .u32 zeros8) 24) = w4 at *
        refine wpAnyH_ready (rs := [7]) (by kernel_rfl) (by simp) ?_
        refine AllReadyH.cons rfl (fun K hK => ?_) AllReadyH.nil
        rw [if_pos (by rfl)]
        refine wp_store_row0 24 _ _ rfl rfl g1 (arrN .u32 zeros8) rfl rfl 24 _ N1.out HS8.out rfl (arrN_one _ _) ?_
        refine hK.out _ _ (trivial) (fun hHeld => ?_)
        clear hK K
        refine wpAnyH_take (i := 8) (v := ?_) rfl (by kernel_rfl) (by kernel_rfl) (by kernel_rfl) (fun _ _ _ h => h) (Or.inl ⟨by rfl, ?_⟩) (by assumption) ?_
        rotate_left 1
        · intro w hSw; (try dsimp only at hSw); go_simp; (try with_reducible rfl)
        simp only [Act.put, List.getElem_toArray, List.getElem_cons_zero, List.getElem_cons_succ, List.setIfInBounds_toArray, List.set_cons_zero, List.set_cons_succ]
        refine wpAnyH_done (by kernel_rfl) ?_ _
        replace B := Lib.hid (below_setRow B.out HG.out (arrN .u32 zeros8))
        generalize w4.setRow g1 (arrN .u32 zeros8) = wf at *
        clear hHeld N1 HG
        exact REST _ _ _ B
      · skip
        go_simp
        refine hK.out _ _ (trivial) (fun hHeld => ?_)
        clear hK K
        have hb : Below w2.heap.size w2 (w2.alloc (.cells (arrN .u32 zeros8) 24)) := (Below.refl _ _).alloc (Nat.le_refl _) _
        have N1 := Lib.hid (NumAt.new 24 .u32 w2 zeros8)
        have HG : Hid (w.heap.size ≤ w2.heap.size) := B.out.size
        replace B := Lib.hid (B.out.trans (hb.mono B.out.size))
        clear hb hHeld
        obtain ⟨g1, hg1⟩ : ∃ g, w2.heap.size = g := ⟨_, rfl⟩
        rw [hg1] at N1 HG ⊢
        clear hg1
        generalize w2.alloc (.cells (arrN .u32 zeros8) 24) = w3 at *
        refine wpAnyH_ready (rs := [2]) (by kernel_rfl) (by simp) ?_
        refine AllReadyH.cons rfl (fun K hK => ?_) AllReadyH.nil
        go_simp
        refine (wEatNo _ 63 63 shaF _ (by decide) (by decide)).mono ?_
        rintro e w4 ⟨rfl, hb⟩
        replace B := Lib.hid (B.out.trans (hb.mono B.out.size))
        replace N1 := Lib.hid (N1.out.to hb)
        clear hb
        go_wp2_with fail
        refine hK.out _ _ (trivial) (fun hHeld => ?_)
        clear hK K
        clear hHeld
        refine wpAnyH_take (i := 3) (v := ?_) rfl (by kernel_rfl) (by kernel_rfl) (by kernel_rfl) (fun _ _ _ h => h) (Or.inl ⟨by rfl, ?_⟩) (by assumption) ?_
        rotate_left 1
        · intro w hSw; (try dsimp only at hSw); go_simp; (try with_reducible rfl)
        simp only [Act.put, List.getElem_toArray, List.getElem_cons_zero, List.getElem_cons_succ, List.setIfInBounds_toArray, List.set_cons_zero, List.set_cons_succ]
        refine wpAnyH_take (i := 4) (v := ?_) rfl (by kernel_rfl) (by kernel_rfl) (by kernel_rfl) (fun _ _ _ h => h) (Or.inl ⟨by rfl, ?_⟩) (by assumption) ?_
        rotate_left 1
        · intro w hSw; (try dsimp only at hSw); go_simp; (try with_reducible rfl)
        simp only [Act.put, List.getElem_toArray, List.getElem_cons_zero, List.getElem_cons_succ, List.setIfInBounds_toArray, List.set_cons_zero, List.set_cons_succ]
        refine wpAnyH_take (i := 5) (v := ?_) rfl (by kernel_rfl) (by kernel_rfl) (by kernel_rfl) (fun _ _ _ h => h) (Or.inl ⟨by rfl, ?_⟩) (by assumption) ?_
        rotate_left 1
        · intro w hSw; (try dsimp only at hSw); go_simp; (try with_reducible rfl)
        simp only [Act.put, List.getElem_toArray, List.getElem_cons_zero, List.getElem_cons_succ, List.setIfInBounds_toArray, List.set_cons_zero, List.set_cons_succ]
        refine wpAnyH_ready (rs := [7]) (by kernel_rfl) (by simp) ?_
        refine AllReadyH.cons rfl (fun K hK => ?_) AllReadyH.nil
        rw [if_pos (by rfl)]
        refine wp_store_row0 24 _ _ rfl rfl g1 (arrN .u32 zeros8) rfl rfl 24 _ N1.out HS8.out rfl (arrN_one _ _) ?_
        refine hK.out _ _ (trivial) (fun hHeld => ?_)
        clear hK K
        refine wpAnyH_take (i := 8) (v := ?_) rfl (by kernel_rfl) (by kernel_rfl) (by kernel_rfl) (fun _ _ _ h => h) (Or.inl ⟨by rfl, ?_⟩) (by assumption) ?_
        rotate_left 1
        · intro w hSw; (try dsimp only at hSw); go_simp; (try with_reducible rfl)
        simp only [Act.put, List.getElem_toArray, List.getElem_cons_zero, List.getElem_cons_succ, List.setIfInBounds_toArray, List.set_cons_zero, List.set_cons_succ]
        refine wpAnyH_done (by kernel_rfl) ?_ _
        replace B := Lib.hid (below_setRow B.out HG.out (arrN .u32 zeros8))
        generalize w4.setRow g1 (arrN .u32 zeros8) = wf at *
        clear hHeld N1 HG
        exact REST _ _ _ B
    · skip
      go_simp
      refine hK.out _ _ (trivial) (fun hHeld => ?_)
      clear hK K
      have hb : Below w1.heap.size w1 (w1.alloc (.cells (arrN .u32 zeros8) 24)) := (Below.refl _ _).alloc (Nat.le_refl _) _
      have N1 := Lib.hid (NumAt.new 24 .u32 w1 zeros8)
      have HG : Hid (w.heap.size ≤ w1.heap.size) := B.out.size
      replace B := Lib.hid (B.out.trans (hb.mono B.out.size))
      clear hb hHeld
      obtain ⟨g1, hg1⟩ : ∃ g, w1.heap.size = g := ⟨_, rfl⟩
      rw [hg1] at N1 HG ⊢
      clear hg1
      generalize w1.alloc (.cells (arrN .u32 zeros8) 24) = w2 at *
      refine wpAnyH_ready (rs := [0]) (by kernel_rfl) (by simp) ?_
      refine AllReadyH.cons rfl (fun K hK => ?_) AllReadyH.nil
      go_simp
      refine (wFirst _ (HP.out.to B.out)).mono ?_
      rintro e w3 ⟨rfl, hb⟩
      replace B := Lib.hid (B.out.trans (hb.mono B.out.size))
      replace N1 := Lib.hid (N1.out.to hb)
      clear hb
      go_wp2_with fail
      refine hK.out _ _ (trivial) (fun hHeld => ?_)
      clear hK K
      clear hHeld
      refine wpAnyH_ready (rs := [2]) (by kernel_rfl) (by simp) ?_
      refine AllReadyH.cons rfl (fun K hK => ?_) AllReadyH.nil
      go_simp
      refine (wEatNo _ 63 63 shaF _ (by decide) (by decide)).mono ?_
      rintro e w4 ⟨rfl, hb⟩
      replace B := Lib.hid (B.out.trans (hb.mono B.out.size))
      replace N1 := Lib.hid (N1.out.to hb)
      clear hb
      go_wp2_with fail
      refine hK.out _ _ (trivial) (fun hHeld => ?_)
      clear hK K
      clear hHeld
      refine wpAnyH_take (i := 3) (v := ?_) rfl (by kernel_rfl) (by kernel_rfl) (by kernel_rfl) (fun _ _ _ h => h) (Or.inl ⟨by rfl, ?_⟩) (by assumption) ?_
      rotate_left 1
      · intro w hSw; (try dsimp only at hSw); go_simp; (try with_reducible rfl)
      simp only [Act.put, List.getElem_toArray, List.getElem_cons_zero, List.getElem_cons_succ, List.setIfInBounds_toArray, List.set_cons_zero, List.set_cons_succ]
      refine wpAnyH_take (i := 4) (v := ?_) rfl (by kernel_rfl) (by kernel_rfl) (by kernel_rfl) (fun _ _ _ h => h) (Or.inl ⟨by rfl, ?_⟩) (by assumption) ?_
      rotate_left 1
      · intro w hSw; (try dsimp only at hSw); go_simp; (try with_reducible rfl)
      simp only [Act.put, List.getElem_toArray, List.getElem_cons_zero, List.getElem_cons_succ, List.setIfInBounds_toArray, List.set_cons_zero, List.set_cons_succ]
      refine wpAnyH_take (i := 5) (v := ?_) rfl (by kernel_rfl) (by kernel_rfl) (by kernel_rfl) (fun _ _ _ h => h) (Or.inl ⟨by rfl, ?_⟩) (by assumption) ?_
      rotate_left 1
      · intro w hSw; (try dsimp only at hSw); go_simp; (try with_reducible rfl)
      simp only [Act.put, List.getElem_toArray, List.getElem_cons_zero, List.getElem_cons_succ, List.setIfInBounds_toArray, List.set_cons_zero, List.set_cons_succ]
      refine wpAnyH_ready (rs := [7]) (by kernel_rfl) (by simp) ?_
      refine AllReadyH.cons rfl (fun K hK => ?_) AllReadyH.nil
      rw [if_pos (by rfl)]
      refine wp_store_row0 24 _ _ rfl rfl g1 (arrN .u32 zeros8) rfl rfl 24 _ N1.out HS8.out rfl (arrN_one _ _) ?_
      refine hK.out _ _ (trivial) (fun hHeld => ?_)
      clear hK K
      refine wpAnyH_take (i := 8) (v := ?_) rfl (by kernel_rfl) (by kernel_rfl) (by kernel_rfl) (fun _ _ _ h => h) (Or.inl ⟨by rfl, ?_⟩) (by assumption) ?_
      rotate_left 1
      · intro w hSw; (try dsimp only at hSw); go_simp; (try with_reducible rfl)
      simp only [Act.put, List.getElem_toArray, List.getElem_cons_zero, List.getElem_cons_succ, List.setIfInBounds_toArray, List.set_cons_zero, List.set_cons_succ]
      refine wpAnyH_done (by kernel_rfl) ?_ _
      replace B := Lib.hid (below_setRow B.out HG.out (arrN .u32 zeros8))
      generalize w4.setRow g1 (arrN .u32 zeros8) = wf at *
      clear hHeld N1 HG
      exact REST _ _ _ B
  · skip
    go_simp
    refine hK.out _ _ (trivial) (fun hHeld => ?_)
    clear hK K
    have hb : Below w0.heap.size w0 (w0.alloc (.cells (arrN .u32 zeros8) 24)) := (Below.refl _ _).alloc (Nat.le_refl _) _
    have N1 := Lib.hid (NumAt.new 24 .u32 w0 zeros8)
    have HG : Hid (w.heap.size ≤ w0.heap.size) := B.out.size
    replace B := Lib.hid (B.out.trans (hb.mono B.out.size))
    clear hb hHeld
    obtain ⟨g1, hg1⟩ : ∃ g, w0.heap.size = g := ⟨_, rfl⟩
    rw [hg1] at N1 HG ⊢
    clear hg1
    generalize w0.alloc (.cells (arrN .u32 zeros8) 24) = w1 at *
    refine wpAnyH_ready (rs := [0, 1]) (by kernel_rfl) (by simp) ?_
    refine AllReadyH.cons rfl (fun K hK => ?_) (AllReadyH.cons rfl (fun K hK => ?_) AllReadyH.nil)
    · skip
      go_simp
      refine (wFirst _ (HP.out.to B.out)).mono ?_
      rintro e w2 ⟨rfl, hb⟩
      replace B := Lib.hid (B.out.trans (hb.mono B.out.size))
      replace N1 := Lib.hid (N1.out.to hb)
      clear hb
      go_wp2_with fail
      refine hK.out _ _ (trivial) (fun hHeld => ?_)
      clear hK K
      clear hHeld
      refine wpAnyH_ready (rs := [1]) (by kernel_rfl) (by simp) ?_
      refine AllReadyH.cons rfl (fun K hK => ?_) AllReadyH.nil
      go_simp
      refine hK.out _ _ (trivial) (fun hHeld => ?_)
      clear hK K
      have hb : Below w2.heap.size w2 (w2.alloc (.cells (Array.replicate 63 (.int .u8 0)) 5)) := (Below.refl _ _).alloc (Nat.le_refl _) _
      replace B := Lib.hid (B.out.trans (hb.mono B.out.size))
      replace N1 := Lib.hid (N1.out.to hb)
      clear hb hHeld
      generalize w2.alloc (.cells (Array.replicate 63 (.int .u8 0)) 5) = w3 at *
      refine wpAnyH_ready (rs := [2]) (by kernel_rfl) (by simp) ?_
      refine AllReadyH.cons rfl (fun K hK => ?_) AllReadyH.nil
      go_simp
      refine (wEatNo _ 63 63 shaF _ (by decide) (by decide)).mono ?_
      rintro e w4 ⟨rfl, hb⟩
      replace B := Lib.hid (B.out.trans (hb.mono B.out.size))
      replace N1 := Lib.hid (N1.out.to hb)
      clear hb
      go_wp2_with fail
      refine hK.out _ _ (trivial) (fun hHeld => ?_)
      clear hK K
      clear hHeld
      refine wpAnyH_take (i := 3) (v := ?_) rfl (by kernel_rfl) (by kernel_rfl) (by kernel_rfl) (fun _ _ _ h => h) (Or.inl ⟨by rfl, ?_⟩) (by assumption) ?_
      rotate_left 1
      · intro w hSw; (try dsimp only at hSw); go_simp; (try with_reducible rfl)
      simp only [Act.put, List.getElem_toArray, List.getElem_cons_zero, List.getElem_cons_succ, List.setIfInBounds_toArray, List.set_cons_zero, List.set_cons_succ]
      refine wpAnyH_take (i := 4) (v := ?_) rfl (by kernel_rfl) (by kernel_rfl) (by kernel_rfl) (fun _ _ _ h => h) (Or.inl ⟨by rfl, ?_⟩) (by assumption) ?_
      rotate_left 1
      · intro w hSw; (try dsimp only at hSw); go_simp; (try with_reducible rfl)
      simp only [Act.put, List.getElem_toArray, List.getElem_cons_zero, List.getElem_cons_succ, List.setIfInBounds_toArray, List.set_cons_zero, List.set_cons_succ]
      refine wpAnyH_take (i := 5) (v := ?_) rfl (by kernel_rfl) (by kernel_rfl) (by kernel_rfl) (fun _ _ _ h => h) (Or.inl ⟨by rfl, ?_⟩) (by assumption) ?_
      rotate_left 1
      · intro w hSw; (try dsimp only at hSw); go_simp; (try with_reducible rfl)
      simp only [Act.put, List.getElem_toArray, List.getElem_cons_zero, List.getElem_cons_succ, List.setIfInBounds_toArray, List.set_cons_zero, List.set_cons_succ]
      refine wpAnyH_ready (rs := [7]) (by kernel_rfl) (by simp) ?_
      refine AllReadyH.cons rfl (fun K hK => ?_) AllReadyH.nil
      rw [if_pos (by rfl)]
      refine wp_store_row0 24 _ _ rfl rfl g1 (arrN .u32 zeros8) rfl rfl 24 _ N1.out HS8.out rfl (arrN_one _ _) ?_
      refine hK.out _ _ (trivial) (fun hHeld => ?_)
      clear hK K
      refine wpAnyH_take (i := 8) (v := ?_) rfl (by kernel_rfl) (by kernel_rfl) (by kernel_rfl) (fun _ _ _ h => h) (Or.inl ⟨by rfl, ?_⟩) (by assumption) ?_
      rotate_left 1
      · intro w hSw; (try dsimp only at hSw); go_simp; (try with_reducible rfl)
      simp only [Act.put, List.getElem_toArray, List.getElem_cons_zero, List.getElem_cons_succ, List.setIfInBounds_toArray, List.set_cons_zero, List.set_cons_succ]
      refine wpAnyH_done (by kernel_rfl) ?_ _
      replace B := Lib.hid (below_setRow B.out HG.out (arrN .u32 zeros8))
      generalize w4.setRow g1 (arrN .u32 zeros8) = wf at *
      clear hHeld N1 HG
      exact REST _ _ _ B
    · skip
      go_simp
      refine hK.out _ _ (trivial) (fun hHeld => ?_)
      clear hK K
      have hb : Below w1.heap.size w1 (w1.alloc (.cells (Array.replicate 63 (.int .u8 0)) 5)) := (Below.refl _ _).alloc (Nat.le_refl _) _
      replace B := Lib.hid (B.out.trans (hb.mono B.out.size))
      replace N1 := Lib.hid (N1.out.to hb)
      clear hb hHeld
      generalize w1.alloc (.cells (Array.replicate 63 (.int .u8 0)) 5) = w2 at *
      refine wpAnyH_ready (rs := [0]) (by kernel_rfl) (by simp) ?_
      refine AllReadyH.cons rfl (fun K hK => ?_) AllReadyH.nil
      go_simp
      refine (wFirst _ (HP.out.to B.out)).mono ?_
      rintro e w3 ⟨rfl, hb⟩
      replace B := Lib.hid (B.out.trans (hb.mono B.out.size))
      replace N1 := Lib.hid (N1.out.to hb)
      clear hb
      go_wp2_with fail
      refine hK.out _ _ (trivial) (fun hHeld => ?_)
      clear hK K
      clear hHeld
      refine wpAnyH_ready (rs := [2]) (by kernel_rfl) (by simp) ?_
      refine AllReadyH.cons rfl (fun K hK => ?_) AllReadyH.nil
      go_simp
      refine (wEatNo _ 63 63 shaF _ (by decide) (by decide)).mono ?_
      rintro e w4 ⟨rfl, hb⟩
      replace B := Lib.hid (B.out.trans (hb.mono B.out.size))
      replace N1 := Lib.hid (N1.out.to hb)
      clear hb
      go_wp2_with fail
      refine hK.out _ _ (trivial) (fun hHeld => ?_)
      clear hK K
      clear hHeld
      refine wpAnyH_take (i := 3) (v := ?_) rfl (by kernel_rfl) (by kernel_rfl) (by kernel_rfl) (fun _ _ _ h => h) (Or.inl ⟨by rfl, ?_⟩) (by assumption) ?_
      rotate_left 1
      · intro w hSw; (try dsimp only at hSw); go_simp; (try with_reducible rfl)
      simp only [Act.put, List.getElem_toArray, List.getElem_cons_zero, List.getElem_cons_succ, List.setIfInBounds_toArray, List.set_cons_zero, List.set_cons_succ]
      refine wpAnyH_take (i := 4) (v := ?_) rfl (by kernel_rfl) (by kernel_rfl) (by kernel_rfl) (fun _ _ _ h => h) (Or.inl ⟨by rfl, ?_⟩) (by assumption) ?_
      rotate_left 1
      · intro w hSw; (try dsimp only at hSw); go_simp; (try with_reducible rfl)
      simp only [Act.put, List.getElem_toArray, List.getElem_cons_zero, List.getElem_cons_succ, List.setIfInBounds_toArray, List.set_cons_zero, List.set_cons_succ]
      refine wpAnyH_take (i := 5) (v := ?_) rfl (by kernel_rfl) (by kernel_rfl) (by kernel_rfl) (fun _ _ _ h => h) (Or.inl ⟨by rfl, ?_⟩) (by assumption) ?_
      rotate_left 1
      · intro w hSw; (try dsimp only at hSw); go_simp; (try with_reducible rfl)
      simp only [Act.put, List.getElem_toArray, List.getElem_cons_zero, List.getElem_cons_succ, List.setIfInBounds_toArray, List.set_cons_zero, List.set_cons_succ]
      refine wpAnyH_ready (rs := [7]) (by kernel_rfl) (by simp) ?_
      refine AllReadyH.cons rfl (fun K hK => ?_) AllReadyH.nil
      rw [if_pos (by rfl)]
      refine wp_store_row0 24 _ _ rfl rfl g1 (arrN .u32 zeros8) rfl rfl 24 _ N1.out HS8.out rfl (arrN_one _ _) ?_
      refine hK.out _ _ (trivial) (fun hHeld => ?_)
      clear hK K
      refine wpAnyH_take (i := 8) (v := ?_) rfl (by kernel_rfl) (by kernel_rfl) (by kernel_rfl) (fun _ _ _ h => h) (Or.inl ⟨by rfl, ?_⟩) (by assumption) ?_
      rotate_left 1
      · intro w hSw; (try dsimp only at hSw); go_simp; (try with_reducible rfl)
      simp only [Act.put, List.getElem_toArray, List.getElem_cons_zero, List.getElem_cons_succ, List.setIfInBounds_toArray, List.set_cons_zero, List.set_cons_succ]
      refine wpAnyH_done (by kernel_rfl) ?_ _
      replace B := Lib.hid (below_setRow B.out HG.out (arrN .u32 zeros8))
      generalize w4.setRow g1 (arrN .u32 zeros8) = wf at *
      clear hHeld N1 HG
      exact REST _ _ _ B
end Go.Proofs.YtbgcnhhdgnalgaaDoor
