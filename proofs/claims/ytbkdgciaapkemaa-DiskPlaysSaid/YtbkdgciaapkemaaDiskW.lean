/- The document's disk (citadelref06): a new one. -/
import Derived.Test.YtbkdgciaapkemaaDiskV
import Derived.Deep.AppendLies
namespace Go.Proofs.Ytbkdgciaapkemaa
open Go.RowKit
set_option linter.unusedVariables false
set_option linter.unusedSimpArgs false

theorem wp_makeSlice_run {P : Program} {op : Oper} {a : Act} {w w' : World} {K : Act → World → Prop} {Q : Exit → Act → World → Prop} (t : TypeId) (l c : Operand) (ho : op.op = .makeSlice t l c) {lv cv v : Value} (hl : a.eval l = lv) (hc : a.eval c = cv)
    (hrun : (Instr.makeSlice t lv cv).run P w = .ok v w') (h : K (a.put op.dst v) w') : op.wp P a w K Q := by
  unfold Oper.wp
  simp [execOp, ho, hl, hc, hrun, Result.andThen]
  exact h
theorem one_info : (Try.prog.info? 70).map (fun i => (i.zero, i.size, i.bytes)) = some (some (.agg #[.slice none 0 0, .slice none 0 0]), 2, 48) := by kernel_rfl
def cellsP (vs : List (Value × Value)) : List Value := (vs.map fun p => [p.1, p.2]).flatten
theorem cellsP_app (a b : List (Value × Value)) : cellsP (a ++ b) = cellsP a ++ cellsP b := by simp [cellsP]
theorem cellsP_at : ∀ (vs : List (Value × Value)) (i : Nat), i < vs.length → (cellsP vs)[i * 2]? = some (vAt vs i).1 ∧ (cellsP vs)[i * 2 + 1]? = some (vAt vs i).2
  | [], i, h => by simp at h
  | p :: vs, 0, _ => by simp [cellsP, vAt]
  | p :: vs, i + 1, h => by
    have ih := cellsP_at vs i (by simpa using h)
    have e : cellsP (p :: vs) = p.1 :: p.2 :: cellsP vs := by simp [cellsP]
    have e2 : vAt (p :: vs) (i + 1) = vAt vs i := by simp [vAt, List.getD]
    rw [e, e2, show (i + 1) * 2 = i * 2 + 1 + 1 from by omega, List.getElem?_cons_succ, List.getElem?_cons_succ, List.getElem?_cons_succ, List.getElem?_cons_succ]
    exact ih
/-- A pair of the row: 64 noughts, and nothing. -/
def NewP (wr : World) (B : Nat) (Lv : Value) (p : Value × Value) : Prop := p.2 = .slice none 0 0 ∧ ∃ b c, p.1 = .slice (some ⟨b, 0, none⟩) 64 c ∧ Rd wr wr.heap.size (some ⟨b, 0, none⟩) 64 sec0 ∧ B ≤ b ∧ Lv.ownBlock ≠ some b
theorem own_at {w w' : World} {B z : Nat} {T : TypeId} {v : Value} {n : Nat} {xs : List Value} (h : w.ownsRow B T z v n xs) (hb : Below w.heap.size w w') : w'.ownsRow B T z v n xs := by
  refine ⟨h.1, ?_⟩
  rcases h.2 with h | ⟨g, cap, cur, e, hg, hh, h⟩
  · exact .inl h
  · exact .inr ⟨g, cap, cur, e, hg, (hb.block g (heap_at_lt hh)).trans hh, h⟩
theorem own_setOther {w : World} {B z r o : Nat} {T : TypeId} {v u : Value} {n : Nat} {xs : List Value} (h : w.ownsRow B T z v n xs) (hr : r < B) : (w.setCell ⟨r, o, none⟩ u).ownsRow B T z v n xs := by
  refine ⟨h.1, ?_⟩
  rcases h.2 with h | ⟨g, cap, cur, e, hg, hh, h⟩
  · exact .inl h
  · exact .inr ⟨g, cap, cur, e, hg, (Below.heap_setCell w ⟨r, o, none⟩ u g (by show g ≠ r; omega)).trans hh, h⟩
theorem NewP.to {w w' : World} {B : Nat} {Lv : Value} {p : Value × Value} (h : NewP w B Lv p) (hb : Below w.heap.size w w') : NewP w' B Lv p := by
  obtain ⟨h1, b, c, h2, h3, h4⟩ := h
  exact ⟨h1, b, c, h2, h3.to hb, h4⟩
theorem NewP.step {w w' : World} {B : Nat} {Lv Lv' : Value} {p : Value × Value} (h : NewP w B Lv p) (hk : Keep (fun b => Lv.ownBlock = some b) w w') (hl : ∀ b, Lv'.ownBlock = some b → Lv.ownBlock = some b ∨ w.heap.size ≤ b) : NewP w' B Lv' p := by
  obtain ⟨h1, b, c, h2, h3, h4, h5⟩ := h
  refine ⟨h1, b, c, h2, h3.kept hk (fun _ b' o e hb => ?_), h4, fun e => ?_⟩
  · injection e with e; injection e with e _
    subst e
    exact h5 hb
  · have hlt := h3.blk (by decide)
    rcases hl b e with h | h
    · exact h5 h
    · omega
theorem NewP.set {w : World} {B r o : Nat} {Lv u : Value} {p : Value × Value} (h : NewP w B Lv p) (hr : r < B) : NewP (w.setCell ⟨r, o, none⟩ u) B Lv p := by
  obtain ⟨h1, b, c, h2, h3, h4, h5⟩ := h
  exact ⟨h1, b, c, h2, h3.kept ((Keep.refl (· = r) w).setCell ⟨r, o, none⟩ u rfl) (fun _ b' o' e hb => by
    injection e with e; injection e with e _
    have : b' = r := hb
    omega), h4, h5⟩
def NewRel (w : World) (n : Nat) (i : Value) (wr : World) : Prop :=
  ∃ k Lv vs, k ≤ n ∧ i = .int .i64 (k : Int) ∧ vs.length = k ∧ wr.heap[w.heap.size]? = some (.cells #[Lv, .bool false, .int .i64 0, .slice none 0 0] 68 (0, 0)) ∧
    wr.ownsRow (w.heap.size + 1) 70 2 Lv k (cellsP vs) ∧ (∀ p ∈ vs, NewP wr (w.heap.size + 1) Lv p) ∧ Below w.heap.size w wr
set_option maxRecDepth 1000000 in
set_option maxHeartbeats 1000000 in
theorem qNew (n : Nat) (w : World) (h1 : 1 ≤ n) (h2 : n ≤ 1024) : Calls Try.prog 11 #[.int .i64 (n : Int)] w fun e w' => ∃ r, e = .returned (.pointer (some ⟨r, 0, none⟩)) ∧ ∃ F, DrAt w' r F (DS.new n) ∧ (∀ k, F k → w.heap.size ≤ k) ∧ Below w.heap.size w w' := by
  obtain ⟨i0, hi, hz0, hz1, hz2⟩ := info_parts isU8.info
  obtain ⟨j0, gi, gz0, gz1, gz2⟩ := info_parts one_info
  have HI := Lib.hid hi
  have HZ0 := Lib.hid hz0
  have HZ1 := Lib.hid hz1
  have HZ2 := Lib.hid hz2
  have GI := Lib.hid gi
  have GZ0 := Lib.hid gz0
  have GZ1 := Lib.hid gz1
  have GZ2 := Lib.hid gz2
  have H1 : Hid (1 ≤ n) := h1
  have H2 : Hid (n ≤ 1024) := h2
  have h1024 : (n : Int) < 1025 := by omega
  clear hi hz0 hz1 hz2 gi gz0 gz1 gz2 h1 h2
  go_enter Try.func11, Try.ntmps11
  go_wp2_with fail
  go_loopw [4] (fun i wr => NewRel w n i wr) (fun i _ => n - (intOf i).toNat)
  case atStart =>
    refine ⟨0, .slice none 0 0, [], Nat.zero_le _, rfl, rfl, ?_, ⟨rfl, .inl ⟨rfl, rfl⟩⟩, fun p hp => by simp at hp, (Below.refl _ _).alloc (Nat.le_refl _) _⟩
    exact heap_alloc_last w _
  case round =>
    obtain ⟨k, Lv, vs, hk, rfl, hvl, hr, hown, hall, hb⟩ := hrel
    have HR := Lib.hid hr
    have HOW := Lib.hid hown
    have HA := Lib.hid hall
    have B1 := Lib.hid hb
    have HK := Lib.hid hk
    have HV := Lib.hid hvl
    clear hvl hk
    by_cases hlt : k < n
    · have HLT : Hid (k < n) := hlt
      have hkI : (k : Int) < (n : Int) := by omega
      clear hr hown hall hb
      go_wp2_with fail
      replace HR : Hid (wr.drew.heap[w.heap.size]? = some (.cells #[Lv, .bool false, .int .i64 0, .slice none 0 0] 68 (0, 0))) := HR.out
      replace HOW : Hid (wr.drew.ownsRow (w.heap.size + 1) 70 2 Lv k (cellsP vs)) := HOW.out
      replace HA : Hid (∀ p ∈ vs, NewP wr.drew (w.heap.size + 1) Lv p) := HA.out
      replace B1 := Lib.hid B1.out.drew
      generalize hwd : wr.drew = wd at *
      have HWD := Lib.hid hwd
      clear hwd
      have HLR := Lib.hid (heap_at_lt HR.out)
      obtain ⟨c0, _, _, _, z0, _, _, _⟩ := drCell HR.out
      have C0 := Lib.hid c0
      clear c0 z0
      obtain ⟨w5, hrun, hown5, hg5⟩ := run_make_full (P := Try.prog) wd wd.heap.size 32 5 i0 (.int .u8 0) 1 Try.underlying32 HI.out HZ0.out HZ1.out .i64 .i64 64 (by rw [HZ2.out]; decide) (by decide) (Nat.le_refl _)
      have HRUN := Lib.hid hrun
      have HB5 : Hid (Below wd.heap.size wd w5) := (Below.refl _ _).grown hg5 (Nat.le_refl _) (fun k hk => by cases hk)
      have e5 : (madeCells (Value.int .u8 0).cells (64 * 1)).toList = sec0.map bval := by
        rw [Nat.mul_one, sec0, List.map_replicate]
        exact toList_madeCells_one _ _
      rw [e5] at hown5
      have RD5 := Lib.hid (Rd.of_own hown5)
      have L5 := Lib.hid (RD5.out.blk (by decide))
      clear hrun hown5 hg5 e5
      have c0 := C0.out
      have c5 : w5.cell? ⟨w.heap.size, 0, none⟩ = some Lv := (HB5.out.cell HLR.out).trans C0.out
      have hlt5 : w.heap.size < w5.heap.size := Nat.lt_of_lt_of_le HLR.out HB5.out.size
      have HB6 : Hid (Below wd.heap.size wd (w5.alloc (.cells #[.slice (some ⟨wd.heap.size, 0, none⟩) 64 64, .slice none 0 0] 70))) := HB5.out.alloc HB5.out.size _
      have HO6 : Hid ((w5.alloc (.cells #[.slice (some ⟨wd.heap.size, 0, none⟩) 64 64, .slice none 0 0] 70)).ownsRow (w.heap.size + 1) 70 2 Lv k (cellsP vs)) := own_at HOW.out HB6.out
      have HN6 : Hid (∀ j u, ([.slice (some ⟨wd.heap.size, 0, none⟩) 64 64, .slice none 0 0] : List Value)[j]? = some u → (w5.alloc (.cells #[.slice (some ⟨wd.heap.size, 0, none⟩) 64 64, .slice none 0 0] 70)).cell? ((⟨w5.heap.size, 0, none⟩ : Addr).add j) = some u) := World.news_of_block (heap_alloc_last w5 _)
      have HS6 : Hid ((w5.alloc (.cells #[.slice (some ⟨wd.heap.size, 0, none⟩) 64 64, .slice none 0 0] 70)).heap.size = w5.heap.size + 1) := by show _ = _; simp
      have RD6 : Hid (Rd (w5.alloc (.cells #[.slice (some ⟨wd.heap.size, 0, none⟩) 64 64, .slice none 0 0] 70)) (w5.alloc (.cells #[.slice (some ⟨wd.heap.size, 0, none⟩) 64 64, .slice none 0 0] 70)).heap.size (some ⟨wd.heap.size, 0, none⟩) 64 sec0) := RD5.out.grow _
      have HR6 : Hid ((w5.alloc (.cells #[.slice (some ⟨wd.heap.size, 0, none⟩) 64 64, .slice none 0 0] 70)).heap[w.heap.size]? = some (.cells #[Lv, .bool false, .int .i64 0, .slice none 0 0] 68 (0, 0))) := (HB6.out.block w.heap.size HLR.out).trans HR.out
      have HWS : Hid (w.heap.size + 1 ≤ wd.heap.size) := HLR.out
      have HC6 : Hid (∀ u ∈ ([.slice (some ⟨wd.heap.size, 0, none⟩) 64 64, .slice none 0 0] : List Value), u.oneCell' = true) := fun u hu => by
        simp only [List.mem_cons, List.not_mem_nil, or_false] at hu
        rcases hu with rfl | rfl <;> rfl
      refine wp_region_held_drew (S := (fun _ => True)) (by kernel_rfl) (trivial) (fun hHeld => ?_)
      rw [HWD.out]
      refine wpAnyH_take (i := 0) (v := ?_) rfl (by kernel_rfl) (by kernel_rfl) (by kernel_rfl) (fun _ _ _ h => h) (Or.inl ⟨by rfl, ?_⟩) (by assumption) ?_
      rotate_left 1
      · intro w hSw; (try dsimp only at hSw); go_simp; (try with_reducible rfl)
      simp only [Act.put, List.getElem_toArray, List.getElem_cons_zero, List.getElem_cons_succ, List.setIfInBounds_toArray, List.set_cons_zero, List.set_cons_succ]
      refine wpAnyH_take (i := 1) (v := ?_) rfl (by kernel_rfl) (by kernel_rfl) (by kernel_rfl) (fun _ _ _ h => h) (Or.inl ⟨by rfl, ?_⟩) (by assumption) ?_
      rotate_left 1
      · intro w hSw; (try dsimp only at hSw); go_simp; (try with_reducible rfl)
      simp only [Act.put, List.getElem_toArray, List.getElem_cons_zero, List.getElem_cons_succ, List.setIfInBounds_toArray, List.set_cons_zero, List.set_cons_succ]
      refine wpAnyH_take (i := 2) (v := ?_) rfl (by kernel_rfl) (by kernel_rfl) (by kernel_rfl) (fun _ _ _ h => h) (Or.inl ⟨by rfl, ?_⟩) (by assumption) ?_
      rotate_left 1
      · intro w hSw; (try dsimp only at hSw); go_simp; (try with_reducible rfl)
      simp only [Act.put, List.getElem_toArray, List.getElem_cons_zero, List.getElem_cons_succ, List.setIfInBounds_toArray, List.set_cons_zero, List.set_cons_succ]
      refine wpAnyH_take (i := 3) (v := ?_) rfl (by kernel_rfl) (by kernel_rfl) (by kernel_rfl) (fun _ _ _ h => h) (Or.inl ⟨by rfl, ?_⟩) (by assumption) ?_
      rotate_left 1
      · intro w hSw; (try dsimp only at hSw); go_simp; (try with_reducible rfl)
      simp only [Act.put, List.getElem_toArray, List.getElem_cons_zero, List.getElem_cons_succ, List.setIfInBounds_toArray, List.set_cons_zero, List.set_cons_succ]
      refine wpAnyH_ready (rs := [4, 5]) (by kernel_rfl) (by simp) ?_
      refine AllReadyH.cons rfl (fun K hK => ?_) (AllReadyH.cons rfl (fun K hK => ?_) AllReadyH.nil)
      · skip
        go_simp
        refine hK.out _ _ (trivial) (fun hHeld => ?_)
        clear hK K
        refine wpAnyH_ready (rs := [5]) (by kernel_rfl) (by simp) ?_
        refine AllReadyH.cons rfl (fun K hK => ?_) AllReadyH.nil
        rw [if_pos (by rfl)]
        refine wp_makeSlice_run 32 _ _ rfl rfl rfl HRUN.out ?_
        refine hK.out _ _ trivial (fun hHeld => ?_)
        clear hK K
        refine wpAnyH_take (i := 6) (v := ?_) rfl (by kernel_rfl) (by kernel_rfl) (by kernel_rfl) (fun _ _ _ h => h) (Or.inl ⟨by rfl, ?_⟩) (by assumption) ?_
        rotate_left 1
        · intro w hSw; (try dsimp only at hSw); go_simp; (try with_reducible rfl)
        simp only [Act.put, List.getElem_toArray, List.getElem_cons_zero, List.getElem_cons_succ, List.setIfInBounds_toArray, List.set_cons_zero, List.set_cons_succ]
        refine wpAnyH_ready (rs := [7]) (by kernel_rfl) (by simp) ?_
        refine AllReadyH.cons rfl (fun K hK => ?_) AllReadyH.nil
        go_simp
        refine hK.out _ _ (trivial) (fun hHeld => ?_)
        clear hK K
        generalize w5.alloc (.cells #[.slice (some ⟨wd.heap.size, 0, none⟩) 64 64, .slice none 0 0] 70) = w6 at *
        refine wpAnyH_ready (rs := [8]) (by kernel_rfl) (by simp) ?_
        refine AllReadyH.cons rfl (fun K hK => ?_) AllReadyH.nil
        refine step_append_lies w6 rfl (.tmp 16) (.tmp 19) 66 rfl (w.heap.size + 1) 70 j0 (.agg #[.slice none 0 0, .slice none 0 0]) 2 48 Try.underlying66 GI.out GZ0.out GZ1.out GZ2.out rfl (by decide) Lv k (cellsP vs) rfl HO6.out ⟨w5.heap.size, 0, none⟩ 1 1 [.slice (some ⟨wd.heap.size, 0, none⟩) 64 64, .slice none 0 0] rfl rfl HN6.out HC6.out (by decide) (by unfold maxLen; have := H2.out; omega) (by have := H2.out; omega) (by have := HWS.out; have := HB6.out.size; omega) _ rfl ?_
        intro g cap w7 hown7 hg7 hgl hg8
        refine hK.out _ _ (trivial) (fun hHeld => ?_)
        clear hK K
        simp only [Act.put, List.getElem_toArray, List.getElem_cons_zero, List.getElem_cons_succ, List.setIfInBounds_toArray, List.set_cons_zero, List.set_cons_succ]
        have KG : Keep (fun b => Lv.ownBlock = some b) w6 w7 := ⟨hg7.os, hg7.tape, hg7.output, hg7.size, fun b hb hn => hg7.block b hb (fun e => hn e.symm)⟩
        have HLO : Hid (∀ j, Lv.ownBlock = some j → w.heap.size + 1 ≤ j ∧ j < wd.heap.size) := fun j hj => HOW.out.lt j hj
        have HR7 := Lib.hid ((KG.block w.heap.size (by have := HWS.out; have := HB6.out.size; omega) (fun e => by have := (HLO.out _ e).1; omega)).trans HR6.out)
        obtain ⟨x7, _, _, _, z7, _, _, _⟩ := drCell HR7.out
        have HO7 := Lib.hid hown7
        have HP7 : Hid (∀ p ∈ vs ++ [(.slice (some ⟨wd.heap.size, 0, none⟩) 64 64, .slice none 0 0)], NewP w7 (w.heap.size + 1) (.slice (some ⟨g, 0, none⟩) (k + 1) cap) p) := fun p hp => by
          have hlies : ∀ b, (Value.slice (some ⟨g, 0, none⟩) (k + 1) cap).ownBlock = some b → Lv.ownBlock = some b ∨ w6.heap.size ≤ b := fun b hb => by
            simp only [Value.ownBlock, Option.some.injEq] at hb
            subst hb
            exact hgl.imp id (fun e => by omega)
          rcases List.mem_append.1 hp with hp | hp
          · exact ((HA.out p hp).to HB6.out).step KG hlies
          · obtain rfl := List.mem_singleton.1 hp
            exact NewP.step (Lv := Lv) ⟨rfl, wd.heap.size, 64, rfl, RD6.out, HWS.out, fun e => Nat.lt_irrefl _ (HLO.out _ e).2⟩ KG hlies
        have HB7 : Hid (Below w.heap.size w w7) := (B1.out.trans (HB6.out.mono B1.out.size)).trans ⟨hg7.os, hg7.tape, hg7.output, hg7.size, fun b hb => hg7.block b (by have := HWS.out; have := HB6.out.size; omega) (fun e => by have := (HLO.out b e.symm).1; omega)⟩
        clear hown7 hg7 hgl hg8 KG c0 c5 hlt5
        refine wpAnyH_take (i := 9) (v := ?_) rfl (by kernel_rfl) (by kernel_rfl) (by kernel_rfl) (fun _ _ _ h => h) (Or.inl ⟨by rfl, ?_⟩) (by assumption) ?_
        rotate_left 1
        · intro w hSw; (try dsimp only at hSw); go_simp; (try with_reducible rfl)
        simp only [Act.put, List.getElem_toArray, List.getElem_cons_zero, List.getElem_cons_succ, List.setIfInBounds_toArray, List.set_cons_zero, List.set_cons_succ]
        refine wpAnyH_take (i := 10) (v := ?_) rfl (by kernel_rfl) (by kernel_rfl) (by kernel_rfl) (fun _ _ _ h => h) (Or.inl ⟨by rfl, ?_⟩) (by assumption) ?_
        rotate_left 1
        · intro w hSw; (try dsimp only at hSw); go_simp; (try with_reducible rfl)
        simp only [Act.put, List.getElem_toArray, List.getElem_cons_zero, List.getElem_cons_succ, List.setIfInBounds_toArray, List.set_cons_zero, List.set_cons_succ]
        refine wpAnyH_ready (rs := [11]) (by kernel_rfl) (by simp) ?_
        refine AllReadyH.cons rfl (fun K hK => ?_) AllReadyH.nil
        go_simp
        refine hK.out _ _ (trivial) (fun hHeld => ?_)
        clear hK K
        refine wpAnyH_done (by kernel_rfl) ?_ _
        clear hHeld
        go_wp2_with fail
        go_roundw
        case rel =>
          refine ⟨k + 1, .slice (some ⟨g, 0, none⟩) (k + 1) cap, vs ++ [(.slice (some ⟨wd.heap.size, 0, none⟩) 64 64, .slice none 0 0)], HLT.out, by go_num, by rw [List.length_append, HV.out]; rfl, ?_, ?_, fun p hp => (HP7.out p hp).set (Nat.lt_succ_self _), HB7.out.setCell (Nat.le_refl _) _⟩
          · rw [heap_setCell_same _ _ _ _ _ _ HR7.out]; rfl
          · rw [cellsP_app]
            exact own_setOther HO7.out (Nat.lt_succ_self _)
        case measure => have := HLT.out; simp [intOf]; omega
      · rw [if_pos (by rfl)]
        refine wp_makeSlice_run 32 _ _ rfl rfl rfl HRUN.out ?_
        refine hK.out _ _ trivial (fun hHeld => ?_)
        clear hK K
        refine wpAnyH_take (i := 6) (v := ?_) rfl (by kernel_rfl) (by kernel_rfl) (by kernel_rfl) (fun _ _ _ h => h) (Or.inl ⟨by rfl, ?_⟩) (by assumption) ?_
        rotate_left 1
        · intro w hSw; (try dsimp only at hSw); go_simp; (try with_reducible rfl)
        simp only [Act.put, List.getElem_toArray, List.getElem_cons_zero, List.getElem_cons_succ, List.setIfInBounds_toArray, List.set_cons_zero, List.set_cons_succ]
        refine wpAnyH_ready (rs := [4, 7]) (by kernel_rfl) (by simp) ?_
        refine AllReadyH.cons rfl (fun K hK => ?_) (AllReadyH.cons rfl (fun K hK => ?_) AllReadyH.nil)
        · skip
          go_simp
          refine hK.out _ _ (trivial) (fun hHeld => ?_)
          clear hK K
          refine wpAnyH_ready (rs := [7]) (by kernel_rfl) (by simp) ?_
          refine AllReadyH.cons rfl (fun K hK => ?_) AllReadyH.nil
          go_simp
          refine hK.out _ _ (trivial) (fun hHeld => ?_)
          clear hK K
          generalize w5.alloc (.cells #[.slice (some ⟨wd.heap.size, 0, none⟩) 64 64, .slice none 0 0] 70) = w6 at *
          refine wpAnyH_ready (rs := [8]) (by kernel_rfl) (by simp) ?_
          refine AllReadyH.cons rfl (fun K hK => ?_) AllReadyH.nil
          refine step_append_lies w6 rfl (.tmp 16) (.tmp 19) 66 rfl (w.heap.size + 1) 70 j0 (.agg #[.slice none 0 0, .slice none 0 0]) 2 48 Try.underlying66 GI.out GZ0.out GZ1.out GZ2.out rfl (by decide) Lv k (cellsP vs) rfl HO6.out ⟨w5.heap.size, 0, none⟩ 1 1 [.slice (some ⟨wd.heap.size, 0, none⟩) 64 64, .slice none 0 0] rfl rfl HN6.out HC6.out (by decide) (by unfold maxLen; have := H2.out; omega) (by have := H2.out; omega) (by have := HWS.out; have := HB6.out.size; omega) _ rfl ?_
          intro g cap w7 hown7 hg7 hgl hg8
          refine hK.out _ _ (trivial) (fun hHeld => ?_)
          clear hK K
          simp only [Act.put, List.getElem_toArray, List.getElem_cons_zero, List.getElem_cons_succ, List.setIfInBounds_toArray, List.set_cons_zero, List.set_cons_succ]
          have KG : Keep (fun b => Lv.ownBlock = some b) w6 w7 := ⟨hg7.os, hg7.tape, hg7.output, hg7.size, fun b hb hn => hg7.block b hb (fun e => hn e.symm)⟩
          have HLO : Hid (∀ j, Lv.ownBlock = some j → w.heap.size + 1 ≤ j ∧ j < wd.heap.size) := fun j hj => HOW.out.lt j hj
          have HR7 := Lib.hid ((KG.block w.heap.size (by have := HWS.out; have := HB6.out.size; omega) (fun e => by have := (HLO.out _ e).1; omega)).trans HR6.out)
          obtain ⟨x7, _, _, _, z7, _, _, _⟩ := drCell HR7.out
          have HO7 := Lib.hid hown7
          have HP7 : Hid (∀ p ∈ vs ++ [(.slice (some ⟨wd.heap.size, 0, none⟩) 64 64, .slice none 0 0)], NewP w7 (w.heap.size + 1) (.slice (some ⟨g, 0, none⟩) (k + 1) cap) p) := fun p hp => by
            have hlies : ∀ b, (Value.slice (some ⟨g, 0, none⟩) (k + 1) cap).ownBlock = some b → Lv.ownBlock = some b ∨ w6.heap.size ≤ b := fun b hb => by
              simp only [Value.ownBlock, Option.some.injEq] at hb
              subst hb
              exact hgl.imp id (fun e => by omega)
            rcases List.mem_append.1 hp with hp | hp
            · exact ((HA.out p hp).to HB6.out).step KG hlies
            · obtain rfl := List.mem_singleton.1 hp
              exact NewP.step (Lv := Lv) ⟨rfl, wd.heap.size, 64, rfl, RD6.out, HWS.out, fun e => Nat.lt_irrefl _ (HLO.out _ e).2⟩ KG hlies
          have HB7 : Hid (Below w.heap.size w w7) := (B1.out.trans (HB6.out.mono B1.out.size)).trans ⟨hg7.os, hg7.tape, hg7.output, hg7.size, fun b hb => hg7.block b (by have := HWS.out; have := HB6.out.size; omega) (fun e => by have := (HLO.out b e.symm).1; omega)⟩
          clear hown7 hg7 hgl hg8 KG c0 c5 hlt5
          refine wpAnyH_take (i := 9) (v := ?_) rfl (by kernel_rfl) (by kernel_rfl) (by kernel_rfl) (fun _ _ _ h => h) (Or.inl ⟨by rfl, ?_⟩) (by assumption) ?_
          rotate_left 1
          · intro w hSw; (try dsimp only at hSw); go_simp; (try with_reducible rfl)
          simp only [Act.put, List.getElem_toArray, List.getElem_cons_zero, List.getElem_cons_succ, List.setIfInBounds_toArray, List.set_cons_zero, List.set_cons_succ]
          refine wpAnyH_take (i := 10) (v := ?_) rfl (by kernel_rfl) (by kernel_rfl) (by kernel_rfl) (fun _ _ _ h => h) (Or.inl ⟨by rfl, ?_⟩) (by assumption) ?_
          rotate_left 1
          · intro w hSw; (try dsimp only at hSw); go_simp; (try with_reducible rfl)
          simp only [Act.put, List.getElem_toArray, List.getElem_cons_zero, List.getElem_cons_succ, List.setIfInBounds_toArray, List.set_cons_zero, List.set_cons_succ]
          refine wpAnyH_ready (rs := [11]) (by kernel_rfl) (by simp) ?_
          refine AllReadyH.cons rfl (fun K hK => ?_) AllReadyH.nil
          go_simp
          refine hK.out _ _ (trivial) (fun hHeld => ?_)
          clear hK K
          refine wpAnyH_done (by kernel_rfl) ?_ _
          clear hHeld
          go_wp2_with fail
          go_roundw
          case rel =>
            refine ⟨k + 1, .slice (some ⟨g, 0, none⟩) (k + 1) cap, vs ++ [(.slice (some ⟨wd.heap.size, 0, none⟩) 64 64, .slice none 0 0)], HLT.out, by go_num, by rw [List.length_append, HV.out]; rfl, ?_, ?_, fun p hp => (HP7.out p hp).set (Nat.lt_succ_self _), HB7.out.setCell (Nat.le_refl _) _⟩
            · rw [heap_setCell_same _ _ _ _ _ _ HR7.out]; rfl
            · rw [cellsP_app]
              exact own_setOther HO7.out (Nat.lt_succ_self _)
          case measure => have := HLT.out; simp [intOf]; omega
        · skip
          go_simp
          refine hK.out _ _ (trivial) (fun hHeld => ?_)
          clear hK K
          refine wpAnyH_ready (rs := [4]) (by kernel_rfl) (by simp) ?_
          refine AllReadyH.cons rfl (fun K hK => ?_) AllReadyH.nil
          go_simp
          refine hK.out _ _ (trivial) (fun hHeld => ?_)
          clear hK K
          generalize w5.alloc (.cells #[.slice (some ⟨wd.heap.size, 0, none⟩) 64 64, .slice none 0 0] 70) = w6 at *
          refine wpAnyH_ready (rs := [8]) (by kernel_rfl) (by simp) ?_
          refine AllReadyH.cons rfl (fun K hK => ?_) AllReadyH.nil
          refine step_append_lies w6 rfl (.tmp 16) (.tmp 19) 66 rfl (w.heap.size + 1) 70 j0 (.agg #[.slice none 0 0, .slice none 0 0]) 2 48 Try.underlying66 GI.out GZ0.out GZ1.out GZ2.out rfl (by decide) Lv k (cellsP vs) rfl HO6.out ⟨w5.heap.size, 0, none⟩ 1 1 [.slice (some ⟨wd.heap.size, 0, none⟩) 64 64, .slice none 0 0] rfl rfl HN6.out HC6.out (by decide) (by unfold maxLen; have := H2.out; omega) (by have := H2.out; omega) (by have := HWS.out; have := HB6.out.size; omega) _ rfl ?_
          intro g cap w7 hown7 hg7 hgl hg8
          refine hK.out _ _ (trivial) (fun hHeld => ?_)
          clear hK K
          simp only [Act.put, List.getElem_toArray, List.getElem_cons_zero, List.getElem_cons_succ, List.setIfInBounds_toArray, List.set_cons_zero, List.set_cons_succ]
          have KG : Keep (fun b => Lv.ownBlock = some b) w6 w7 := ⟨hg7.os, hg7.tape, hg7.output, hg7.size, fun b hb hn => hg7.block b hb (fun e => hn e.symm)⟩
          have HLO : Hid (∀ j, Lv.ownBlock = some j → w.heap.size + 1 ≤ j ∧ j < wd.heap.size) := fun j hj => HOW.out.lt j hj
          have HR7 := Lib.hid ((KG.block w.heap.size (by have := HWS.out; have := HB6.out.size; omega) (fun e => by have := (HLO.out _ e).1; omega)).trans HR6.out)
          obtain ⟨x7, _, _, _, z7, _, _, _⟩ := drCell HR7.out
          have HO7 := Lib.hid hown7
          have HP7 : Hid (∀ p ∈ vs ++ [(.slice (some ⟨wd.heap.size, 0, none⟩) 64 64, .slice none 0 0)], NewP w7 (w.heap.size + 1) (.slice (some ⟨g, 0, none⟩) (k + 1) cap) p) := fun p hp => by
            have hlies : ∀ b, (Value.slice (some ⟨g, 0, none⟩) (k + 1) cap).ownBlock = some b → Lv.ownBlock = some b ∨ w6.heap.size ≤ b := fun b hb => by
              simp only [Value.ownBlock, Option.some.injEq] at hb
              subst hb
              exact hgl.imp id (fun e => by omega)
            rcases List.mem_append.1 hp with hp | hp
            · exact ((HA.out p hp).to HB6.out).step KG hlies
            · obtain rfl := List.mem_singleton.1 hp
              exact NewP.step (Lv := Lv) ⟨rfl, wd.heap.size, 64, rfl, RD6.out, HWS.out, fun e => Nat.lt_irrefl _ (HLO.out _ e).2⟩ KG hlies
          have HB7 : Hid (Below w.heap.size w w7) := (B1.out.trans (HB6.out.mono B1.out.size)).trans ⟨hg7.os, hg7.tape, hg7.output, hg7.size, fun b hb => hg7.block b (by have := HWS.out; have := HB6.out.size; omega) (fun e => by have := (HLO.out b e.symm).1; omega)⟩
          clear hown7 hg7 hgl hg8 KG c0 c5 hlt5
          refine wpAnyH_take (i := 9) (v := ?_) rfl (by kernel_rfl) (by kernel_rfl) (by kernel_rfl) (fun _ _ _ h => h) (Or.inl ⟨by rfl, ?_⟩) (by assumption) ?_
          rotate_left 1
          · intro w hSw; (try dsimp only at hSw); go_simp; (try with_reducible rfl)
          simp only [Act.put, List.getElem_toArray, List.getElem_cons_zero, List.getElem_cons_succ, List.setIfInBounds_toArray, List.set_cons_zero, List.set_cons_succ]
          refine wpAnyH_take (i := 10) (v := ?_) rfl (by kernel_rfl) (by kernel_rfl) (by kernel_rfl) (fun _ _ _ h => h) (Or.inl ⟨by rfl, ?_⟩) (by assumption) ?_
          rotate_left 1
          · intro w hSw; (try dsimp only at hSw); go_simp; (try with_reducible rfl)
          simp only [Act.put, List.getElem_toArray, List.getElem_cons_zero, List.getElem_cons_succ, List.setIfInBounds_toArray, List.set_cons_zero, List.set_cons_succ]
          refine wpAnyH_ready (rs := [11]) (by kernel_rfl) (by simp) ?_
          refine AllReadyH.cons rfl (fun K hK => ?_) AllReadyH.nil
          go_simp
          refine hK.out _ _ (trivial) (fun hHeld => ?_)
          clear hK K
          refine wpAnyH_done (by kernel_rfl) ?_ _
          clear hHeld
          go_wp2_with fail
          go_roundw
          case rel =>
            refine ⟨k + 1, .slice (some ⟨g, 0, none⟩) (k + 1) cap, vs ++ [(.slice (some ⟨wd.heap.size, 0, none⟩) 64 64, .slice none 0 0)], HLT.out, by go_num, by rw [List.length_append, HV.out]; rfl, ?_, ?_, fun p hp => (HP7.out p hp).set (Nat.lt_succ_self _), HB7.out.setCell (Nat.le_refl _) _⟩
            · rw [heap_setCell_same _ _ _ _ _ _ HR7.out]; rfl
            · rw [cellsP_app]
              exact own_setOther HO7.out (Nat.lt_succ_self _)
          case measure => have := HLT.out; simp [intOf]; omega
    · obtain rfl : k = n := by have := HK.out; omega
      clear hr hown hall hb
      go_wp2_with fail
      go_ret
      obtain ⟨g, cap, cur, rfl, hBg, hh, hkc, hcm, hcs, htk⟩ : ∃ g cap cur, Lv = .slice (some ⟨g, 0, none⟩) k cap ∧ w.heap.size + 1 ≤ g ∧ wr.heap[g]? = some (.cells cur 70 (0, 0)) ∧ k ≤ cap ∧ cap ≤ maxLen ∧ cur.size = cap * 2 ∧ cur.toList.take (k * 2) = cellsP vs := by
        rcases HOW.out.2 with ⟨_, h⟩ | h
        · have := H1.out; omega
        · exact h
      refine ⟨w.heap.size, rfl, fun b => w.heap.size ≤ b ∧ b < wr.heap.size, ⟨g, cap, vs, none, 0, 0, ?_⟩, fun b hb => hb.1, B1.out⟩
      have eL : (DS.new k).L.length = k := by simp [DS.new]
      have hgl := heap_at_lt hh
      refine ⟨?_, by rw [eL]; exact HV.out, ⟨cur, hh, fun i hi => ?_⟩, fun i hi => ?_, ⟨Rd.nil _ _ _, by omega, Nat.le_refl _, by omega⟩, fun b o hm => absurd hm (Nat.lt_irrefl 0), ⟨Nat.le_refl _, heap_at_lt HR.out⟩, ⟨by omega, hgl⟩, by omega, fun b hb => hb.2, ⟨by rw [eL]; exact hkc, by unfold maxLen at hcm; omega⟩, DS.ok.new H2.out⟩
      · rw [eL]; exact HR.out
      · rw [eL] at hi
        obtain ⟨h1, h2⟩ := cellsP_at vs i (by rw [HV.out]; exact hi)
        rw [← htk, List.getElem?_take] at h1 h2
        rw [if_pos (by omega), Array.getElem?_toList] at h1 h2
        exact ⟨h1, h2⟩
      · rw [eL] at hi
        have hiv : i < vs.length := by rw [HV.out]; exact hi
        have e1 : vAt vs i = vs[i] := by simp [vAt, List.getD, hiv]
        have e2 : secAt (DS.new k).L i = (sec0, none) := by unfold secAt DS.new; simp [List.getD, List.getElem?_replicate, hi]
        rw [e1, e2]
        obtain ⟨h1, b, c, h2, h3, h4, h5⟩ := HA.out vs[i] (List.getElem_mem hiv)
        refine ⟨⟨b, 0, c, h2, h3, ⟨by omega, h3.blk (by decide)⟩, by omega, fun e => h5 (by rw [e]; rfl)⟩, fun _ => h1, fun c hc => by cases hc⟩
end Go.Proofs.Ytbkdgciaapkemaa
