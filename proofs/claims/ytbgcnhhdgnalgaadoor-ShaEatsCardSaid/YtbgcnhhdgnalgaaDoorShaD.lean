/- Contracts of the program's Eat, eatAll, Tail, Print, digest, Sum, Chain, Hex (sha). -/
import Derived.Test.YtbgcnhhdgnalgaaDoorShaE
import Derived.Test.YtbgcnhhdgnalgaaDoorShaRefC
import Derived.Test.YtbgcnhhdgnalgaaDoorShaRefH
import Derived.Test.YtbgcnhhdgnalgaaDoorPad
import Derived.Deep.RegionHeld
namespace Go.Proofs.YtbgcnhhdgnalgaaDoor
open Go.RowKit
set_option linter.unusedVariables false
set_option linter.unusedSimpArgs false

/-- A whole block read, in a region that draws its order, under a condition that names the block. -/
theorem yieldsIf_load_row {P : Program} {ops : Array Oper} {S : World → Prop} {op : Oper} {a : Act} (hw : Region.wanted op (yielded ops a.tmps) = true) (ty : TypeId) (x : Operand) (ho : op.op = .load ty x)
    (g : Nat) (hx : a.eval x = .pointer (some ⟨g, 0, none⟩)) (t : TypeId) (cs : Array Value) (fr : Nat × Nat) (d : TypeDesc) (hS : ∀ w, S w → w.heap[g]? = some (.cells cs t fr))
    (hu : P.underlying ty = some d) (hd : (match d with | .struct _ | .array _ _ => true | _ => false) = true) (hi : (P.info? ty).map (·.size) = some cs.size) : YieldsIf P ops S op (.agg cs) a :=
  .inl ⟨hw, fun w hw' => by
    unfold execOp
    simp only [ho, hx, Instr.loadAt, Instr.sureAddr, Sem.run_bind, Sem.run_pure, Result.andThen_ok, run_loadVar_row w g t ty cs fr d (hS w hw') hu hd hi]⟩

theorem wp_store_row0 {P : Program} {o : Oper} {a : Act} {w : World} {K : Act → World → Prop} {Q : Exit → Act → World → Prop} (ty : TypeId) (x y : Operand) (ho : o.op = .store ty x y) (hd : o.dst = none)
    (g : Nat) (cells : Array Value) (hx : a.eval x = .pointer (some ⟨g, 0, none⟩)) (hy : a.eval y = .agg cells)
    (t : TypeId) (old : Array Value) (hg : w.heap[g]? = some (.cells old t (0, 0))) (hi : (P.info? ty).map (·.size) = some cells.size)
    (hold : old.size = cells.size) (h1 : cells.all (·.oneCell') = true) (h : K a (w.setRow g cells)) : o.wp P a w K Q :=
  wp_store_row ty x y ho g cells hx hy t old hg hi hold h1 (by rw [hd]; exact h)

/-- The same three at a step of a region that draws. -/
theorem step_load_row {P : Program} {ops : Array Oper} {o : Oper} {a : Act} {w : World} {K : Act → World → Prop} {Q : Exit → Act → World → Prop} {E : Prop} (hgd : o.guard = none) (ty : TypeId) (x : Operand) (ho : o.op = .load ty x)
    (g : Nat) (hx : a.eval x = .pointer (some ⟨g, 0, none⟩)) (t : TypeId) (cs : Array Value) (fr : Nat × Nat) (d : TypeDesc) (hg : w.heap[g]? = some (.cells cs t fr))
    (hu : P.underlying ty = some d) (hd : (match d with | .struct _ | .array _ _ => true | _ => false) = true) (hi : (P.info? ty).map (·.size) = some cs.size)
    (h : K (a.put o.dst (.agg cs)) w) : if Region.wanted o (yielded ops a.tmps) = true then Oper.wp P o a w K Q else E := by
  rw [if_pos (by unfold Region.wanted; rw [hgd])]
  exact wp_load_row ty x ho g hx t cs fr d hg hu hd hi h
theorem step_store_row {P : Program} {ops : Array Oper} {o : Oper} {a : Act} {w : World} {K : Act → World → Prop} {Q : Exit → Act → World → Prop} {E : Prop} (hgd : o.guard = none) (ty : TypeId) (x y : Operand) (ho : o.op = .store ty x y)
    (g : Nat) (cells : Array Value) (hx : a.eval x = .pointer (some ⟨g, 0, none⟩)) (hy : a.eval y = .agg cells)
    (t : TypeId) (old : Array Value) (hg : w.heap[g]? = some (.cells old t (0, 0))) (hi : (P.info? ty).map (·.size) = some cells.size)
    (hold : old.size = cells.size) (h1 : cells.all (·.oneCell') = true) (h : K (a.put o.dst undef) (w.setRow g cells)) : if Region.wanted o (yielded ops a.tmps) = true then Oper.wp P o a w K Q else E := by
  rw [if_pos (by unfold Region.wanted; rw [hgd])]
  exact wp_store_row ty x y ho g cells hx hy t old hg hi hold h1 h
theorem results_cell_tmp {P : Program} {fn : Func} {p q : Tmp} {ty : TypeId} (h : fn.results = #[.cell p ty, .tmp q]) (tmps : Array Value) (w : World) (g : Nat) (t : TypeId) (cs : Array Value) (fr : Nat × Nat) (d : TypeDesc) (v : Value)
    (hp : tmps.getD p undef = .pointer (some ⟨g, 0, none⟩)) (hq : tmps.getD q undef = v) (hg : w.heap[g]? = some (.cells cs t fr))
    (hu : P.underlying ty = some d) (hd : (match d with | .struct _ | .array _ _ => true | _ => false) = true) (hi : (P.info? ty).map (·.size) = some cs.size) :
    (results fn tmps).run P w = .ok (.tuple #[.agg cs, v]) w := by
  have hp' : tmps[p]?.getD undef = .pointer (some ⟨g, 0, none⟩) := by simpa using hp
  have hq' : tmps[q]?.getD undef = v := by simpa using hq
  simp [results, h, hp', hq', asAddr, run_loadVar_row w g t ty cs fr d hg hu hd hi]

set_option maxRecDepth 1000000 in
set_option maxHeartbeats 1000000 in
theorem wEat (A : Option Addr) (c : Nat) (s : List Nat) (blk : List UInt8) (w : World) (hp : Pr w) (hs : Is8 s) (ha : Rd w w.heap.size A 64 blk) (hc : 64 ≤ c) (hc' : c ≤ 9223372036854775807) :
    Calls Tryd.prog 9 #[.agg (arrN .u32 s), .slice A 64 c] w fun e w' => e = .returned (.tuple #[.agg (arrN .u32 (eatL s blk)), .int .i64 0]) ∧ Below w.heap.size w w' := by
  have HZ8 := Lib.hid (st_size (xs := zeros8) rfl)
  have HSS := Lib.hid (st_size hs.1)
  have HES := Lib.hid (st_size (eatL_8 s blk).1)
  have HE1 := Lib.hid (same_size (k := .u32) (xs := zeros8) (ys := eatL s blk) (eatL_8 s blk).1.symm)
  have hz := st_zero
  have N0 : Hid (NumAt 24 .u32 ((w.alloc (.cells (arrN .u32 s) 24)).alloc (.cells (arrN .u32 zeros8) 24)) w.heap.size s) := (two_nums _ .u32 w s zeros8).1
  have N1 : Hid (NumAt 24 .u32 ((w.alloc (.cells (arrN .u32 s) 24)).alloc (.cells (arrN .u32 zeros8) 24)) (w.heap.size + 1) zeros8) := (two_nums _ .u32 w s zeros8).2
  have B : Hid (Below w.heap.size w ((w.alloc (.cells (arrN .u32 s) 24)).alloc (.cells (arrN .u32 zeros8) 24))) := ((Below.refl _ _).alloc (Nat.le_refl _) _).alloc (by simp) _
  have HA := Lib.hid (ha.to B.out)
  have HP := Lib.hid (hp.to B.out)
  have HS := Lib.hid hs
  clear ha hp hs
  go_enter Tryd.func9, Tryd.ntmps9
  go_wp2_with fail
  clear hz
  generalize ((w.alloc (.cells (arrN .u32 s) 24)).alloc (.cells (arrN .u32 zeros8) 24)) = w0 at *
  replace HA : Hid (Rd w0.drew w0.drew.heap.size A 64 blk) := HA.out.drew'
  replace HP := Lib.hid HP.out.drew
  replace B := Lib.hid B.out.drew
  replace N0 := Lib.hid N0.out.drew
  replace N1 := Lib.hid N1.out.drew
  refine wp_region_held_drew (S := (fun w' => NumAt 24 .u32 w' w.heap.size s)) (by kernel_rfl) (N0.out) (fun hHeld => ?_)
  refine wpAnyH_take (i := 0) (v := .agg (arrN .u32 s)) rfl (by kernel_rfl) (by kernel_rfl) (by kernel_rfl) (fun _ _ _ h => h) (yieldsIf_load_row (by rfl) 24 _ rfl w.heap.size rfl 24 (arrN .u32 s) (0, 0) _ (fun _ h => h) Tryd.underlying24 rfl HSS.out) (by assumption) ?_
  simp only [Act.put, List.getElem_toArray, List.getElem_cons_zero, List.getElem_cons_succ, List.setIfInBounds_toArray, List.set_cons_zero, List.set_cons_succ]
  refine wpAnyH_take (i := 1) (v := ?_) rfl (by kernel_rfl) (by kernel_rfl) (by kernel_rfl) (fun _ _ _ h => h) (Or.inl ⟨by rfl, ?_⟩) (by assumption) ?_
  rotate_left 1
  · intro w hSw; (try dsimp only at hSw); go_simp; (try with_reducible rfl)
  simp only [Act.put, List.getElem_toArray, List.getElem_cons_zero, List.getElem_cons_succ, List.setIfInBounds_toArray, List.set_cons_zero, List.set_cons_succ]
  refine wpAnyH_ready (rs := [2]) (by kernel_rfl) (by simp) ?_
  refine AllReadyH.cons rfl (fun K hK => ?_) AllReadyH.nil
  go_simp
  refine (wConstants _ HP.out).mono ?_
  rintro e w5 ⟨rfl, hb⟩
  replace HA := Lib.hid (HA.out.to hb)
  replace N0 := Lib.hid (N0.out.to hb)
  replace N1 := Lib.hid (N1.out.to hb)
  replace B := Lib.hid (B.out.trans (hb.mono B.out.size))
  clear hb
  go_wp2_with fail
  refine hK.out _ _ (N0.out) (fun hHeld => ?_)
  clear hK K
  refine wpAnyH_ready (rs := [3]) (by kernel_rfl) (by simp) ?_
  refine AllReadyH.cons rfl (fun K hK => ?_) AllReadyH.nil
  go_simp
  refine (wEat8 A c s blk _ HS.out HA.out hc hc').mono ?_
  rintro e w6 ⟨rfl, hb⟩
  replace N0 := Lib.hid (N0.out.to hb)
  replace N1 := Lib.hid (N1.out.to hb)
  replace B := Lib.hid (B.out.trans (hb.mono B.out.size))
  clear hb
  go_wp2_with fail
  refine hK.out _ _ (N0.out) (fun hHeld => ?_)
  clear hK K
  refine wpAnyH_ready (rs := [4]) (by kernel_rfl) (by simp) ?_
  refine AllReadyH.cons rfl (fun K hK => ?_) AllReadyH.nil
  rw [if_pos (by rfl)]
  refine wp_store_row0 24 _ _ rfl rfl (w.heap.size + 1) (arrN .u32 (eatL s blk)) rfl rfl 24 _ N1.out HES.out HE1.out (arrN_one _ _) ?_
  refine hK.out _ _ ((N0.out.setRowOther _ (by omega))) (fun hHeld => ?_)
  clear hK K
  refine wpAnyH_take (i := 5) (v := ?_) rfl (by kernel_rfl) (by kernel_rfl) (by kernel_rfl) (fun _ _ _ h => h) (Or.inl ⟨by rfl, ?_⟩) (by assumption) ?_
  rotate_left 1
  · intro w hSw; (try dsimp only at hSw); go_simp; (try with_reducible rfl)
  simp only [Act.put, List.getElem_toArray, List.getElem_cons_zero, List.getElem_cons_succ, List.setIfInBounds_toArray, List.set_cons_zero, List.set_cons_succ]
  refine wpAnyH_done (by kernel_rfl) ?_ _
  replace N1 := Lib.hid (N1.out.setRow (xs := eatL s blk))
  replace B := Lib.hid (below_setRow B.out (Nat.le_succ _) (arrN .u32 (eatL s blk)) (g := w.heap.size + 1))
  generalize w6.setRow (w.heap.size + 1) (arrN .u32 (eatL s blk)) = w7 at *
  clear hHeld N0
  go_wp2_with fail
  (try simp only [Exit.inBlock, Exit.then])
  refine bodyPost_ret (v := .tuple #[.agg (arrN .u32 (eatL s blk)), .int .i64 0]) ?_ rfl ⟨rfl, B.out⟩
  exact results_cell_tmp rfl _ _ (w.heap.size + 1) 24 (arrN .u32 (eatL s blk)) (0, 0) _ _ rfl rfl N1.out Tryd.underlying24 rfl HES.out

set_option maxRecDepth 1000000 in
set_option maxHeartbeats 1000000 in
theorem wEatNo (A : Option Addr) (n c : Nat) (s : List Nat) (w : World) (hn : n ≠ 64) (hn' : n ≤ 140737488355328) :
    Calls Tryd.prog 9 #[.agg (arrN .u32 s), .slice A n c] w fun e w' => e = .returned (.tuple #[.agg (arrN .u32 zeros8), .int .i64 2]) ∧ Below w.heap.size w w' := by
  have HZ8 := Lib.hid (st_size (xs := zeros8) rfl)
  have hz := st_zero
  have N1 : Hid (NumAt 24 .u32 ((w.alloc (.cells (arrN .u32 s) 24)).alloc (.cells (arrN .u32 zeros8) 24)) (w.heap.size + 1) zeros8) := (two_nums _ .u32 w s zeros8).2
  have B : Hid (Below w.heap.size w ((w.alloc (.cells (arrN .u32 s) 24)).alloc (.cells (arrN .u32 zeros8) 24))) := ((Below.refl _ _).alloc (Nat.le_refl _) _).alloc (by simp) _
  have hn2 : ((n : Int) != 64) = true := by simp; omega
  go_enter Tryd.func9, Tryd.ntmps9
  have S1 := Lib.hid (same_size (k := .u32) (xs := zeros8) (ys := zeros8) rfl)
  go_wp2_with (refine wpList_store_row rfl 24 _ _ rfl (w.heap.size + 1) (arrN .u32 zeros8) rfl rfl 24 (arrN .u32 zeros8) N1.out HZ8.out S1.out (arrN_one _ _) ?_)
  (try simp only [Exit.inBlock, Exit.then])
  refine bodyPost_ret (v := .tuple #[.agg (arrN .u32 zeros8), .int .i64 2]) ?_ rfl ⟨rfl, below_setRow B.out (Nat.le_succ _) _⟩
  exact results_cell_tmp rfl _ _ (w.heap.size + 1) 24 (arrN .u32 zeros8) (0, 0) _ _ rfl rfl (setRow_heap _ _ _ _ _ _ N1.out) Tryd.underlying24 rfl HZ8.out

def AllRel (w : World) (s : List Nat) (bs : List UInt8) (m : Nat) (i : Value) (wr : World) : Prop :=
  ∃ k : Nat, k ≤ m ∧ i = .int .i64 ((64 * k : Nat) : Int) ∧ NumAt 24 .u32 wr w.heap.size (eatAll s bs k) ∧ NumAt 59 .u32 wr (w.heap.size + 1) shaK ∧
    NumAt 24 .u32 wr (w.heap.size + 1 + 1) zeros8 ∧ Below w.heap.size w wr

set_option maxRecDepth 1000000 in
set_option maxHeartbeats 1000000 in
theorem wEatAll (A : Option Addr) (n c m : Nat) (s : List Nat) (bs : List UInt8) (w : World) (hs : Is8 s) (ha : Rd w w.heap.size A n bs) (hm : n = 64 * m) (hc : n ≤ c) (hc' : c ≤ 9223372036854775807) (hn : n ≤ 2000000000) :
    Calls Tryd.prog 54 #[.agg (arrN .u32 s), .slice A n c, .agg (arrN .u32 shaK)] w fun e w' => e = .returned (.agg (arrN .u32 (eatAll s bs m))) ∧ Below w.heap.size w w' := by
  have hz := st_zero
  have HM := Lib.hid hm
  have HS8 := Lib.hid hs
  obtain ⟨h0, h1, h2, hb0⟩ := three_nums 24 59 24 w s shaK zeros8
  have N0 := Lib.hid h0
  have N1 := Lib.hid h1
  have N2 := Lib.hid h2
  have B := Lib.hid hb0
  have R := Lib.hid ha
  have HK64 := Lib.hid (k_size (xs := shaK) rfl)
  clear h0 h1 h2 hb0 ha hs hm
  go_enter Tryd.func54, Tryd.ntmps54
  go_wp2_with fail
  clear hz
  generalize (((w.alloc (.cells (arrN .u32 s) 24)).alloc (.cells (arrN .u32 shaK) 59)).alloc (.cells (arrN .u32 zeros8) 24)) = w0 at *
  go_loopw [7] (fun i wr => AllRel w s bs m i wr) (fun i _ => n - (intOf i).toNat)
  case atStart => exact ⟨0, Nat.zero_le _, rfl, N0.out, N1.out, N2.out, B.out⟩
  case round =>
    obtain ⟨k, hk, rfl, h0, h1, h2, hb⟩ := hrel
    clear N0 N1 N2 B
    have N0 := Lib.hid h0
    have N1 := Lib.hid h1
    have N2 := Lib.hid h2
    have B := Lib.hid hb
    have HK := Lib.hid hk
    have M := Lib.hid (R.out.to hb)
    obtain ⟨p, hp⟩ : ∃ p : Nat, p = 64 * k := ⟨_, rfl⟩
    rw [← hp]
    have HP := Lib.hid hp
    clear h0 h1 h2 hb hk hp
    have H8 := Lib.hid (eatAll_8 HS8.out bs k)
    by_cases hlt : p < n
    · have hkm : k < m := by have := HP.out; have := HM.out; omega
      have hp64 : p + 64 ≤ n := by have := HP.out; have := HM.out; omega
      obtain ⟨A5, c5, s5, hr5, hc5, hc5'⟩ := slice_lh isU8 A (l := p) (h := p + 64) (by omega) hp64 hc
      replace s5 := s5 .i64 .i64
      rw [show p + 64 - p = 64 from by omega] at s5 hr5 hc5
      have e1 : ((p + 64 : Nat) : Int) = (p : Int) + 64 := by omega
      rw [e1] at s5
      have R5 : Hid (Rd wr.drew wr.drew.heap.size A5 64 ((bs.take (p + 64)).drop p)) := (hr5 _ _ _ M.out)
      have HE : Hid (eatAll s bs (k + 1) = eatL (eatAll s bs k) ((bs.take (p + 64)).drop p)) := by rw [HP.out]; rfl
      have HKM := Lib.hid hkm
      have hw1 : IntKind.i64.wrap ((p : Int) + 64) = (p : Int) + 64 := IntWalk.i64_in _ (by omega)
      clear hr5 e1 hkm
      go_wp2_with fail
      replace N0 := Lib.hid N0.out.drew
      replace N1 := Lib.hid N1.out.drew
      replace N2 := Lib.hid N2.out.drew
      replace B := Lib.hid B.out.drew
      have HSS := Lib.hid (st_size H8.out.1)
      have HES := Lib.hid (st_size (eatL_8 (eatAll s bs k) ((bs.take (p + 64)).drop p)).1)
      have HE1 := Lib.hid (same_size (k := .u32) (xs := eatAll s bs k) (ys := eatL (eatAll s bs k) ((bs.take (p + 64)).drop p)) (by rw [H8.out.1, (eatL_8 _ _).1]))
      generalize (bs.take (p + 64)).drop p = blk at *
      obtain ⟨sk, hsk⟩ : ∃ sk, eatAll s bs k = sk := ⟨_, rfl⟩
      rw [hsk] at N0 HE H8 HSS HES HE1
      clear hsk
      refine wp_region_held_drew (S := (fun _ => True)) (by kernel_rfl) (trivial) (fun hHeld => ?_)
      refine wpAnyH_take (i := 1) (v := ?_) rfl (by kernel_rfl) (by kernel_rfl) (by kernel_rfl) (fun _ _ _ h => h) (Or.inl ⟨by rfl, ?_⟩) (by assumption) ?_
      rotate_left 1
      · intro w hSw; (try dsimp only at hSw); go_simp; (try with_reducible rfl)
      simp only [Act.put, List.getElem_toArray, List.getElem_cons_zero, List.getElem_cons_succ, List.setIfInBounds_toArray, List.set_cons_zero, List.set_cons_succ]
      refine wpAnyH_take (i := 2) (v := ?_) rfl (by kernel_rfl) (by kernel_rfl) (by kernel_rfl) (fun _ _ _ h => h) (Or.inl ⟨by rfl, ?_⟩) (by assumption) ?_
      rotate_left 1
      · intro w hSw; (try dsimp only at hSw); go_simp; (try with_reducible rfl)
      simp only [Act.put, List.getElem_toArray, List.getElem_cons_zero, List.getElem_cons_succ, List.setIfInBounds_toArray, List.set_cons_zero, List.set_cons_succ]
      refine wpAnyH_take (i := 3) (v := ?_) rfl (by kernel_rfl) (by kernel_rfl) (by kernel_rfl) (fun _ _ _ h => h) (Or.inl ⟨by rfl, ?_⟩) (by assumption) ?_
      rotate_left 1
      · intro w hSw; (try dsimp only at hSw); go_simp; (try with_reducible rfl)
      simp only [Act.put, List.getElem_toArray, List.getElem_cons_zero, List.getElem_cons_succ, List.setIfInBounds_toArray, List.set_cons_zero, List.set_cons_succ]
      refine wpAnyH_take (i := 4) (v := ?_) rfl (by kernel_rfl) (by kernel_rfl) (by kernel_rfl) (fun _ _ _ h => h) (Or.inl ⟨by rfl, ?_⟩) (by assumption) ?_
      rotate_left 1
      · intro w hSw; (try dsimp only at hSw); go_simp; (try with_reducible rfl)
      simp only [Act.put, List.getElem_toArray, List.getElem_cons_zero, List.getElem_cons_succ, List.setIfInBounds_toArray, List.set_cons_zero, List.set_cons_succ]
      refine wpAnyH_take (i := 5) (v := ?_) rfl (by kernel_rfl) (by kernel_rfl) (by kernel_rfl) (fun _ _ _ h => h) (Or.inl ⟨by rfl, ?_⟩) (by assumption) ?_
      rotate_left 1
      · intro w hSw; (try dsimp only at hSw); go_simp; (try with_reducible rfl)
      simp only [Act.put, List.getElem_toArray, List.getElem_cons_zero, List.getElem_cons_succ, List.setIfInBounds_toArray, List.set_cons_zero, List.set_cons_succ]
      refine wpAnyH_ready (rs := [0, 6]) (by kernel_rfl) (by simp) ?_
      refine AllReadyH.cons rfl (fun K hK => ?_) (AllReadyH.cons rfl (fun K hK => ?_) AllReadyH.nil)
      · skip
        rw [if_pos (by rfl)]
        refine wp_load_row 24 _ rfl w.heap.size rfl 24 (arrN .u32 sk) (0, 0) _ N0.out Tryd.underlying24 rfl HSS.out ?_
        refine hK.out _ _ trivial (fun hHeld => ?_)
        clear hK K
        simp only [Act.put, List.getElem_toArray, List.getElem_cons_zero, List.getElem_cons_succ, List.setIfInBounds_toArray, List.set_cons_zero, List.set_cons_succ]
        refine wpAnyH_ready (rs := [6]) (by kernel_rfl) (by simp) ?_
        refine AllReadyH.cons rfl (fun K hK => ?_) AllReadyH.nil
        rw [if_pos (by rfl)]
        refine wp_load_row 59 _ rfl (w.heap.size + 1) rfl 59 (arrN .u32 shaK) (0, 0) _ N1.out Tryd.underlying59 rfl HK64.out ?_
        refine hK.out _ _ trivial (fun hHeld => ?_)
        clear hK K
        simp only [Act.put, List.getElem_toArray, List.getElem_cons_zero, List.getElem_cons_succ, List.setIfInBounds_toArray, List.set_cons_zero, List.set_cons_succ]
        refine wpAnyH_ready (rs := [7]) (by kernel_rfl) (by simp) ?_
        refine AllReadyH.cons rfl (fun K hK => ?_) AllReadyH.nil
        go_simp
        refine (wEat8 A5 c5 sk blk _ H8.out R5.out hc5 (by omega)).mono ?_
        rintro e w6 ⟨rfl, hb⟩
        replace N0 := Lib.hid (N0.out.to hb)
        replace N1 := Lib.hid (N1.out.to hb)
        replace N2 := Lib.hid (N2.out.to hb)
        replace B := Lib.hid (B.out.trans (hb.mono B.out.size))
        clear hb
        go_wp2_with fail
        refine hK.out _ _ (trivial) (fun hHeld => ?_)
        clear hK K
        refine wpAnyH_ready (rs := [8]) (by kernel_rfl) (by simp) ?_
        refine AllReadyH.cons rfl (fun K hK => ?_) AllReadyH.nil
        rw [if_pos (by rfl)]
        refine wp_store_row0 24 _ _ rfl rfl w.heap.size (arrN .u32 (eatL sk blk)) rfl rfl 24 _ N0.out HES.out HE1.out (arrN_one _ _) ?_
        refine hK.out _ _ (trivial) (fun hHeld => ?_)
        clear hK K
        refine wpAnyH_done (by kernel_rfl) ?_ _
        have HF : Hid (AllRel w s bs m (.int .i64 ((p : Int) + 64)) (w6.setRow w.heap.size (arrN .u32 (eatL sk blk)))) :=
          ⟨k + 1, HKM.out, by have := HP.out; rw [show 64 * (k + 1) = p + 64 from by omega]; go_num, by rw [HE.out]; exact N0.out.setRow, N1.out.setRowOther _ (by omega), N2.out.setRowOther _ (by omega), below_setRow B.out (Nat.le_refl _) _⟩
        clear hHeld N0 N1 N2 B
        generalize w6.setRow w.heap.size (arrN .u32 (eatL sk blk)) = w7 at *
        go_wp2_with fail
        go_roundw
        case rel => exact HF.out
        case measure => simp [intOf]; omega
      · skip
        rw [if_pos (by rfl)]
        refine wp_load_row 59 _ rfl (w.heap.size + 1) rfl 59 (arrN .u32 shaK) (0, 0) _ N1.out Tryd.underlying59 rfl HK64.out ?_
        refine hK.out _ _ trivial (fun hHeld => ?_)
        clear hK K
        simp only [Act.put, List.getElem_toArray, List.getElem_cons_zero, List.getElem_cons_succ, List.setIfInBounds_toArray, List.set_cons_zero, List.set_cons_succ]
        refine wpAnyH_ready (rs := [0]) (by kernel_rfl) (by simp) ?_
        refine AllReadyH.cons rfl (fun K hK => ?_) AllReadyH.nil
        rw [if_pos (by rfl)]
        refine wp_load_row 24 _ rfl w.heap.size rfl 24 (arrN .u32 sk) (0, 0) _ N0.out Tryd.underlying24 rfl HSS.out ?_
        refine hK.out _ _ trivial (fun hHeld => ?_)
        clear hK K
        simp only [Act.put, List.getElem_toArray, List.getElem_cons_zero, List.getElem_cons_succ, List.setIfInBounds_toArray, List.set_cons_zero, List.set_cons_succ]
        refine wpAnyH_ready (rs := [7]) (by kernel_rfl) (by simp) ?_
        refine AllReadyH.cons rfl (fun K hK => ?_) AllReadyH.nil
        go_simp
        refine (wEat8 A5 c5 sk blk _ H8.out R5.out hc5 (by omega)).mono ?_
        rintro e w6 ⟨rfl, hb⟩
        replace N0 := Lib.hid (N0.out.to hb)
        replace N1 := Lib.hid (N1.out.to hb)
        replace N2 := Lib.hid (N2.out.to hb)
        replace B := Lib.hid (B.out.trans (hb.mono B.out.size))
        clear hb
        go_wp2_with fail
        refine hK.out _ _ (trivial) (fun hHeld => ?_)
        clear hK K
        refine wpAnyH_ready (rs := [8]) (by kernel_rfl) (by simp) ?_
        refine AllReadyH.cons rfl (fun K hK => ?_) AllReadyH.nil
        rw [if_pos (by rfl)]
        refine wp_store_row0 24 _ _ rfl rfl w.heap.size (arrN .u32 (eatL sk blk)) rfl rfl 24 _ N0.out HES.out HE1.out (arrN_one _ _) ?_
        refine hK.out _ _ (trivial) (fun hHeld => ?_)
        clear hK K
        refine wpAnyH_done (by kernel_rfl) ?_ _
        have HF : Hid (AllRel w s bs m (.int .i64 ((p : Int) + 64)) (w6.setRow w.heap.size (arrN .u32 (eatL sk blk)))) :=
          ⟨k + 1, HKM.out, by have := HP.out; rw [show 64 * (k + 1) = p + 64 from by omega]; go_num, by rw [HE.out]; exact N0.out.setRow, N1.out.setRowOther _ (by omega), N2.out.setRowOther _ (by omega), below_setRow B.out (Nat.le_refl _) _⟩
        clear hHeld N0 N1 N2 B
        generalize w6.setRow w.heap.size (arrN .u32 (eatL sk blk)) = w7 at *
        go_wp2_with fail
        go_roundw
        case rel => exact HF.out
        case measure => simp [intOf]; omega
    · obtain rfl : k = m := by have := HP.out; have := HM.out; have := HK.out; omega
      obtain ⟨zs, hzs⟩ : ∃ zs, eatAll s bs k = zs := ⟨_, rfl⟩
      rw [hzs] at N0 H8
      have HZS := Lib.hid hzs
      clear hzs
      have S1 := Lib.hid (st_size H8.out.1)
      have E1 := Lib.hid (same_size (k := .u32) (xs := zeros8) (ys := zs) (by rw [H8.out.1]; exact List.length_replicate))
      go_wp2_with (first | (refine wpList_load_row rfl 24 _ rfl w.heap.size rfl 24 (arrN .u32 zs) (0, 0) _ N0.out Tryd.underlying24 rfl S1.out ?_) | (refine wpList_store_row rfl 24 _ _ rfl (w.heap.size + 1 + 1) (arrN .u32 zs) rfl rfl 24 (arrN .u32 zeros8) N2.out S1.out E1.out (arrN_one _ _) ?_))
      (try simp only [Exit.inBlock, Exit.then])
      refine bodyPost_ret (v := .agg (arrN .u32 zs)) ?_ rfl ⟨by rw [HZS.out], below_setRow B.out (by omega) _⟩
      exact results_cell_row rfl _ _ (w.heap.size + 1 + 1) 24 (arrN .u32 zs) (0, 0) _ rfl (setRow_heap _ _ _ _ _ _ N2.out) Tryd.underlying24 rfl S1.out
end Go.Proofs.YtbgcnhhdgnalgaaDoor
