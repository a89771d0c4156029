/- Contracts of the program's Eat, eatAll, Tail, Print, digest, Sum, Chain, Hex (sha). -/
import Derived.Test.YtopilgedcnbdaaaDoorTz
import Derived.Test.YtopilgedcnbdaaaDoorShaE
import Derived.Test.YtopilgedcnbdaaaDoorShaRefC
import Derived.Test.YtopilgedcnbdaaaDoorShaRefH
import Derived.Test.YtopilgedcnbdaaaDoorPad
import Derived.Deep.RegionHeld
namespace Go.Proofs.YtopilgedcnbdaaaDoor
set_option maxRecDepth 1000000
set_option maxHeartbeats 8000000
open Go.RowKit
set_option linter.unusedVariables false
set_option linter.unusedSimpArgs false
theorem yieldsIf_load_row {P : Program} {ops : Array Oper} {S : World → Prop} {op : Oper} {a : Act} (hw : Region.wanted op (yielded ops a.tmps) = true) (ty : TypeId) (x : Operand) (ho : op.op = .load ty x)
  (g : Nat) (hx : a.eval x = .pointer (some ⟨g, 0, none⟩)) (t : TypeId) (cs : Array Value) (fr : Nat × Nat) (d : TypeDesc) (hS : ∀ w, S w → w.heap[g]? = some (.cells cs t fr))
  (hu : P.underlying ty = some d) (hd : (match d with | .struct _ | .array _ _ => true | _ => false) = true) (hi : (P.info? ty).map (·.size) = some cs.size) : YieldsIf P ops S op (.agg cs) a :=
 .inl ⟨hw, fun w hw' => by
  unfold execOp
  simp only [ho, hx, Instr.loadAt, Instr.sureAddr, Sem.run_bind, Sem.run_pure, Result.andThen_ok, run_loadVar_row w g t ty cs fr d (hS w hw') hu hd hi]⟩
theorem wp_store_row0 {P : Program} {o : Oper} {a : Act} {w : World} {K : Act → World → Prop} {Q : Exit → Act → World → Prop} (ty : TypeId) (x y : Operand) (ho : o.op = .store ty x y) (hd : o.dst = none)
  (g : Nat) (cells : Array Value) (hx : a.eval x = .pointer (some ⟨g, 0, none⟩)) (hy : a.eval y = .agg cells)
  (t : TypeId) (old : Array Value) (hg : w.heap[g]? = some (.cells old t (0, 0))) (hi : (P.info? ty).map (·.size) = some cells.size)
  (hold : old.size = cells.size) (h1 : cells.all (·.oneCell') = true) (h : K a (w.setRow g cells)) : o.wp P a w K Q :=
 wp_store_row ty x y ho g cells hx hy t old hg hi hold h1 (by rw [hd]; exact h)
theorem step_load_row {P : Program} {ops : Array Oper} {o : Oper} {a : Act} {w : World} {K : Act → World → Prop} {Q : Exit → Act → World → Prop} {E : Prop} (hgd : o.guard = none) (ty : TypeId) (x : Operand) (ho : o.op = .load ty x)
  (g : Nat) (hx : a.eval x = .pointer (some ⟨g, 0, none⟩)) (t : TypeId) (cs : Array Value) (fr : Nat × Nat) (d : TypeDesc) (hg : w.heap[g]? = some (.cells cs t fr))
  (hu : P.underlying ty = some d) (hd : (match d with | .struct _ | .array _ _ => true | _ => false) = true) (hi : (P.info? ty).map (·.size) = some cs.size)
  (h : K (a.put o.dst (.agg cs)) w) : if Region.wanted o (yielded ops a.tmps) = true then Oper.wp P o a w K Q else E := by
 rw [if_pos (by unfold Region.wanted; rw [hgd])]
 exact wp_load_row ty x ho g hx t cs fr d hg hu hd hi h
theorem step_store_row {P : Program} {ops : Array Oper} {o : Oper} {a : Act} {w : World} {K : Act → World → Prop} {Q : Exit → Act → World → Prop} {E : Prop} (hgd : o.guard = none) (ty : TypeId) (x y : Operand) (ho : o.op = .store ty x y)
  (g : Nat) (cells : Array Value) (hx : a.eval x = .pointer (some ⟨g, 0, none⟩)) (hy : a.eval y = .agg cells)
  (t : TypeId) (old : Array Value) (hg : w.heap[g]? = some (.cells old t (0, 0))) (hi : (P.info? ty).map (·.size) = some cells.size)
  (hold : old.size = cells.size) (h1 : cells.all (·.oneCell') = true) (h : K (a.put o.dst undef) (w.setRow g cells)) : if Region.wanted o (yielded ops a.tmps) = true then Oper.wp P o a w K Q else E := by
 rw [if_pos (by unfold Region.wanted; rw [hgd])]
 exact wp_store_row ty x y ho g cells hx hy t old hg hi hold h1 h
theorem results_cell_tmp {P : Program} {fn : Func} {p q : Tmp} {ty : TypeId} (h : fn.results = #[.cell p ty, .tmp q]) (tmps : Array Value) (w : World) (g : Nat) (t : TypeId) (cs : Array Value) (fr : Nat × Nat) (d : TypeDesc) (v : Value)
  (hp : tmps.getD p undef = .pointer (some ⟨g, 0, none⟩)) (hq : tmps.getD q undef = v) (hg : w.heap[g]? = some (.cells cs t fr))
  (hu : P.underlying ty = some d) (hd : (match d with | .struct _ | .array _ _ => true | _ => false) = true) (hi : (P.info? ty).map (·.size) = some cs.size) :
  (results fn tmps).run P w = .ok (.tuple #[.agg cs, v]) w := by
 have hp' : tmps[p]?.getD undef = .pointer (some ⟨g, 0, none⟩) := by simpa using hp
 have hq' : tmps[q]?.getD undef = v := by simpa using hq
 simp [results, h, hp', hq', asAddr, run_loadVar_row w g t ty cs fr d hg hu hd hi]
def AllRel (w : World) (s : List Nat) (bs : List UInt8) (m : Nat) (i : Value) (wr : World) : Prop :=
 ∃ k : Nat, k ≤ m ∧ i = .int .i64 ((64 * k : Nat) : Int) ∧ NumAt 81 .u32 wr w.heap.size (eatAll s bs k) ∧ NumAt 66 .u32 wr (w.heap.size + 1) shaK ∧
  NumAt 81 .u32 wr (w.heap.size + 1 + 1) zeros8 ∧ Below w.heap.size w wr
theorem wEatAll (A : Option Addr) (n c m : Nat) (s : List Nat) (bs : List UInt8) (w : World) (hs : Is8 s) (ha : Rd w w.heap.size A n bs) (hm : n = 64 * m) (hc : n ≤ c) (hc' : c ≤ 9223372036854775807) (hn : n ≤ 2000000000) :
  Calls Tryd.prog 32 #[.agg (arrN .u32 s), .slice A n c, .agg (arrN .u32 shaK)] w fun e w' => e = .returned (.agg (arrN .u32 (eatAll s bs m))) ∧ Below w.heap.size w w' := by
 have hz := st_zero
 have HM := qH hm
 have HS8 := qH hs
 obtain ⟨h0, h1, h2, hb0⟩ := three_nums 81 66 81 w s shaK zeros8
 have N0 := qH h0
 have N1 := qH h1
 have N2 := qH h2
 have B := qH hb0
 have R := qH ha
 have HK64 := qH (k_size (xs := shaK) rfl)
 clear h0 h1 h2 hb0 ha hs hm
 go_enter Tryd.func32, Tryd.ntmps32
 go_wp2_with fail
 clear hz
 generalize (((w.alloc (.cells (arrN .u32 s) 81)).alloc (.cells (arrN .u32 shaK) 66)).alloc (.cells (arrN .u32 zeros8) 81)) = w0 at *
 go_loopw [7] (fun i wr => AllRel w s bs m i wr) (fun i _ => n - (intOf i).toNat)
 case atStart => exact ⟨0, Nat.zero_le _, rfl, N0.out, N1.out, N2.out, B.out⟩
 case round =>
  obtain ⟨k, hk, rfl, h0, h1, h2, hb⟩ := hrel
  clear N0 N1 N2 B
  have N0 := qH h0
  have N1 := qH h1
  have N2 := qH h2
  have B := qH hb
  have HK := qH hk
  have M := qH (R.out.to hb)
  obtain ⟨p, hp⟩ : ∃ p : Nat, p = 64 * k := ⟨_, rfl⟩
  rw [← hp]
  have HP := qH hp
  clear h0 h1 h2 hb hk hp
  have H8 := qH (eatAll_8 HS8.out bs k)
  by_cases hlt : p < n
  ·have hkm : k < m := by have := HP.out; have := HM.out; omega
   have hp64 : p + 64 ≤ n := by have := HP.out; have := HM.out; omega
   obtain ⟨A5, c5, s5, hr5, hc5, hc5'⟩ := slice_lh isU8 A (l := p) (h := p + 64) (by omega) hp64 hc
   replace s5 := s5 .i64 .i64
   rw [show p + 64 - p = 64 from by omega] at s5 hr5 hc5
   have e1 : ((p + 64 : Nat) : Int) = (p : Int) + 64 := by omega
   rw [e1] at s5
   have R5 : Hid (Rd wr.drew wr.drew.heap.size A5 64 ((bs.take (p + 64)).drop p)) := (hr5 _ _ _ M.out)
   have HE : Hid (eatAll s bs (k + 1) = eatL (eatAll s bs k) ((bs.take (p + 64)).drop p)) := by rw [HP.out]; rfl
   have HKM := qH hkm
   have hw1 : IntKind.i64.wrap ((p : Int) + 64) = (p : Int) + 64 := IntWalk.i64_in _ (by omega)
   clear hr5 e1 hkm
   go_wp2_with fail
   replace N0 := qH N0.out.drew
   replace N1 := qH N1.out.drew
   replace N2 := qH N2.out.drew
   replace B := qH B.out.drew
   have HSS := qH (st_size H8.out.1)
   have HES := qH (st_size (eatL_8 (eatAll s bs k) ((bs.take (p + 64)).drop p)).1)
   have HE1 := qH (same_size (k := .u32) (xs := eatAll s bs k) (ys := eatL (eatAll s bs k) ((bs.take (p + 64)).drop p)) (by rw [H8.out.1, (eatL_8 _ _).1]))
   generalize (bs.take (p + 64)).drop p = blk at *
   obtain ⟨sk, hsk⟩ : ∃ sk, eatAll s bs k = sk := ⟨_, rfl⟩
   rw [hsk] at N0 HE H8 HSS HES HE1
   clear hsk
   refine wp_region_held_drew (S := (fun _ => True)) (by kernel_rfl) (trivial) (fun hHeld => ?_)
   refine tk 1 ?_
   simp only [pR]
   refine tk 2 ?_
   simp only [pR]
   refine tk 3 ?_
   simp only [pR]
   refine tk 4 ?_
   simp only [pR]
   refine tk 5 ?_
   simp only [pR]
   refine wpAnyH_ready (rs := [0, 6]) (by kernel_rfl) (by simp) ?_
   refine AllReadyH.cons rfl (fun K hK => ?_) (AllReadyH.cons rfl (fun K hK => ?_) AllReadyH.nil)
   ·skip
    rw [if_pos (by rfl)]
    refine wp_load_row 81 _ rfl w.heap.size rfl 81 (arrN .u32 sk) (0, 0) _ N0.out Tryd.underlying81 rfl HSS.out ?_
    refine hK.out _ _ trivial (fun hHeld => ?_)
    clear hK K
    simp only [pR]
    refine rd1 6 (fun K hK => ?_)
    rw [if_pos (by rfl)]
    refine wp_load_row 66 _ rfl (w.heap.size + 1) rfl 66 (arrN .u32 shaK) (0, 0) _ N1.out Tryd.underlying66 rfl HK64.out ?_
    refine hK.out _ _ trivial (fun hHeld => ?_)
    clear hK K
    simp only [pR]
    refine rd1 7 (fun K hK => ?_)
    go_simp
    refine (wEat8 A5 c5 sk blk _ H8.out R5.out hc5 (by omega)).mono ?_
    rintro e w6 ⟨rfl, hb⟩
    replace N0 := qH (N0.out.to hb)
    replace N1 := qH (N1.out.to hb)
    replace N2 := qH (N2.out.to hb)
    replace B := qH (B.out.trans (hb.mono B.out.size))
    clear hb
    go_wp2_with fail
    refine hK.out _ _ (trivial) (fun hHeld => ?_)
    clear hK K
    refine rd1 8 (fun K hK => ?_)
    rw [if_pos (by rfl)]
    refine wp_store_row0 81 _ _ rfl rfl w.heap.size (arrN .u32 (eatL sk blk)) rfl rfl 81 _ N0.out HES.out HE1.out (arrN_one _ _) ?_
    refine hK.out _ _ (trivial) (fun hHeld => ?_)
    clear hK K
    refine wpAnyH_done (by kernel_rfl) ?_ _
    have HF : Hid (AllRel w s bs m (.int .i64 ((p : Int) + 64)) (w6.setRow w.heap.size (arrN .u32 (eatL sk blk)))) :=
     ⟨k + 1, HKM.out, by have := HP.out; rw [show 64 * (k + 1) = p + 64 from by omega]; go_num, by rw [HE.out]; exact N0.out.setRow, N1.out.setRowOther _ (by omega), N2.out.setRowOther _ (by omega), below_setRow B.out (Nat.le_refl _) _⟩
    clear hHeld N0 N1 N2 B
    generalize w6.setRow w.heap.size (arrN .u32 (eatL sk blk)) = w7 at *
    go_wp2_with fail
    go_roundw
    case rel => exact HF.out
    case measure => simp [intOf]; omega
   ·skip
    rw [if_pos (by rfl)]
    refine wp_load_row 66 _ rfl (w.heap.size + 1) rfl 66 (arrN .u32 shaK) (0, 0) _ N1.out Tryd.underlying66 rfl HK64.out ?_
    refine hK.out _ _ trivial (fun hHeld => ?_)
    clear hK K
    simp only [pR]
    refine rd1 0 (fun K hK => ?_)
    rw [if_pos (by rfl)]
    refine wp_load_row 81 _ rfl w.heap.size rfl 81 (arrN .u32 sk) (0, 0) _ N0.out Tryd.underlying81 rfl HSS.out ?_
    refine hK.out _ _ trivial (fun hHeld => ?_)
    clear hK K
    simp only [pR]
    refine rd1 7 (fun K hK => ?_)
    go_simp
    refine (wEat8 A5 c5 sk blk _ H8.out R5.out hc5 (by omega)).mono ?_
    rintro e w6 ⟨rfl, hb⟩
    replace N0 := qH (N0.out.to hb)
    replace N1 := qH (N1.out.to hb)
    replace N2 := qH (N2.out.to hb)
    replace B := qH (B.out.trans (hb.mono B.out.size))
    clear hb
    go_wp2_with fail
    refine hK.out _ _ (trivial) (fun hHeld => ?_)
    clear hK K
    refine rd1 8 (fun K hK => ?_)
    rw [if_pos (by rfl)]
    refine wp_store_row0 81 _ _ rfl rfl w.heap.size (arrN .u32 (eatL sk blk)) rfl rfl 81 _ N0.out HES.out HE1.out (arrN_one _ _) ?_
    refine hK.out _ _ (trivial) (fun hHeld => ?_)
    clear hK K
    refine wpAnyH_done (by kernel_rfl) ?_ _
    have HF : Hid (AllRel w s bs m (.int .i64 ((p : Int) + 64)) (w6.setRow w.heap.size (arrN .u32 (eatL sk blk)))) :=
     ⟨k + 1, HKM.out, by have := HP.out; rw [show 64 * (k + 1) = p + 64 from by omega]; go_num, by rw [HE.out]; exact N0.out.setRow, N1.out.setRowOther _ (by omega), N2.out.setRowOther _ (by omega), below_setRow B.out (Nat.le_refl _) _⟩
    clear hHeld N0 N1 N2 B
    generalize w6.setRow w.heap.size (arrN .u32 (eatL sk blk)) = w7 at *
    go_wp2_with fail
    go_roundw
    case rel => exact HF.out
    case measure => simp [intOf]; omega
  ·obtain rfl : k = m := by have := HP.out; have := HM.out; have := HK.out; omega
   obtain ⟨zs, hzs⟩ : ∃ zs, eatAll s bs k = zs := ⟨_, rfl⟩
   rw [hzs] at N0 H8
   have HZS := qH hzs
   clear hzs
   have S1 := qH (st_size H8.out.1)
   have E1 := qH (same_size (k := .u32) (xs := zeros8) (ys := zs) (by rw [H8.out.1]; exact List.length_replicate))
   go_wp2_with (first | (refine wpList_load_row rfl 81 _ rfl w.heap.size rfl 81 (arrN .u32 zs) (0, 0) _ N0.out Tryd.underlying81 rfl S1.out ?_) | (refine wpList_store_row rfl 81 _ _ rfl (w.heap.size + 1 + 1) (arrN .u32 zs) rfl rfl 81 (arrN .u32 zeros8) N2.out S1.out E1.out (arrN_one _ _) ?_))
   (try simp only [Exit.inBlock, Exit.then])
   refine bodyPost_ret (v := .agg (arrN .u32 zs)) ?_ rfl ⟨by rw [HZS.out], below_setRow B.out (by omega) _⟩
   exact results_cell_row rfl _ _ (w.heap.size + 1 + 1) 81 (arrN .u32 zs) (0, 0) _ rfl (setRow_heap _ _ _ _ _ _ N2.out) Tryd.underlying81 rfl S1.out
end Go.Proofs.YtopilgedcnbdaaaDoor