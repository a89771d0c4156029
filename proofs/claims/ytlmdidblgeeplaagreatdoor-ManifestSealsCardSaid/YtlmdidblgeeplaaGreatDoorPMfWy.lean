/- Several texts in one (a claim has 60 files at most): MfW. -/
import Derived.Test.YtlmdidblgeeplaaGreatDoorTz
import Derived.Test.YtlmdidblgeeplaaGreatDoorPMfLy
import Derived.Test.YtlmdidblgeeplaaGreatDoorPCfLcx
import Derived.Test.YtlmdidblgeeplaaGreatDoorPCfWrx
import Derived.Test.YtlmdidblgeeplaaGreatDoorPInvRx
import Derived.Deep.DeepCutAuto
namespace Go.Proofs.YtlmdidblgeeplaaGreatDoor
set_option maxRecDepth 1000000
set_option maxHeartbeats 8000000
set_option linter.unusedVariables false
set_option linter.unusedSimpArgs false
section
open Go Go.RowKit
theorem OwX.win {w : World} {B : Nat} {v : CV} {qs : List QP} (h : OwX w B v exCf qs) : ∃ gw, v.aw = some ⟨gw, 0, none⟩ ∧ B ≤ gw ∧ gw < w.heap.size ∧ v.nw = 1 ∧ w.cell? ⟨gw, 1, none⟩ = some (.int .i64 1) ∧ w.frozen? ⟨gw, 1, none⟩ = false ∧ RdCf (w.setCell ⟨gw, 1, none⟩ (.int .i64 2)) (w.setCell ⟨gw, 1, none⟩ (.int .i64 2)).heap.size v exCw := by
 have hn : v.nw = 1 := by
  have := h.ww.1
  simp [exCf, winsV, regL] at this
  omega
 obtain ⟨gw, hA, hB, hlt, hf, hc⟩ := own_frV h.ww (by omega)
 have hob : (Value.slice v.aw v.nw v.kw).ownBlock = some gw := by rw [hA]; rfl
 have hk : Keep (· = gw) w (w.setCell ⟨gw, 1, none⟩ (.int .i64 2)) := (Keep.refl _ _).setCell _ _ rfl
 have hw := h.ww
 rw [hA] at hw
 have hw' := own_cellV hw (i := 1) (by omega) (.int .i64 2)
 rw [← hA] at hw'
 have hX : OwX (w.setCell ⟨gw, 1, none⟩ (.int .i64 2)) B v exCw qs := by
  refine ⟨hw', h.pp.kept hk (fun b hb e => ?_) (fun q hq => h.offw q hq gw hob), h.hq, own_kv h.cc hk (fun b hb e => ?_), h.offw, h.offc⟩
  ·rw [e] at hb
   exact own_ne h.pp.row h.ww (by decide) hb hob
  ·rw [e] at hb
   exact own_ne h.cc h.ww (by decide) hb hob
 exact ⟨gw, hA, hB, hlt, hn, hc 1 _ rfl, hf 1, hX.cf.rd⟩
theorem MB.own {w : World} {g : Nat} {m : Mf} {v : CV} (h : MB w g m v) : w.ownsRow 0 30 69 (.slice (some ⟨g, 0, none⟩) 1 1) 1 (mfL m v) := by
 have h' : w.heap[g]? = some (.cells (mfL m v).toArray 30 (0, 0)) := h.2
 have hl := mfL_len h.1 v
 refine ⟨by omega, .inr ⟨g, 1, (mfL m v).toArray, rfl, Nat.zero_le _, h', Nat.le_refl _, by unfold maxLen; omega, by simp [hl], ?_⟩⟩
 show (mfL m v).take (1 * 69) = mfL m v
 rw [List.take_of_length_le (by omega)]
theorem OwX.keptM {w w' : World} {B g : Nat} {v v' : CV} {m : Mf} {qs : List QP} (h : OwX w B v exCf qs) (hm : MB w g m v') (hk : Keep (· = g) w w') : OwX w' B v exCf qs := by
 have h0 : ∀ q ∈ qs, q.m = 0 := fun q hq => by
  have h1 : q.p ∈ exCf.ps := by rw [← h.hq]; exact List.mem_map_of_mem hq
  have h2 : q.p = shP := List.mem_singleton.1 h1
  have h3 := ((h.pp.img q hq).own).1.1
  rw [h2] at h3
  exact h3.symm
 refine ⟨own_kv h.ww hk (fun b hb e => ?_), h.pp.kept hk (fun b hb e => ?_) (fun q hq hn => ?_), h.hq, own_kv h.cc hk (fun b hb e => ?_), h.offw, h.offc⟩
 ·rw [e] at hb; exact own_ne h.ww hm.own (by decide) hb rfl
 ·rw [e] at hb; exact own_ne h.pp.row hm.own (by decide) hb rfl
 ·rw [h0 q hq] at hn; exact absurd hn (Nat.lt_irrefl 0)
 ·rw [e] at hb; exact own_ne h.cc hm.own (by decide) hb rfl
theorem OwX.neM {w : World} {B g gw : Nat} {v v' : CV} {m : Mf} {qs : List QP} (h : OwX w B v exCf qs) (hm : MB w g m v') (hA : v.aw = some ⟨gw, 0, none⟩) : g ≠ gw := fun e => by
 have hob : (Value.slice v.aw v.nw v.kw).ownBlock = some gw := by rw [hA]; rfl
 subst e
 exact own_ne h.ww hm.own (by decide) hob rfl
theorem two_zero (w : World) : ∃ w2, (w.alloc (.cells (mfL Mf.zero nilV).toArray 30)).alloc (.cells (mfL Mf.zero nilV).toArray 30) = w2 ∧ Below w.heap.size w w2 ∧ MB w2 w.heap.size Mf.zero nilV ∧ MB w2 (w.heap.size + 1) Mf.zero nilV ∧ w2.heap.size = w.heap.size + 2 := by
 obtain ⟨w2, h1, h2, h3, h4, _, _⟩ := mf_two w (v := nilV) (v' := nilV) (a := Mf.zero) (b := Mf.zero) (RdM.zero _ _) (RdM.zero _ _)
 exact ⟨w2, h1, h2, h3, h4, by rw [← h1]; simp⟩
theorem told_seal {m : Mf} (hc : canM m = true) : toldM m true = checkM keyB exR (bytesM (sealM keyB m)) := by
 unfold toldM prBM
 rw [if_pos rfl, if_pos (seal_can hc)]
theorem told_no {m : Mf} (hc : canM m = true) : toldM m false = checkM keyB exR (bytesM m) := by
 unfold toldM prBM
 rw [if_neg (show ¬ (false = true) by decide), if_pos hc]
theorem ex_rightR : rightM keyB exR = true := by
 rw [← ex_seal]
 exact right_seal (ex_can (by decide) (by decide))
section
variable {P : Program} {md : Region.Mode} {ops : Array Oper} {Q : Exit → Act → World → Prop}
def lastC (md : Region.Mode) (ops : Array Oper) (lo n : Nat) : Bool := (List.range ops.size).all fun j => decide (j < n) || (List.range n).all fun i => decide (i < lo) || (depsOf md ops j).any fun m => m == i || (depsOf md ops m).contains i
theorem last_notC {lo n j j0 : Nat} {L : Array Bool} (hlast : lastC md ops lo n = true) (hc : Closed md ops L) (hj : j ∈ Region.ready md ops L) (hj0 : j0 < n) (hlo : lo ≤ j0) (hu : L.getD j0 false = false) : j < n := by
 obtain ⟨_, o, ho, hall⟩ := mem_ready.1 hj
 have hjlt : j < ops.size := (Array.getElem?_eq_some_iff.1 ho).1
 rcases Nat.lt_or_ge j n with g | g
 ·exact g
 ·unfold lastC at hlast
  rw [List.all_eq_true] at hlast
  have := hlast j (List.mem_range.2 hjlt)
  rw [decide_eq_false (by omega), Bool.false_or, List.all_eq_true] at this
  have h1 := this j0 (List.mem_range.2 hj0)
  rw [decide_eq_false (by omega), Bool.false_or, List.any_eq_true] at h1
  obtain ⟨m, hm, h2⟩ := h1
  obtain ⟨e, he, hb, rfl⟩ := (mem_depsOf ho).1 hm
  have hl := hall e he hb
  rw [Bool.or_eq_true, beq_iff_eq, List.contains_iff_mem] at h2
  rcases h2 with h2 | h2
  ·rw [h2, hu] at hl; cases hl
  ·have := hc _ hl _ h2
   rw [hu] at this; cases this
theorem wpAnyH_invL {lo n : Nat} {ds : List Tmp} {spec : Nat → Value → World → Prop} {rel : Nat → Value → Nat → Value → Prop} {S : World → Prop} {a : Act} {Lf : Array Bool} (hn : n ≤ ops.size) (hlen : ds.length = n) (hdep : depsB md ops n = true) (hlast : lastC md ops lo n = true) (hLf : listB ops.size n Lf = true)
  (mono : ∀ i v w w1, i < n → spec i v w → Below w.heap.size w w1 → spec i v w1) (step : ∀ j, j < n → StepJ P md ops Q n S ds spec rel a j)
  (fin : ∀ xs w, xs.length = n → S w → (∀ i, i < n → spec i (xs.getD i undef) w) → (∀ i j, i < n → j < n → i ≠ j → rel i (xs.getD i undef) j (xs.getD j undef) ∨ rel j (xs.getD j undef) i (xs.getD i undef)) → wpAnyH P md ops Q S (ops.size - n) Lf (Xs a ds xs) w) :
  ∀ (c : Nat) (L : Array Bool) (xs : List Value) (w : World), (∀ i, i < lo → L.getD i false = true) → Closed md ops L → L.size = ops.size → (∀ j, n ≤ j → j < ops.size → L.getD j false = false) → leftN L n = c → xs.length = n → S w → (∀ i, i < n → L.getD i false = true → spec i (xs.getD i undef) w) →
   (∀ i j, i < n → j < n → i ≠ j → L.getD i false = true → L.getD j false = true → rel i (xs.getD i undef) j (xs.getD j undef) ∨ rel j (xs.getD j undef) i (xs.getD i undef)) → wpAnyH P md ops Q S (c + (ops.size - n)) L (Xs a ds xs) w
 | 0, L, xs, w, _, _, hs, hl, hc, hx, hS, hi, hr => by
  have hall := leftN_zero hc
  have e : L = Lf := by
   unfold listB at hLf
   simp only [Bool.and_eq_true, beq_iff_eq, List.all_eq_true, List.mem_range] at hLf
   refine Array.ext (by rw [hs, hLf.1]) (fun j h1 h2 => ?_)
   have h3 := hLf.2 j (by omega)
   have e1 : L[j] = L.getD j false := by simp [Array.getElem?_eq_getElem h1]
   have e2 : Lf[j] = Lf.getD j true := by simp [Array.getElem?_eq_getElem h2]
   rw [e1, e2, h3]
   by_cases hj : j < n
   ·rw [hall j hj, decide_eq_true hj]
   ·rw [hl j (by omega) (by omega), decide_eq_false hj]
  rw [e, Nat.zero_add]
  exact fin xs w hx hS (fun i hin => hi i hin (hall i hin)) (fun i j h1 h2 h3 => hr i j h1 h2 h3 (hall i h1) (hall j h2))
 | c + 1, L, xs, w, hlo, hcl, hs, hl, hc, hx, hS, hi, hr => by
  obtain ⟨j0, hj0, hu0, hb0⟩ := leftN_pos (L := L) (n := n) (by omega)
  have hr0 : j0 ∈ Region.ready md ops L := by
   have hlt : j0 < ops.size := by omega
   refine mem_ready.2 ⟨by rw [getD_in (by omega)]; exact hu0, ops[j0], Array.getElem?_eq_getElem hlt, fun e he hb => hb0 _ ?_⟩
   unfold depsB at hdep
   rw [List.all_eq_true] at hdep
   have := hdep j0 (List.mem_range.2 hj0)
   rw [Array.getElem?_eq_getElem hlt] at this
   simp only [Array.all_eq_true_iff_forall_mem, Bool.or_eq_true, Bool.not_eq_true', decide_eq_true_eq] at this
   rcases this e he with h | h
   ·rw [hb] at h; cases h
   ·exact h
  rw [show c + 1 + (ops.size - n) = (c + (ops.size - n)) + 1 by omega]
  refine ⟨fun h => absurd hr0 (by rw [h]; exact List.not_mem_nil), fun j hj => ?_⟩
  obtain ⟨hju, o, ho, hjd⟩ := mem_ready.1 hj
  have hjlt : j < ops.size := (Array.getElem?_eq_some_iff.1 ho).1
  have hjl : lo ≤ j0 := Nat.le_of_not_lt fun hh => by rw [hlo j0 hh] at hu0; cases hu0
  have hjn : j < n := last_notC hlast hcl hj hj0 hjl hu0
  refine wpOp_mono ?_ (step j hjn xs w (by omega) hS (fun o' ho' e he hb => ?_))
  ·rintro a1 w1 ⟨v, rfl, hS1, hsp, hrl, hbel⟩
   have same : (xs.set j v).getD j undef = v := by simp [List.getD, hx, hjn]
   have other : ∀ i, i ≠ j → (xs.set j v).getD i undef = xs.getD i undef := fun i hij => by simp [List.getD, List.getElem?_set_ne (Ne.symm hij)]
   have listed : ∀ i, i ≠ j → (L.setIfInBounds j true).getD i false = true → L.getD i false = true := fun i hij h => by rwa [getD_set_ne false (Ne.symm hij)] at h
   have hjlo : ∀ i, i < lo → (L.setIfInBounds j true).getD i false = true := fun i hi2 => by
    by_cases hij : i = j
    ·have h9 := hlo i hi2
     rw [hij] at h9
     have h8 := hju
     rw [getD_in (by omega), h9] at h8
     cases h8
    ·rw [getD_set_ne false (Ne.symm hij)]; exact hlo i hi2
   refine ⟨hS1, wpAnyH_invL hn hlen hdep hlast hLf mono step fin c (L.setIfInBounds j true) (xs.set j v) w1 hjlo (hcl.set hj) (by simpa using hs) (fun i h1 h2 => ?_) ?_ (by simpa using hx) hS1 (fun i hin hli => ?_) (fun i k h1 h2 h3 h4 h5 => ?_)⟩
   ·rw [getD_set_ne false (by omega)]; exact hl i h1 h2
   ·have := leftN_set (L := L) hju (n := n)
    rw [if_pos hjn] at this
    omega
   ·by_cases hij : i = j
    ·subst hij
     rw [same]; exact hsp
    ·rw [other i hij]
     exact mono i _ w w1 hin (hi i hin (listed i hij hli)) hbel
   ·by_cases hij : i = j
    ·subst hij
     rw [same, other k (Ne.symm h3)]
     exact .inr (hrl k _ h2 (Ne.symm h3) (hi k h2 (listed k (Ne.symm h3) h5)))
    ·by_cases hkj : k = j
     ·subst hkj
      rw [same, other i hij]
      exact .inl (hrl i _ h1 hij (hi i h1 (listed i hij h4)))
     ·rw [other i hij, other k hkj]
      exact hr i k h1 h2 h3 (listed i hij h4) (listed k hkj h5)
  ·rw [ho] at ho'
   obtain rfl : o = o' := by injection ho'
   have h2 := hjd e he hb
   have hen : e.on < n := by
    unfold depsB at hdep
    rw [List.all_eq_true] at hdep
    have := hdep j (List.mem_range.2 hjn)
    rw [ho] at this
    simp only [Array.all_eq_true_iff_forall_mem, Bool.or_eq_true, Bool.not_eq_true', decide_eq_true_eq] at this
    rcases this e he with h | h
    ·rw [hb] at h; cases h
    ·omega
   exact hi _ hen h2
def closedB (md : Region.Mode) (ops : Array Oper) (L : Array Bool) : Bool := (List.range L.size).all fun i => !L.getD i false || (depsOf md ops i).all fun k => L.getD k false
theorem closed_of {L : Array Bool} (h : closedB md ops L = true) : Closed md ops L := fun i hi k hk => by
 have hlt : i < L.size := by
  rcases Nat.lt_or_ge i L.size with g | g
  ·exact g
  ·simp [Array.getElem?_eq_none g] at hi
 unfold closedB at h
 rw [List.all_eq_true] at h
 have := h i (List.mem_range.2 hlt)
 rw [hi, Bool.not_true, Bool.false_or, List.all_eq_true] at this
 exact this k hk
theorem run_invL {lo n c fuel : Nat} {ds : List Tmp} {S : World → Prop} {a : Act} {w : World} {L : Array Bool} (spec : Nat → Value → World → Prop) (rel : Nat → Value → Nat → Value → Prop) (Lf : Array Bool) (xs0 : List Value) (hn : n ≤ ops.size) (hlen : ds.length = n) (hdep : depsB md ops n = true) (hlast : lastC md ops lo n = true) (hLf : listB ops.size n Lf = true)
  (hL : listB ops.size lo L = true) (hln : lo ≤ n) (hcl : closedB md ops L = true) (hc : leftN L n = c) (hfu : fuel = c + (ops.size - n)) (h0 : Xs a ds xs0 = a) (hl0 : xs0.length = n) (hS : S w)
  (hsp : ∀ i, i < lo → spec i (xs0.getD i undef) w) (hrl : ∀ i j, i < lo → j < lo → i ≠ j → rel i (xs0.getD i undef) j (xs0.getD j undef))
  (mono : ∀ i v w w1, i < n → spec i v w → Below w.heap.size w w1 → spec i v w1) (step : ∀ j, j < n → StepJ P md ops Q n S ds spec rel a j)
  (fin : ∀ xs w, xs.length = n → S w → (∀ i, i < n → spec i (xs.getD i undef) w) → (∀ i j, i < n → j < n → i ≠ j → rel i (xs.getD i undef) j (xs.getD j undef) ∨ rel j (xs.getD j undef) i (xs.getD i undef)) → wpAnyH P md ops Q S (ops.size - n) Lf (Xs a ds xs) w) : wpAnyH P md ops Q S fuel L a w := by
 have hL2 := hL
 unfold listB at hL2
 simp only [Bool.and_eq_true, beq_iff_eq, List.all_eq_true, List.mem_range] at hL2
 have at_ : ∀ j, j < ops.size → L.getD j false = decide (j < lo) := fun j hj => by rw [← getD_in (by omega)]; exact hL2.2 j hj
 have lt_ : ∀ j, L.getD j false = true → j < lo := fun j hj => by
  rcases Nat.lt_or_ge j ops.size with g | g
  ·rw [at_ j g, decide_eq_true_iff] at hj; exact hj
  ·simp [Array.getElem?_eq_none (show L.size ≤ j by omega)] at hj
 have := wpAnyH_invL hn hlen hdep hlast hLf mono step fin c L xs0 w (fun i hi => by rw [at_ i (by omega), decide_eq_true hi]) (closed_of hcl) hL2.1 (fun j h1 h2 => by rw [at_ j h2, decide_eq_false (by omega)]) hc hl0 hS (fun i _ h => hsp i (lt_ i h)) (fun i j _ _ h3 h4 h5 => .inl (hrl i j (lt_ i h4) (lt_ j h5) h3))
 rw [h0, ← hfu] at this
 exact this
end
def awS (v1 : CV) (B : Nat) : Nat → Value → World → Prop
 | 0, u, _ => u = .agg (mfL exM v1).toArray
 | 1, u, _ => u = .agg (mfL exM v1).toArray
 | 2, u, _ => u = .agg (mfL exM v1).toArray
 | 3, u, w => ∃ (vc : CV) (qs : List QP), u = .agg (mfL exM vc).toArray ∧ OwX w B vc exM.cf qs
 | 4, u, w => ∃ g, u = .pointer (some ⟨g, 0, none⟩) ∧ B ≤ g ∧ MB w g Mf.zero nilV
 | 5, u, w => ∃ g, u = .pointer (some ⟨g, 0, none⟩) ∧ B ≤ g ∧ MB w g Mf.zero nilV
 | 6, u, w => ∃ g, u = .pointer (some ⟨g, 0, none⟩) ∧ B ≤ g ∧ MB w g Mf.zero nilV
 | _, _, _ => True
def awR (i : Nat) (u : Value) (j : Nat) (v : Value) : Prop := (4 ≤ i ∧ 4 ≤ j) → u ≠ v
theorem awS_to (v1 : CV) (B : Nat) (i : Nat) (u : Value) (w w1 : World) (hi : i < 7) (h : awS v1 B i u w) (hb : Below w.heap.size w w1) : awS v1 B i u w1 := by
 match i, hi with
 | 0, _ => exact h
 | 1, _ => exact h
 | 2, _ => exact h
 | 3, _ => obtain ⟨y, qs, e, h⟩ := h; exact ⟨y, qs, e, h.to hb⟩
 | 4, _ => obtain ⟨g, e, h1, h⟩ := h; exact ⟨g, e, h1, h.to hb⟩
 | 5, _ => obtain ⟨g, e, h1, h⟩ := h; exact ⟨g, e, h1, h.to hb⟩
 | 6, _ => obtain ⟨g, e, h1, h⟩ := h; exact ⟨g, e, h1, h.to hb⟩
theorem awS_ne {v1 : CV} {B i : Nat} {u : Value} {w : World} (hi : i < 7) (h4 : 4 ≤ i) (h : awS v1 B i u w) : u ≠ .pointer (some ⟨w.heap.size, 0, none⟩) := by
 have key : ∀ g, MB w g Mf.zero nilV → (Value.pointer (some ⟨g, 0, none⟩)) ≠ .pointer (some ⟨w.heap.size, 0, none⟩) := fun g hg e => by
  injection e with e
  injection e with e
  injection e with e
  have := hg.lt
  omega
 match i, hi, h4 with
 | 4, _, _ => obtain ⟨g, rfl, _, hg⟩ := h; exact key g hg
 | 5, _, _ => obtain ⟨g, rfl, _, hg⟩ := h; exact key g hg
 | 6, _, _ => obtain ⟨g, rfl, _, hg⟩ := h; exact key g hg
theorem awR_ne {i j ga gb : Nat} (h : awR i (.pointer (some ⟨ga, 0, none⟩)) j (.pointer (some ⟨gb, 0, none⟩)) ∨ awR j (.pointer (some ⟨gb, 0, none⟩)) i (.pointer (some ⟨ga, 0, none⟩))) (hi : 4 ≤ i) (hj : 4 ≤ j) : ga ≠ gb := by
 intro e
 subst e
 rcases h with h | h
 ·exact h ⟨hi, hj⟩ rfl
 ·exact h ⟨hj, hi⟩ rfl
theorem lAwakeM (w : World) (hp : Pr w) : Calls Tryz.prog 18 #[] w fun e w' => e = .returned (.bool true) ∧ Below w.heap.size w w' := by
 have hz := mf_zero
 have kc := fun (w : World) (C : Array Value) (n c : Nat) => Lib.run_convert_bytes_const (P := Tryz.prog) w 31 5 C n c Tryz.underlying31 Tryz.underlying5
 have HP := qH hp
 have hp0 := hp
 clear hp
 go_enter Tryz.func18, Tryz.ntmps18
 go_wp2_with fail
 refine (lShownM w HP.out).mono ?_
 rintro e w1 ⟨v1, rfl, hr, hd, hn, hb⟩
 have R := qH hr
 have D := qH hd
 have HN := qH hn
 have B := qH hb
 replace HP := qH (HP.out.to hb)
 clear hr hd hn hb
 have SR := qH (mf_size exR_t v1)
 have SZ : Hid ((mfL Mf.zero nilV).toArray.size = (mfL exR v1).toArray.size) := by (show _ = _); rw [mfL_size MfT.zero, mfL_size exR_t]
 go_upto_region 2 with (refine wpList_store_row rfl 30 _ _ rfl w1.heap.size (mfL exR v1).toArray rfl rfl 30 (mfL Mf.zero nilV).toArray (heap_alloc_last w1 _) SR.out SZ.out (mf_one _ _) ?_; rw [World.setRow_alloc_new])
 have hb : Below w1.heap.size w1 (w1.alloc (.cells (mfL exR v1).toArray 30)) := (Below.refl _ _).alloc (Nat.le_refl _) _
 have M := qH (MB.new w1 exR_t v1)
 have HG : Hid (w.heap.size ≤ w1.heap.size) := B.out.size
 have RG : Hid (RdCf (w1.alloc (.cells (mfL exR v1).toArray 30)) w1.heap.size v1 exCf) := R.out.cf.below hb
 replace B := qH (B.out.trans (hb.mono B.out.size))
 replace HP := qH hp0
 clear hb SZ R hp0
 generalize w1.alloc (.cells (mfL exR v1).toArray 30) = w2 at *
 generalize w1.heap.size = g1 at *
 clear w1
 have BG := qH (Below.refl g1 w2)
 have HL : Hid (g1 ≤ w2.heap.size) := by (show _ ≤ _); have := M.out.lt; omega
 obtain ⟨wk, hwk⟩ : ∃ x, x = w2 := ⟨_, rfl⟩
 rw [← hwk] at M B ⊢
 have BG2 : Hid (Below g1 w2 wk) := by (show Below _ _ _); rw [hwk]; exact Below.refl _ _
 replace BG := BG2
 clear hwk BG2
 have T0 : Hid (Rd (wk.alloc (.cells #[.int .u8 107, .int .u8 101, .int .u8 121] 5 (3, 4))) (wk.alloc (.cells #[.int .u8 107, .int .u8 101, .int .u8 121] 5 (3, 4))).heap.size (some ⟨wk.heap.size, 0, none⟩) 3 keyB) :=
  rd_topMf keyB [.int .u8 107, .int .u8 101, .int .u8 121] 5 (3, 4) rfl
 have hb : Below wk.heap.size wk (wk.alloc (.cells #[.int .u8 107, .int .u8 101, .int .u8 121] 5 (3, 4))) := (Below.refl _ _).alloc (Nat.le_refl _) _
 replace M := qH (M.out.to hb)
 replace B := qH (B.out.trans (hb.mono B.out.size))
 replace BG := qH (BG.out.trans (hb.mono (Nat.le_trans HL.out BG.out.size)))
 clear hb
 go_wp2_with (refine wpList_load_row rfl 30 _ rfl g1 rfl 30 (mfL exR v1).toArray (0, 0) _ M.out.row Tryz.underlying30 rfl SR.out ?_)
 refine (wRightM _ 3 3 keyB v1 exR _ (HP.out.to B.out) T0.out (by decide) (by decide) (by decide) ⟨exR_t, (RG.out.below BG.out).more (Nat.le_trans HL.out BG.out.size)⟩ D.out).mono ?_
 rw [ex_rightR]
 generalize wk.alloc (.cells #[.int .u8 107, .int .u8 101, .int .u8 121] 5 (3, 4)) = w3 at *
 rintro e w4 ⟨rfl, hb⟩
 replace M := qH (M.out.to hb)
 replace B := qH (B.out.trans (hb.mono B.out.size))
 replace BG := qH (BG.out.trans (hb.mono (Nat.le_trans HL.out BG.out.size)))
 clear hb T0
 obtain ⟨q0, -, q2, -⟩ := M.out.cells
 have f0 := M.out.fz 0
 rw [HN.out] at q2
 go_upto_region 5 with (fail)
 clear q0 q2 f0
 replace B := qH (B.out.setCell (p := ⟨g1, 0, none⟩) HG.out (.int .i64 2))
 replace BG := qH (BG.out.setCell (p := ⟨g1, 0, none⟩) (Nat.le_refl _) (.int .i64 2))
 replace M := qH (show MB (w4.setCell ⟨g1, 0, none⟩ (.int .i64 2)) g1 ⟨2, zeros32, 1, exCf, exT0⟩ v1 from M.out.setVer 2)
 generalize w4.setCell ⟨g1, 0, none⟩ (.int .i64 2) = w5 at *
 go_wp2_with fail
 refine (lShownM w5 (HP.out.to B.out)).mono ?_
 rintro e w6 ⟨v6, rfl, hr, hd, -, hb⟩
 have R6 := qH hr
 have D6 := qH hd
 replace M := qH (M.out.to hb)
 replace B := qH (B.out.trans (hb.mono B.out.size))
 replace BG := qH (BG.out.trans (hb.mono (Nat.le_trans HL.out BG.out.size)))
 clear hr hd hb
 go_wp2_with fail
 refine (wHashM v6 exR w6 (HP.out.to B.out) R6.out D6.out).mono ?_
 rw [ex_h0]
 rintro e w7 ⟨rfl, hb⟩
 replace M := qH (M.out.to hb)
 replace B := qH (B.out.trans (hb.mono B.out.size))
 replace BG := qH (BG.out.trans (hb.mono (Nat.le_trans HL.out BG.out.size)))
 clear hb R6 D6
 have TL : Hid (exH0.length = 32) := rfl
 have S3 := qH (tag_size TL.out)
 have TH : Hid (w7.there g1 1 (arrB exH0).size) := M.out.there (by rw [arrB_size, TL.out]; decide)
 go_upto_region 6 with (refine wpList_store_mid rfl 23 _ _ rfl g1 1 (arrB exH0) rfl rfl TH.out S3.out (arrB_one _) ?_)
 replace B := qH (below_setCellsM B.out HG.out 1 (arrB exH0).toList)
 replace BG := qH (below_setCellsM BG.out (Nat.le_refl _) 1 (arrB exH0).toList)
 replace M := qH (show MB (w7.setCells g1 1 (arrB exH0).toList) g1 exM v1 from M.out.setPrev TL.out)
 clear S3 TH
 generalize w7.setCells g1 1 (arrB exH0).toList = wo at *
 have MT : Hid (MfT exM) := ⟨rfl, rfl⟩
 have SM := qH (mf_size MT.out v1)
 (try simp only [pR])
 go_cut [2, 3, 4] from 26 to 29 (fun s2 s3 s4 wx => ∃ (ga gb gc : Nat) (vc : CV) (qs : List QP), s2 = .pointer (some ⟨ga, 0, none⟩) ∧ s3 = .pointer (some ⟨gb, 0, none⟩) ∧ s4 = .pointer (some ⟨gc, 0, none⟩) ∧ MB wx ga exM v1 ∧ MB wx gb exM v1 ∧ MB wx gc exM vc ∧ OwX wx wo.heap.size vc exCf qs ∧ wo.heap.size ≤ ga ∧ wo.heap.size ≤ gb ∧ wo.heap.size ≤ gc ∧ ga ≠ gb ∧ ga ≠ gc ∧ gb ≠ gc ∧ Below wo.heap.size wo wx)
 case first =>
  have hgo : g1 < wo.heap.size := M.out.lt
  have HGO : Hid (g1 ≤ wo.heap.size) := Nat.le_of_lt hgo
  have HGL : Hid (g1 < wo.heap.size) := hgo
  clear hgo
  have HIM : Hid (∀ p ∈ exM.cf.ps, p.img.length ≤ 100000) := fun p hp => by
   rw [show p = shP from List.mem_singleton.1 hp]
   decide
  have SZ : Hid ((mfL Mf.zero nilV).toArray.size = (mfL exM v1).toArray.size) := by (show _ = _); rw [mfL_size MfT.zero, mfL_size MT.out]
  obtain ⟨wd, hwd⟩ : ∃ x, wo.drew = x := ⟨_, rfl⟩
  have BD : Hid (Below wo.heap.size wo wd) := by (show Below _ _ _); rw [← hwd]; exact (Below.refl _ _).drew
  refine wp_region_held_drew (S := (fun w' => Below wo.heap.size wo w')) (by kernel_rfl) ((Below.refl _ _).drew) (fun hHeld => ?_)
  rw [hwd] at hHeld ⊢
  clear hwd hHeld
  have hHeld := BD.out
  refine tl 0 (.agg (mfL exM v1).toArray) rfl (yieldsIf_load_row (by rfl) 30 _ rfl g1 rfl 30 (mfL exM v1).toArray (0, 0) _ (fun w' h => (M.out.to h).row) Tryz.underlying30 rfl SM.out) ?_
  simp only [pR]
  refine tl 1 (.agg (mfL exM v1).toArray) rfl (yieldsIf_load_row (by rfl) 30 _ rfl g1 rfl 30 (mfL exM v1).toArray (0, 0) _ (fun w' h => (M.out.to h).row) Tryz.underlying30 rfl SM.out) ?_
  simp only [pR]
  refine tl 2 (.agg (mfL exM v1).toArray) rfl (yieldsIf_load_row (by rfl) 30 _ rfl g1 rfl 30 (mfL exM v1).toArray (0, 0) _ (fun w' h => (M.out.to h).row) Tryz.underlying30 rfl SM.out) ?_
  simp only [pR]
  clear hHeld
  refine run_invL (lo := 3) (n := 7) (c := 4) (ds := [26, 27, 28, 29, 2, 3, 4]) (awS v1 wo.heap.size) awR #[true, true, true, true, true, true, true, false, false, false] [.agg (mfL exM v1).toArray, .agg (mfL exM v1).toArray, .agg (mfL exM v1).toArray, undef, undef, undef, undef] (Nat.le_of_ble_eq_true (by kernel_rfl)) rfl (by kernel_rfl) (by kernel_rfl) (by kernel_rfl) (by kernel_rfl) (by decide) (by kernel_rfl) (by kernel_rfl) (by kernel_rfl) (by simp only [Xs, List.setIfInBounds_toArray, List.set_cons_zero, List.set_cons_succ]) rfl BD.out (fun i hi => by match i, hi with | 0, _ => rfl | 1, _ => rfl | 2, _ => rfl) (fun i j _ _ _ h => by omega) (fun i v u u1 hi h hb => awS_to _ _ i v u u1 hi h hb) ?_ ?_
  refine lt_cases (lt_cases (lt_cases (lt_cases (lt_cases (lt_cases (lt_cases lt_none ?_) ?_) ?_) ?_) ?_) ?_) ?_
  ·refine StepJ.mk rfl (fun xs u1 hl hS hd K hK => ?_)
   obtain ⟨z0, z1, z2, z3, z4, z5, z6, rfl⟩ := len7 hl
   simp only [Xs, List.setIfInBounds_toArray, List.set_cons_zero, List.set_cons_succ]
   rw [if_pos (by rfl)]
   refine wp_load_row 30 _ rfl g1 rfl 30 (mfL exM v1).toArray (0, 0) _ (M.out.to hS).row Tryz.underlying30 rfl SM.out ?_
   have hK2 := hK.out
   simp only [Xs, Act.put, List.setIfInBounds_toArray, List.set_cons_zero, List.set_cons_succ] at hK2 ⊢
   exact hK2 _ u1 hS rfl (fun i u _ _ _ h => by omega) (Below.refl _ _)
  ·refine StepJ.mk rfl (fun xs u1 hl hS hd K hK => ?_)
   obtain ⟨z0, z1, z2, z3, z4, z5, z6, rfl⟩ := len7 hl
   simp only [Xs, List.setIfInBounds_toArray, List.set_cons_zero, List.set_cons_succ]
   rw [if_pos (by rfl)]
   refine wp_load_row 30 _ rfl g1 rfl 30 (mfL exM v1).toArray (0, 0) _ (M.out.to hS).row Tryz.underlying30 rfl SM.out ?_
   have hK2 := hK.out
   simp only [Xs, Act.put, List.setIfInBounds_toArray, List.set_cons_zero, List.set_cons_succ] at hK2 ⊢
   exact hK2 _ u1 hS rfl (fun i u _ _ _ h => by omega) (Below.refl _ _)
  ·refine StepJ.mk rfl (fun xs u1 hl hS hd K hK => ?_)
   obtain ⟨z0, z1, z2, z3, z4, z5, z6, rfl⟩ := len7 hl
   simp only [Xs, List.setIfInBounds_toArray, List.set_cons_zero, List.set_cons_succ]
   rw [if_pos (by rfl)]
   refine wp_load_row 30 _ rfl g1 rfl 30 (mfL exM v1).toArray (0, 0) _ (M.out.to hS).row Tryz.underlying30 rfl SM.out ?_
   have hK2 := hK.out
   simp only [Xs, Act.put, List.setIfInBounds_toArray, List.set_cons_zero, List.set_cons_succ] at hK2 ⊢
   exact hK2 _ u1 hS rfl (fun i u _ _ _ h => by omega) (Below.refl _ _)
  ·refine StepJ.mk rfl (fun xs u1 hl hS hd K hK => ?_)
   obtain ⟨z0, z1, z2, z3, z4, z5, z6, rfl⟩ := len7 hl
   obtain rfl : z2 = .agg (mfL exM v1).toArray := hd ⟨2, .data⟩ (by simp) rfl
   simp only [Xs, List.setIfInBounds_toArray, List.set_cons_zero, List.set_cons_succ]
   go_simp
   refine (lCopiedM v1 exM u1 ⟨MT.out, (RG.out.below (BG.out.trans (hS.mono HGO.out))).more (Nat.le_trans HGO.out hS.size)⟩ D.out HIM.out).mono ?_
   rintro e u2 ⟨vc, qs, rfl, ho, hb⟩
   go_wp2_with fail
   have hK2 := hK.out
   simp only [Xs, List.setIfInBounds_toArray, List.set_cons_zero, List.set_cons_succ] at hK2
   exact hK2 _ u2 (hS.trans (hb.mono hS.size)) ⟨vc, qs, rfl, ho.mono hS.size⟩ (fun i u _ _ _ h => by omega) hb
  ·refine StepJ.mk rfl (fun xs u1 hl hS hd K hK => ?_)
   obtain ⟨z0, z1, z2, z3, z4, z5, z6, rfl⟩ := len7 hl
   simp only [Xs, List.setIfInBounds_toArray, List.set_cons_zero, List.set_cons_succ]
   go_simp
   have hal := (Below.refl u1.heap.size u1).alloc (Nat.le_refl _) (.cells (mfL Mf.zero nilV).toArray 30)
   have hK2 := hK.out
   simp only [Xs, List.setIfInBounds_toArray, List.set_cons_zero, List.set_cons_succ] at hK2
   exact hK2 _ _ (hS.trans (hal.mono hS.size)) ⟨u1.heap.size, rfl, hS.size, MB.new u1 MfT.zero nilV⟩ (fun i u hi hne hsp h => awS_ne hi h.1 hsp) hal
  ·refine StepJ.mk rfl (fun xs u1 hl hS hd K hK => ?_)
   obtain ⟨z0, z1, z2, z3, z4, z5, z6, rfl⟩ := len7 hl
   simp only [Xs, List.setIfInBounds_toArray, List.set_cons_zero, List.set_cons_succ]
   go_simp
   have hal := (Below.refl u1.heap.size u1).alloc (Nat.le_refl _) (.cells (mfL Mf.zero nilV).toArray 30)
   have hK2 := hK.out
   simp only [Xs, List.setIfInBounds_toArray, List.set_cons_zero, List.set_cons_succ] at hK2
   exact hK2 _ _ (hS.trans (hal.mono hS.size)) ⟨u1.heap.size, rfl, hS.size, MB.new u1 MfT.zero nilV⟩ (fun i u hi hne hsp h => awS_ne hi h.1 hsp) hal
  ·refine StepJ.mk rfl (fun xs u1 hl hS hd K hK => ?_)
   obtain ⟨z0, z1, z2, z3, z4, z5, z6, rfl⟩ := len7 hl
   simp only [Xs, List.setIfInBounds_toArray, List.set_cons_zero, List.set_cons_succ]
   go_simp
   have hal := (Below.refl u1.heap.size u1).alloc (Nat.le_refl _) (.cells (mfL Mf.zero nilV).toArray 30)
   have hK2 := hK.out
   simp only [Xs, List.setIfInBounds_toArray, List.set_cons_zero, List.set_cons_succ] at hK2
   exact hK2 _ _ (hS.trans (hal.mono hS.size)) ⟨u1.heap.size, rfl, hS.size, MB.new u1 MfT.zero nilV⟩ (fun i u hi hne hsp h => awS_ne hi h.1 hsp) hal
  intro xs wm hl hS hd hrel
  obtain ⟨z0, z1, z2, z3, z4, z5, z6, rfl⟩ := len7 hl
  obtain rfl := (show awS _ _ 0 z0 _ from hd 0 (by decide))
  obtain rfl := (show awS _ _ 1 z1 _ from hd 1 (by decide))
  obtain rfl := (show awS _ _ 2 z2 _ from hd 2 (by decide))
  obtain ⟨vc, qs, rfl, hx⟩ := (show awS _ _ 3 z3 _ from hd 3 (by decide))
  obtain ⟨ga, rfl, ha1, ha2⟩ := (show awS _ _ 4 z4 _ from hd 4 (by decide))
  obtain ⟨gb, rfl, hb1, hb2⟩ := (show awS _ _ 5 z5 _ from hd 5 (by decide))
  obtain ⟨gc, rfl, hc1, hc2⟩ := (show awS _ _ 6 z6 _ from hd 6 (by decide))
  have NAB : Hid (ga ≠ gb) := awR_ne (hrel 4 5 (by decide) (by decide) (by decide)) (by decide) (by decide)
  have NAC : Hid (ga ≠ gc) := awR_ne (hrel 4 6 (by decide) (by decide) (by decide)) (by decide) (by decide)
  have NBC : Hid (gb ≠ gc) := awR_ne (hrel 5 6 (by decide) (by decide) (by decide)) (by decide) (by decide)
  have X := qH hx
  have LA := qH ha1
  have LB := qH hb1
  have LC := qH hc1
  have ZA := qH ha2
  have ZB := qH hb2
  have ZC := qH hc2
  have BW := qH hS
  replace M := qH (M.out.to hS)
  clear hd hl hrel hx ha1 ha2 hb1 hb2 hc1 hc2 hS
  simp only [Xs, List.setIfInBounds_toArray, List.set_cons_zero, List.set_cons_succ]
  change wpAnyH _ _ _ _ _ 3 _ _ _
  have hHeld := BW.out
  have SC := qH (mf_size MT.out vc)
  have SZC : Hid ((mfL Mf.zero nilV).toArray.size = (mfL exM vc).toArray.size) := by (show _ = _); rw [mfL_size MfT.zero, mfL_size MT.out]
  have MA := qH (M.out.kept (keep_setRow ga (mfL exM v1).toArray) (by have := HGL.out; have := LA.out; omega))
  refine rd1 7 (fun K hK => ?_)
  rw [if_pos (by rfl)]
  refine wp_store_row0 30 _ _ rfl rfl ga (mfL exM v1).toArray rfl rfl 30 _ ZA.out.row SM.out SZ.out (mf_one _ _) ?_
  refine hK.out _ _ ((below_setRow BW.out LA.out _)) (fun hHeld => ?_)
  clear hK K
  clear hHeld
  replace ZB := qH (ZB.out.kept (keep_setRow ga (mfL exM v1).toArray) (by have := NAB.out; omega))
  replace ZC := qH (ZC.out.kept (keep_setRow ga (mfL exM v1).toArray) (by have := NAC.out; omega))
  replace X := qH (X.out.keptM ZA.out (keep_setRow ga (mfL exM v1).toArray))
  replace ZA := qH (ZA.out.setRow MT.out v1)
  replace BW := qH (below_setRow BW.out LA.out (mfL exM v1).toArray)
  clear M
  generalize wm.setRow ga (mfL exM v1).toArray = wm1 at *
  have hHeld := BW.out
  have MB2 := qH (MA.out.kept (keep_setRow gb (mfL exM v1).toArray) (by have := HGL.out; have := LB.out; omega))
  refine rd1 8 (fun K hK => ?_)
  rw [if_pos (by rfl)]
  refine wp_store_row0 30 _ _ rfl rfl gb (mfL exM v1).toArray rfl rfl 30 _ ZB.out.row SM.out SZ.out (mf_one _ _) ?_
  refine hK.out _ _ ((below_setRow BW.out LB.out _)) (fun hHeld => ?_)
  clear hK K
  clear hHeld
  replace ZA := qH (ZA.out.kept (keep_setRow gb (mfL exM v1).toArray) (by have := NAB.out; omega))
  replace ZC := qH (ZC.out.kept (keep_setRow gb (mfL exM v1).toArray) (by have := NBC.out; omega))
  replace X := qH (X.out.keptM ZB.out (keep_setRow gb (mfL exM v1).toArray))
  replace ZB := qH (ZB.out.setRow MT.out v1)
  replace BW := qH (below_setRow BW.out LB.out (mfL exM v1).toArray)
  clear MA
  generalize wm1.setRow gb (mfL exM v1).toArray = wm2 at *
  have hHeld := BW.out
  have MC := qH (MB2.out.kept (keep_setRow gc (mfL exM vc).toArray) (by have := HGL.out; have := LC.out; omega))
  refine rd1 9 (fun K hK => ?_)
  rw [if_pos (by rfl)]
  refine wp_store_row0 30 _ _ rfl rfl gc (mfL exM vc).toArray rfl rfl 30 _ ZC.out.row SC.out SZC.out (mf_one _ _) ?_
  refine hK.out _ _ ((below_setRow BW.out LC.out _)) (fun hHeld => ?_)
  clear hK K
  clear hHeld
  replace ZA := qH (ZA.out.kept (keep_setRow gc (mfL exM vc).toArray) (by have := NAC.out; omega))
  replace ZB := qH (ZB.out.kept (keep_setRow gc (mfL exM vc).toArray) (by have := NBC.out; omega))
  replace X := qH (X.out.keptM ZC.out (keep_setRow gc (mfL exM vc).toArray))
  replace ZC := qH (ZC.out.setRow MT.out vc)
  replace BW := qH (below_setRow BW.out LC.out (mfL exM vc).toArray)
  clear MB2 MC
  generalize wm2.setRow gc (mfL exM vc).toArray = wm3 at *
  refine wpAnyH_done (by kernel_rfl) ?_ _
  go_wp2_with fail
  go_meet
  exact ⟨ga, gb, gc, vc, qs, rfl, rfl, rfl, ZA.out, ZB.out, ZC.out, X.out, LA.out, LB.out, LC.out, NAB.out, NAC.out, NBC.out, BW.out⟩
 case rest =>
 obtain ⟨ga, gb, gc, vc, qs, rfl, rfl, rfl, ha, hb', hc, hx, la, lb, lc, nab, nac, nbc, hb⟩ := hcut
 obtain ⟨wp, hwp⟩ : ∃ x, x = wc := ⟨_, rfl⟩
 subst hwp
 have hg1o : g1 < wo.heap.size := M.out.lt
 replace M := qH (M.out.to hb)
 replace B := qH (B.out.trans (hb.mono B.out.size))
 replace BG := qH (BG.out.trans (hb.mono (Nat.le_trans HL.out BG.out.size)))
 have A := qH ha
 have BB := qH hb'
 have C := qH hc
 have X := qH hx
 have LA : Hid (w.heap.size ≤ ga ∧ g1 < ga) := by have := HG.out; exact ⟨by omega, by omega⟩
 have LB : Hid (w.heap.size ≤ gb ∧ g1 < gb) := by have := HG.out; exact ⟨by omega, by omega⟩
 have LC : Hid (w.heap.size ≤ gc ∧ g1 < gc) := by have := HG.out; exact ⟨by omega, by omega⟩
 have LX : Hid (w.heap.size ≤ wo.heap.size ∧ g1 < wo.heap.size) := by have := HG.out; exact ⟨by omega, hg1o⟩
 have NAB := qH nab
 have NAC := qH nac
 have NBC := qH nbc
 clear ha hb' hc hx la lb lc nab nac nbc hb hg1o
 have hzt := tag_zero
 have TZ : Hid ((zeros32 : List UInt8).length = 32) := rfl
 have S3 := qH (tag_size TZ.out)
 have TH : Hid (wp.there ga 1 (arrB zeros32).size) := A.out.there (by rw [arrB_size, TZ.out]; decide)
 go_upto_region 8 with (refine wpList_store_mid rfl 23 _ _ rfl ga 1 (arrB zeros32) rfl rfl TH.out S3.out (arrB_one _) ?_)
 have HK := qH (show Keep (· = ga) wp (wp.setCells ga 1 (arrB zeros32).toList) from keep_setCellsM (R := (· = ga)) (Keep.refl _ _) ga 1 (arrB zeros32).toList rfl)
 replace M := qH (M.out.kept HK.out (by have := LA.out; omega))
 replace BB := qH (BB.out.kept HK.out (by have := NAB.out; omega))
 replace C := qH (C.out.kept HK.out (by have := NAC.out; omega))
 replace X := qH (X.out.keptM A.out HK.out)
 replace B := qH (below_setCellsM B.out LA.out.1 1 (arrB zeros32).toList)
 replace BG := qH (below_setCellsM BG.out (Nat.le_of_lt LA.out.2) 1 (arrB zeros32).toList)
 replace A := qH (show MB (wp.setCells ga 1 (arrB zeros32).toList) ga exA v1 from A.out.setPrev TZ.out)
 clear HK S3 TH TZ hzt
 generalize wp.setCells ga 1 (arrB zeros32).toList = wq at *
 obtain ⟨q0, -⟩ := BB.out.cells
 have f0 := BB.out.fz 0
 go_upto_region 9 with (fail)
 have HK := qH (show Keep (· = gb) wq (wq.setCell ⟨gb, 0, none⟩ (.int .i64 1)) from (Keep.refl _ _).setCell _ _ rfl)
 replace M := qH (M.out.kept HK.out (by have := LB.out; omega))
 replace A := qH (A.out.kept HK.out (by have := NAB.out; omega))
 replace C := qH (C.out.kept HK.out (by have := NBC.out; omega))
 replace X := qH (X.out.keptM BB.out HK.out)
 replace B := qH (B.out.setCell (p := ⟨gb, 0, none⟩) LB.out.1 (.int .i64 1))
 replace BG := qH (BG.out.setCell (p := ⟨gb, 0, none⟩) (Nat.le_of_lt LB.out.2) (.int .i64 1))
 replace BB := qH (show MB (wq.setCell ⟨gb, 0, none⟩ (.int .i64 1)) gb exB v1 from BB.out.setVer 1)
 clear HK q0 f0
 generalize wq.setCell ⟨gb, 0, none⟩ (.int .i64 1) = wr at *
 obtain ⟨gw, hA, hBw, hlt, hnw, hcell, hfz, hrd⟩ := X.out.win
 obtain ⟨-, -, q2, -⟩ := C.out.cells
 rw [hA, hnw] at q2
 go_upto_region 10 with (fail)
 have HK := qH (show Keep (· = gw) wr (wr.setCell ⟨gw, 1, none⟩ (.int .i64 2)) from (Keep.refl _ _).setCell _ _ rfl)
 have n1 := X.out.neM M.out hA
 have n2 := X.out.neM A.out hA
 have n3 := X.out.neM BB.out hA
 have n4 := X.out.neM C.out hA
 replace M := qH (M.out.kept HK.out n1)
 replace A := qH (A.out.kept HK.out n2)
 replace BB := qH (BB.out.kept HK.out n3)
 replace C := qH (C.out.kept HK.out n4)
 have RC := qH hrd
 replace B := qH (B.out.setCell (p := ⟨gw, 1, none⟩) (show w.heap.size ≤ gw by have := LX.out; omega) (.int .i64 2))
 replace BG := qH (BG.out.setCell (p := ⟨gw, 1, none⟩) (show g1 ≤ gw by have := LX.out; omega) (.int .i64 2))
 clear HK n1 n2 n3 n4 hA hBw hlt hnw hcell hfz hrd q2 X LX NAB NAC NBC LA LB LC
 generalize wr.setCell ⟨gw, 1, none⟩ (.int .i64 2) = wt at *
 have DC := qH (bd_can RC.out exCw_can)
 have T0 : Hid (Rd (wt.alloc (.cells #[.int .u8 107, .int .u8 101, .int .u8 121] 5 (3, 4))) (wt.alloc (.cells #[.int .u8 107, .int .u8 101, .int .u8 121] 5 (3, 4))).heap.size (some ⟨wt.heap.size, 0, none⟩) 3 keyB) :=
  rd_topMf keyB [.int .u8 107, .int .u8 101, .int .u8 121] 5 (3, 4) rfl
 have hb : Below wt.heap.size wt (wt.alloc (.cells #[.int .u8 107, .int .u8 101, .int .u8 121] 5 (3, 4))) := (Below.refl _ _).alloc (Nat.le_refl _) _
 replace M := qH (M.out.to hb)
 replace A := qH (A.out.to hb)
 replace BB := qH (BB.out.to hb)
 replace C := qH (C.out.to hb)
 replace RC := qH (RC.out.to hb)
 replace B := qH (B.out.trans (hb.mono B.out.size))
 replace BG := qH (BG.out.trans (hb.mono (Nat.le_trans HL.out BG.out.size)))
 clear hb
 go_wp2_with fail
 refine (lShownM _ (HP.out.to B.out)).mono ?_
 generalize wt.alloc (.cells #[.int .u8 107, .int .u8 101, .int .u8 121] 5 (3, 4)) = wu at *
 generalize wt.heap.size = gk at *
 rintro e wv ⟨v6, rfl, hr, hd, -, hb⟩
 have R6 := qH hr
 have D6 := qH hd
 replace T0 := qH (T0.out.to hb)
 replace M := qH (M.out.to hb)
 replace A := qH (A.out.to hb)
 replace BB := qH (BB.out.to hb)
 replace C := qH (C.out.to hb)
 replace RC := qH (RC.out.to hb)
 replace B := qH (B.out.trans (hb.mono B.out.size))
 replace BG := qH (BG.out.trans (hb.mono (Nat.le_trans HL.out BG.out.size)))
 clear hr hd hb
 go_wp2_with fail
 refine (wCheckM _ none 3 3 0 0 keyB [] v6 exR wv (HP.out.to B.out) T0.out (by decide) (by decide) (by decide) R6.out D6.out (Rd.nil _ _ _) (by decide) (by decide) (by decide)).mono ?_
 rw [ex_none]
 rintro e ww ⟨v7, rfl, hr, hb⟩
 have T7 := qH hr.t
 replace M := qH (M.out.to hb)
 replace A := qH (A.out.to hb)
 replace BB := qH (BB.out.to hb)
 replace C := qH (C.out.to hb)
 replace RC := qH (RC.out.to hb)
 replace B := qH (B.out.trans (hb.mono B.out.size))
 replace BG := qH (BG.out.trans (hb.mono (Nat.le_trans HL.out BG.out.size)))
 clear hr hb R6 D6 T0
 generalize takenM keyB exR [] = tk at *
 have S7 := qH (mf_size T7.out v7)
 have SZ : Hid ((mfL Mf.zero nilV).toArray.size = (mfL tk v7).toArray.size) := by (show _ = _); rw [mfL_size MfT.zero, mfL_size T7.out]
 go_upto_region 11 with (refine wpList_store_row rfl 30 _ _ rfl ww.heap.size (mfL tk v7).toArray rfl rfl 30 (mfL Mf.zero nilV).toArray (heap_alloc_last ww _) S7.out SZ.out (mf_one _ _) ?_; rw [World.setRow_alloc_new])
 have hb : Below ww.heap.size ww (ww.alloc (.cells (mfL tk v7).toArray 30)) := (Below.refl _ _).alloc (Nat.le_refl _) _
 replace M := qH (M.out.to hb)
 replace A := qH (A.out.to hb)
 replace BB := qH (BB.out.to hb)
 replace C := qH (C.out.to hb)
 replace RC := qH (RC.out.to hb)
 replace B := qH (B.out.trans (hb.mono B.out.size))
 replace BG := qH (BG.out.trans (hb.mono (Nat.le_trans HL.out BG.out.size)))
 clear hb S7 SZ T7
 generalize ww.alloc (.cells (mfL tk v7).toArray 30) = wx1 at *
 go_wp2_with fail
 refine (lShownM wx1 (HP.out.to B.out)).mono ?_
 rintro e wx2 ⟨va, rfl, hr, hd, -, hb⟩
 have R7 := qH hr
 have D7 := qH hd
 replace M := qH (M.out.to hb)
 replace A := qH (A.out.to hb)
 replace BB := qH (BB.out.to hb)
 replace C := qH (C.out.to hb)
 replace RC := qH (RC.out.to hb)
 replace B := qH (B.out.trans (hb.mono B.out.size))
 replace BG := qH (BG.out.trans (hb.mono (Nat.le_trans HL.out BG.out.size)))
 clear hr hd hb
 go_wp2_with fail
 refine (lShownM wx2 (HP.out.to B.out)).mono ?_
 rintro e wx3 ⟨vb, rfl, hr, hd, -, hb⟩
 have R8 := qH hr
 have D8 := qH hd
 replace R7 := qH (R7.out.to hb)
 replace M := qH (M.out.to hb)
 replace A := qH (A.out.to hb)
 replace BB := qH (BB.out.to hb)
 replace C := qH (C.out.to hb)
 replace RC := qH (RC.out.to hb)
 replace B := qH (B.out.trans (hb.mono B.out.size))
 replace BG := qH (BG.out.trans (hb.mono (Nat.le_trans HL.out BG.out.size)))
 clear hr hd hb
 have Sa := qH (mf_size exR_t va)
 have Sb := qH (mf_size exR_t vb)
 have Za : Hid ((mfL Mf.zero nilV).toArray.size = (mfL exR va).toArray.size) := by (show _ = _); rw [mfL_size MfT.zero, mfL_size exR_t]
 have Zb : Hid ((mfL Mf.zero nilV).toArray.size = (mfL exR vb).toArray.size) := by (show _ = _); rw [mfL_size MfT.zero, mfL_size exR_t]
 obtain ⟨wy, hwy, hb, hza, hzb, hsy⟩ := two_zero wx3
 have HWY := qH hwy
 have ZA := qH hza
 have ZB := qH hzb
 have B3 := qH B.out.size
 have BX := qH hb
 clear hwy hb hza hzb
 go_upto_region 12 with (first | (refine wpList_store_row rfl 30 _ _ rfl wx3.heap.size (mfL exR va).toArray rfl rfl 30 (mfL Mf.zero nilV).toArray (by rw [HWY.out]; exact ZA.out.row) Sa.out Za.out (mf_one _ _) ?_; rw [HWY.out]) | (refine wpList_store_row rfl 30 _ _ rfl (wx3.heap.size + 1) (mfL exR vb).toArray rfl rfl 30 (mfL Mf.zero nilV).toArray (ZB.out.kept (keep_setRow wx3.heap.size (mfL exR va).toArray) (by omega)).row Sb.out Zb.out (mf_one _ _) ?_))
 replace BX := qH (below_setRow (below_setRow BX.out (Nat.le_refl _) (mfL exR va).toArray) (Nat.le_succ _) (mfL exR vb).toArray)
 have NB := qH ((ZB.out.kept (keep_setRow wx3.heap.size (mfL exR va).toArray) (by omega)).setRow exR_t vb)
 have NA := qH ((ZA.out.setRow exR_t va).kept (keep_setRow (wx3.heap.size + 1) (mfL exR vb).toArray) (by omega))
 clear ZA ZB Sa Sb Za Zb HWY hsy
 generalize (wy.setRow wx3.heap.size (mfL exR va).toArray).setRow (wx3.heap.size + 1) (mfL exR vb).toArray = wz1 at *
 clear wy
 obtain ⟨q0, -⟩ := NA.out.cells
 have f0 := NA.out.fz 0
 go_upto_region 13 with (fail)
 replace BX := qH (BX.out.setCell (p := ⟨wx3.heap.size, 0, none⟩) (Nat.le_refl _) (.int .i64 0))
 replace NB := qH (NB.out.kept (show Keep (· = wx3.heap.size) wz1 (wz1.setCell ⟨wx3.heap.size, 0, none⟩ (.int .i64 0)) from (Keep.refl _ _).setCell _ _ rfl) (by omega))
 replace NA := qH (show MB (wz1.setCell ⟨wx3.heap.size, 0, none⟩ (.int .i64 0)) wx3.heap.size ⟨0, zeros32, 1, exCf, exT0⟩ va from NA.out.setVer 0)
 clear q0 f0
 generalize wz1.setCell ⟨wx3.heap.size, 0, none⟩ (.int .i64 0) = wz2 at *
 obtain ⟨-, q1, -⟩ := NB.out.cells
 have f1 := NB.out.fz 33
 go_upto_region 14 with (fail)
 replace BX := qH (BX.out.setCell (p := ⟨wx3.heap.size + 1, 33, none⟩) (Nat.le_succ _) (.int .i64 9))
 replace NA := qH (NA.out.kept (show Keep (· = wx3.heap.size + 1) wz2 (wz2.setCell ⟨wx3.heap.size + 1, 33, none⟩ (.int .i64 9)) from (Keep.refl _ _).setCell _ _ rfl) (by omega))
 replace NB := qH (show MB (wz2.setCell ⟨wx3.heap.size + 1, 33, none⟩ (.int .i64 9)) (wx3.heap.size + 1) ⟨1, zeros32, 9, exCf, exT0⟩ vb from NB.out.setTrial 9)
 clear q1 f1
 generalize wz2.setCell ⟨wx3.heap.size + 1, 33, none⟩ (.int .i64 9) = wz at *
 replace M := qH (M.out.to BX.out)
 replace A := qH (A.out.to BX.out)
 replace BB := qH (BB.out.to BX.out)
 have CW := qH (show MB wz gc exW vc from ⟨⟨rfl, rfl⟩, (C.out.to BX.out).2⟩)
 replace RC := qH (RC.out.to BX.out)
 have RA := qH ((R7.out.cf).to BX.out)
 have RB := qH ((R8.out.cf).to BX.out)
 have R1 := qH (((RG.out.below BG.out).more (Nat.le_trans HL.out BG.out.size)).to BX.out)
 replace B := qH (B.out.trans (BX.out.mono B.out.size))
 clear BX C R7 R8 RG BG HL HG hz kc B3
 generalize wx3.heap.size = g7 at *
 have SA := qH (mf_size A.out.1 v1)
 have SB := qH (mf_size BB.out.1 v1)
 have SC := qH (mf_size CW.out.1 vc)
 have SY := qH (mf_size NA.out.1 va)
 have SX := qH (mf_size NB.out.1 vb)
 go_wp2_with (refine wpList_load_row rfl 30 _ rfl g1 rfl 30 (mfL exM v1).toArray (0, 0) _ M.out.row Tryz.underlying30 rfl SM.out ?_)
 refine (lToldM v1 exM true wz (HP.out.to B.out) ⟨M.out.1, R1.out⟩ D.out).mono ?_
 rw [told_seal (m := exM) (ex_can (by decide) (by decide)), ex_ok]
 rintro e y1 ⟨rfl, hb⟩
 replace M := qH (M.out.to hb)
 replace A := qH (A.out.to hb)
 replace BB := qH (BB.out.to hb)
 replace CW := qH (CW.out.to hb)
 replace NA := qH (NA.out.to hb)
 replace NB := qH (NB.out.to hb)
 replace RC := qH (RC.out.to hb)
 replace RA := qH (RA.out.to hb)
 replace RB := qH (RB.out.to hb)
 replace R1 := qH (R1.out.to hb)
 replace B := qH (B.out.trans (hb.mono B.out.size))
 clear hb
 go_wp2_with (refine wpList_load_rowGm (by rfl) 30 _ rfl g1 rfl 30 (mfL exM v1).toArray (0, 0) _ M.out.row Tryz.underlying30 rfl SM.out ?_)
 refine (lToldM v1 exM false y1 (HP.out.to B.out) ⟨M.out.1, R1.out⟩ D.out).mono ?_
 rw [told_no (m := exM) (ex_can (by decide) (by decide)), ex_tag]
 rintro e y2 ⟨rfl, hb⟩
 replace M := qH (M.out.to hb)
 replace A := qH (A.out.to hb)
 replace BB := qH (BB.out.to hb)
 replace CW := qH (CW.out.to hb)
 replace NA := qH (NA.out.to hb)
 replace NB := qH (NB.out.to hb)
 replace RC := qH (RC.out.to hb)
 replace RA := qH (RA.out.to hb)
 replace RB := qH (RB.out.to hb)
 replace R1 := qH (R1.out.to hb)
 replace B := qH (B.out.trans (hb.mono B.out.size))
 clear hb
 go_wp2_with (refine wpList_load_rowGm (by rfl) 30 _ rfl ga rfl 30 (mfL exA v1).toArray (0, 0) _ A.out.row Tryz.underlying30 rfl SA.out ?_)
 refine (lToldM v1 exA true y2 (HP.out.to B.out) ⟨A.out.1, R1.out⟩ D.out).mono ?_
 rw [told_seal (m := exA) (ex_can (by decide) (by decide)), ex_chain]
 rintro e y3 ⟨rfl, hb⟩
 replace M := qH (M.out.to hb)
 replace A := qH (A.out.to hb)
 replace BB := qH (BB.out.to hb)
 replace CW := qH (CW.out.to hb)
 replace NA := qH (NA.out.to hb)
 replace NB := qH (NB.out.to hb)
 replace RC := qH (RC.out.to hb)
 replace RA := qH (RA.out.to hb)
 replace RB := qH (RB.out.to hb)
 replace R1 := qH (R1.out.to hb)
 replace B := qH (B.out.trans (hb.mono B.out.size))
 clear hb
 go_wp2_with (refine wpList_load_rowGm (by rfl) 30 _ rfl gb rfl 30 (mfL exB v1).toArray (0, 0) _ BB.out.row Tryz.underlying30 rfl SB.out ?_)
 refine (lToldM v1 exB true y3 (HP.out.to B.out) ⟨BB.out.1, R1.out⟩ D.out).mono ?_
 rw [told_seal (m := exB) (ex_can (by decide) (by decide)), ex_stale]
 rintro e y4 ⟨rfl, hb⟩
 replace M := qH (M.out.to hb)
 replace A := qH (A.out.to hb)
 replace BB := qH (BB.out.to hb)
 replace CW := qH (CW.out.to hb)
 replace NA := qH (NA.out.to hb)
 replace NB := qH (NB.out.to hb)
 replace RC := qH (RC.out.to hb)
 replace RA := qH (RA.out.to hb)
 replace RB := qH (RB.out.to hb)
 replace R1 := qH (R1.out.to hb)
 replace B := qH (B.out.trans (hb.mono B.out.size))
 clear hb
 go_wp2_with (refine wpList_load_rowGm (by rfl) 30 _ rfl gc rfl 30 (mfL exW vc).toArray (0, 0) _ CW.out.row Tryz.underlying30 rfl SC.out ?_)
 refine (lToldM vc exW true y4 (HP.out.to B.out) ⟨CW.out.1, RC.out⟩ DC.out).mono ?_
 rw [told_seal (m := exW) ex_canW, ex_sched]
 rintro e y5 ⟨rfl, hb⟩
 replace M := qH (M.out.to hb)
 replace A := qH (A.out.to hb)
 replace BB := qH (BB.out.to hb)
 replace CW := qH (CW.out.to hb)
 replace NA := qH (NA.out.to hb)
 replace NB := qH (NB.out.to hb)
 replace RC := qH (RC.out.to hb)
 replace RA := qH (RA.out.to hb)
 replace RB := qH (RB.out.to hb)
 replace R1 := qH (R1.out.to hb)
 replace B := qH (B.out.trans (hb.mono B.out.size))
 clear hb
 go_wp2_with (refine wpList_load_rowGm (by rfl) 30 _ rfl g7 rfl 30 (mfL ⟨0, zeros32, 1, exCf, exT0⟩ va).toArray (0, 0) _ NA.out.row Tryz.underlying30 rfl SY.out ?_)
 refine (wCanM va ⟨0, zeros32, 1, exCf, exT0⟩ y5 ⟨NA.out.1, RA.out⟩ D7.out).mono ?_
 rw [show canM ⟨0, zeros32, 1, exCf, exT0⟩ = false from rfl]
 rintro e y6 ⟨rfl, hb⟩
 replace M := qH (M.out.to hb)
 replace A := qH (A.out.to hb)
 replace BB := qH (BB.out.to hb)
 replace CW := qH (CW.out.to hb)
 replace NA := qH (NA.out.to hb)
 replace NB := qH (NB.out.to hb)
 replace RC := qH (RC.out.to hb)
 replace RA := qH (RA.out.to hb)
 replace RB := qH (RB.out.to hb)
 replace R1 := qH (R1.out.to hb)
 replace B := qH (B.out.trans (hb.mono B.out.size))
 clear hb
 go_wp2_with (refine wpList_load_rowGm (by rfl) 30 _ rfl (g7 + 1) rfl 30 (mfL ⟨1, zeros32, 9, exCf, exT0⟩ vb).toArray (0, 0) _ NB.out.row Tryz.underlying30 rfl SX.out ?_)
 refine (wCanM vb ⟨1, zeros32, 9, exCf, exT0⟩ y6 ⟨NB.out.1, RB.out⟩ D8.out).mono ?_
 rw [show canM ⟨1, zeros32, 9, exCf, exT0⟩ = false from rfl]
 rintro e y7 ⟨rfl, hb⟩
 replace B := qH (B.out.trans (hb.mono B.out.size))
 clear hb
 go_wp2_with fail
 go_ret
 exact ⟨rfl, B.out⟩
end
end Go.Proofs.YtlmdidblgeeplaaGreatDoor