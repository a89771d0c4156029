/- A region that draws its order, by what each operation leaves: the first n operations (each with a slot of its own; those behind wait for all of them) come in whatever order; of each it is shown once that it leaves a value that is as told. Own work over the library's Orders, OrdersHeld. No program is named. -/
import Derived.OrdersHeld
import Derived.Deep.RegionHeld
import Derived.Test.YtecedmjhhaabgaaKitO
namespace Go.Proofs.Ytecedmjhhaabgaa
open Go Go.RowKit
set_option linter.unusedVariables false
set_option linter.unusedSimpArgs false

section
variable {P : Program} {md : Region.Mode} {ops : Array Oper} {Q : Exit → Act → World → Prop}

/-- The slots ds with the values xs. -/
def Xs (a : Act) : List Tmp → List Value → Act
  | d :: ds, x :: xs => Xs { a with tmps := a.tmps.setIfInBounds d x } ds xs
  | _, _ => a
/-- What one operation must come to. -/
def StepI (P : Program) (md : Region.Mode) (ops : Array Oper) (Q : Exit → Act → World → Prop) (S : World → Prop) (ds : List Tmp) (spec : Nat → Value → World → Prop) (a : Act) (j : Nat) : Prop :=
  ∀ (xs : List Value) (w : World), xs.length = ds.length → S w → (∀ o, ops[j]? = some o → ∀ e ∈ o.after, Region.binds md e = true → spec e.on (xs.getD e.on undef) w) →
    wpOp P ops Q j (fun a1 w1 => ∃ v, a1 = Xs a ds (xs.set j v) ∧ S w1 ∧ spec j v w1 ∧ Below w.heap.size w w1) (Xs a ds xs) w
theorem StepI.mk {S : World → Prop} {ds : List Tmp} {spec : Nat → Value → World → Prop} {a : Act} {j : Nat} {o : Oper} (ho : ops[j]? = some o)
    (h : ∀ (xs : List Value) (w : World), xs.length = ds.length → S w → (∀ e ∈ o.after, Region.binds md e = true → spec e.on (xs.getD e.on undef) w) →
      ∀ K' : Act → World → Prop, Shut (∀ v w1, S w1 → spec j v w1 → Below w.heap.size w w1 → K' (Xs a ds (xs.set j v)) w1) → if Region.wanted o (yielded ops (Xs a ds xs).tmps) = true then Oper.wp P o (Xs a ds xs) w K' Q else K' ((Xs a ds xs).put o.dst undef) w) : StepI P md ops Q S ds spec a j :=
  fun xs w hl hS hd => wpOp_step ho (fun K' hK => h xs w hl hS (fun e he hb => hd o ho e he hb) K' (fun v w1 h1 h2 h3 => hK _ _ ⟨v, rfl, h1, h2, h3⟩))
/-- How many of the first n have not come up. -/
def leftN (L : Array Bool) : Nat → Nat
  | 0 => 0
  | n + 1 => leftN L n + (if L.getD n false = true then 0 else 1)
theorem leftN_zero {L : Array Bool} : ∀ {n : Nat}, leftN L n = 0 → ∀ j, j < n → L.getD j false = true
  | 0, _, j, hj => absurd hj (Nat.not_lt_zero _)
  | n + 1, h, j, hj => by
    rw [leftN] at h
    rcases Nat.lt_or_ge j n with g | g
    · exact leftN_zero (by omega) j g
    · obtain rfl : j = n := by omega
      cases e : L.getD j false with
      | true => rfl
      | false => rw [e] at h; simp at h
theorem leftN_set {L : Array Bool} {i : Nat} (hi : L.getD i true = false) : ∀ {n : Nat}, leftN (L.setIfInBounds i true) n + (if i < n then 1 else 0) = leftN L n
  | 0 => rfl
  | n + 1 => by
    have ih := leftN_set (L := L) (i := i) hi (n := n)
    have hlt : i < L.size := by
      rcases Nat.lt_or_ge i L.size with h | h
      · exact h
      · simp [Array.getElem?_eq_none h] at hi
    rw [leftN, leftN]
    by_cases hin : i = n
    · subst hin
      have e1 : (L.setIfInBounds i true).getD i false = true := by simp [hlt]
      have e2 : ¬ L.getD i false = true := by
        simp only [Array.getD_eq_getD_getElem?, Array.getElem?_eq_getElem hlt, Option.getD_some] at hi ⊢
        simp [hi]
      rw [if_pos e1, if_neg e2, if_pos (Nat.lt_succ_self _)]
      rw [if_neg (Nat.lt_irrefl _)] at ih
      omega
    · rw [getD_set_ne false hin]
      generalize (if L.getD n false = true then 0 else 1) = z
      by_cases h : i < n
      · rw [if_pos h] at ih
        rw [if_pos (by omega)]
        omega
      · rw [if_neg h] at ih
        rw [if_neg (by omega)]
        omega
theorem leftN_pos {L : Array Bool} : ∀ {n : Nat}, 0 < leftN L n → ∃ j, j < n ∧ L.getD j false = false ∧ ∀ i, i < j → L.getD i false = true
  | 0, h => absurd h (Nat.lt_irrefl 0)
  | n + 1, h => by
    by_cases h0 : 0 < leftN L n
    · obtain ⟨j, hj, h1, h2⟩ := leftN_pos h0
      exact ⟨j, by omega, h1, h2⟩
    · rw [leftN] at h
      have hz : leftN L n = 0 := by omega
      refine ⟨n, Nat.lt_succ_self _, ?_, leftN_zero hz⟩
      cases e : L.getD n false with
      | false => rfl
      | true => rw [e] at h; simp at h; omega
def depsB (md : Region.Mode) (ops : Array Oper) (n : Nat) : Bool := (List.range n).all fun j => match ops[j]? with | some o => o.after.all fun e => !Region.binds md e || decide (e.on < j) | none => false
def depsOf (md : Region.Mode) (ops : Array Oper) (i : Nat) : List Nat := match ops[i]? with | some o => (o.after.toList.filter (Region.binds md)).map (·.on) | none => []
def lastB (md : Region.Mode) (ops : Array Oper) (n : Nat) : Bool := (List.range ops.size).all fun j => decide (j < n) || (List.range n).all fun i => (depsOf md ops j).any fun m => m == i || (depsOf md ops m).contains i
/-- What has come up has what it waits for behind it. -/
def Closed (md : Region.Mode) (ops : Array Oper) (L : Array Bool) : Prop := ∀ i, L.getD i false = true → ∀ k ∈ depsOf md ops i, L.getD k false = true
theorem mem_depsOf {i k : Nat} {o : Oper} (ho : ops[i]? = some o) : k ∈ depsOf md ops i ↔ ∃ e ∈ o.after, Region.binds md e = true ∧ e.on = k := by
  unfold depsOf
  rw [ho]
  simp [List.mem_map, List.mem_filter, and_assoc]
theorem Closed.set {L : Array Bool} {j : Nat} (h : Closed md ops L) (hj : j ∈ Region.ready md ops L) : Closed md ops (L.setIfInBounds j true) := fun i hi k hk => by
  by_cases hij : i = j
  · subst hij
    obtain ⟨_, o, ho, hall⟩ := mem_ready.1 hj
    obtain ⟨e, he, hb, rfl⟩ := (mem_depsOf ho).1 hk
    exact getD_set_true (hall e he hb)
  · rw [getD_set_ne false (Ne.symm hij)] at hi
    exact getD_set_true (h i hi k hk)
/-- What waits for all of the first n is not ready while one of them is missing. -/
theorem last_not {n j j0 : Nat} {L : Array Bool} (hlast : lastB md ops n = true) (hc : Closed md ops L) (hj : j ∈ Region.ready md ops L) (hj0 : j0 < n) (hu : L.getD j0 false = false) : j < n := by
  obtain ⟨_, o, ho, hall⟩ := mem_ready.1 hj
  have hjlt : j < ops.size := (Array.getElem?_eq_some_iff.1 ho).1
  rcases Nat.lt_or_ge j n with g | g
  · exact g
  · unfold lastB at hlast
    rw [List.all_eq_true] at hlast
    have := hlast j (List.mem_range.2 hjlt)
    rw [decide_eq_false (by omega), Bool.false_or, List.all_eq_true] at this
    have h1 := this j0 (List.mem_range.2 hj0)
    rw [List.any_eq_true] at h1
    obtain ⟨m, hm, h2⟩ := h1
    obtain ⟨e, he, hb, rfl⟩ := (mem_depsOf ho).1 hm
    have hl := hall e he hb
    rw [Bool.or_eq_true, beq_iff_eq, List.contains_iff_mem] at h2
    rcases h2 with h2 | h2
    · rw [h2, hu] at hl; cases hl
    · have := hc _ hl _ h2
      rw [hu] at this; cases this
def listB (m n : Nat) (L : Array Bool) : Bool := L.size == m && (List.range m).all fun j => L.getD j true == decide (j < n)
theorem getD_in {L : Array Bool} {j : Nat} (h : j < L.size) : L.getD j true = L.getD j false := by simp [Array.getElem?_eq_getElem h]
/-- THE RULE. -/
theorem wpAny_inv {n : Nat} {ds : List Tmp} {spec : Nat → Value → World → Prop} {S : World → Prop} {a : Act} {Lf : Array Bool} (hn : n ≤ ops.size) (hlen : ds.length = n) (hdep : depsB md ops n = true) (hlast : lastB md ops n = true) (hLf : listB ops.size n Lf = true)
    (mono : ∀ i v w w1, i < n → spec i v w → Below w.heap.size w w1 → spec i v w1) (step : ∀ j, j < n → StepI P md ops Q S ds spec a j)
    (fin : ∀ xs w, xs.length = n → S w → (∀ i, i < n → spec i (xs.getD i undef) w) → wpAny P md ops Q (ops.size - n) Lf (Xs a ds xs) w) :
    ∀ (c : Nat) (L : Array Bool) (xs : List Value) (w : World), Closed md ops L → L.size = ops.size → (∀ j, n ≤ j → j < ops.size → L.getD j false = false) → leftN L n = c → xs.length = n → S w → (∀ i, i < n → L.getD i false = true → spec i (xs.getD i undef) w) →
      wpAny P md ops Q (c + (ops.size - n)) L (Xs a ds xs) w
  | 0, L, xs, w, _, hs, hl, hc, hx, hS, hi => by
    have hall := leftN_zero hc
    have e : L = Lf := by
      unfold listB at hLf
      simp only [Bool.and_eq_true, beq_iff_eq, List.all_eq_true, List.mem_range] at hLf
      refine Array.ext (by rw [hs, hLf.1]) (fun j h1 h2 => ?_)
      have h3 := hLf.2 j (by omega)
      have e1 : L[j] = L.getD j false := by simp [Array.getElem?_eq_getElem h1]
      have e2 : Lf[j] = Lf.getD j true := by simp [Array.getElem?_eq_getElem h2]
      rw [e1, e2, h3]
      by_cases hj : j < n
      · rw [hall j hj, decide_eq_true hj]
      · rw [hl j (by omega) (by omega), decide_eq_false hj]
    rw [e, Nat.zero_add]
    exact fin xs w hx hS (fun i hin => hi i hin (hall i hin))
  | c + 1, L, xs, w, hcl, hs, hl, hc, hx, hS, hi => by
    obtain ⟨j0, hj0, hu0, hb0⟩ := leftN_pos (L := L) (n := n) (by omega)
    have hr0 : j0 ∈ Region.ready md ops L := by
      have hlt : j0 < ops.size := by omega
      refine mem_ready.2 ⟨by rw [getD_in (by omega)]; exact hu0, ops[j0], Array.getElem?_eq_getElem hlt, fun e he hb => hb0 _ ?_⟩
      unfold depsB at hdep
      rw [List.all_eq_true] at hdep
      have := hdep j0 (List.mem_range.2 hj0)
      rw [Array.getElem?_eq_getElem hlt] at this
      simp only [Array.all_eq_true_iff_forall_mem, Bool.or_eq_true, Bool.not_eq_true', decide_eq_true_eq] at this
      rcases this e he with h | h
      · rw [hb] at h; cases h
      · exact h
    rw [show c + 1 + (ops.size - n) = (c + (ops.size - n)) + 1 by omega]
    refine ⟨fun h => absurd hr0 (by rw [h]; exact List.not_mem_nil), fun j hj => ?_⟩
    obtain ⟨hju, o, ho, hjd⟩ := mem_ready.1 hj
    have hjlt : j < ops.size := (Array.getElem?_eq_some_iff.1 ho).1
    have hjn : j < n := last_not hlast hcl hj hj0 hu0
    refine wpOp_mono ?_ (step j hjn xs w (by omega) hS (fun o' ho' e he hb => ?_))
    · rintro a1 w1 ⟨v, rfl, hS1, hsp, hbel⟩
      refine wpAny_inv hn hlen hdep hlast hLf mono step fin c (L.setIfInBounds j true) (xs.set j v) w1 (hcl.set hj) (by simpa using hs) (fun i h1 h2 => ?_) ?_ (by simpa using hx) hS1 (fun i hin hli => ?_)
      · rw [getD_set_ne false (by omega)]; exact hl i h1 h2
      · have := leftN_set (L := L) hju (n := n)
        rw [if_pos hjn] at this
        omega
      · by_cases hij : i = j
        · subst hij
          have : (xs.set i v).getD i undef = v := by simp [List.getD, hx, hin]
          rw [this]; exact hsp
        · have : (xs.set j v).getD i undef = xs.getD i undef := by simp [List.getD, List.getElem?_set_ne (Ne.symm hij)]
          rw [this]
          rw [getD_set_ne false (Ne.symm hij)] at hli
          exact mono i _ w w1 hin (hi i hin hli) hbel
    · rw [ho] at ho'
      obtain rfl : o = o' := by injection ho'
      have h2 := hjd e he hb
      have hen : e.on < n := by
        unfold depsB at hdep
        rw [List.all_eq_true] at hdep
        have := hdep j (List.mem_range.2 hjn)
        rw [ho] at this
        simp only [Array.all_eq_true_iff_forall_mem, Bool.or_eq_true, Bool.not_eq_true', decide_eq_true_eq] at this
        rcases this e he with h | h
        · rw [hb] at h; cases h
        · omega
      exact hi _ hen h2
theorem leftN_false {m : Nat} : ∀ {n : Nat}, leftN (Array.replicate m false) n = n
  | 0 => rfl
  | n + 1 => by
    rw [leftN, leftN_false, if_neg]
    simp [Array.getElem?_replicate]
    split <;> simp
/-- The rule at a region's beginning. -/
theorem region_inv {id n : Nat} {ds : List Tmp} {S : World → Prop} {a : Act} {w : World} (spec : Nat → Value → World → Prop) (Lf : Array Bool) (xs0 : List Value) (hm : P.follows .mixedOrders = true) (hn : n ≤ ops.size) (hlen : ds.length = n) (hdep : depsB .any ops n = true) (hlast : lastB .any ops n = true) (hLf : listB ops.size n Lf = true)
    (h0 : Xs a ds xs0 = a) (hl0 : xs0.length = n) (hS : S w.drew) (mono : ∀ i v w w1, i < n → spec i v w → Below w.heap.size w w1 → spec i v w1) (step : ∀ j, j < n → StepI P .any ops Q S ds spec a j)
    (fin : ∀ xs w, xs.length = n → S w → (∀ i, i < n → spec i (xs.getD i undef) w) → wpAny P .any ops Q (ops.size - n) Lf (Xs a ds xs) w) : (Code.region id ops true).wp P Q a w := by
  refine wp_region_any hm ?_
  have := wpAny_inv hn hlen hdep hlast hLf mono step fin n (Array.replicate ops.size false) xs0 w.drew (fun i hi => by simp [Array.getElem?_replicate] at hi; split at hi <;> simp at hi) (by simp) (fun j _ _ => by simp [Array.getElem?_replicate]; split <;> simp) leftN_false hl0 hS (fun i _ h => by simp [Array.getElem?_replicate] at h; split at h <;> simp at h)
  rw [h0, show n + (ops.size - n) = ops.size by omega] at this
  exact this
/-- The same, and how what came up before stands to what comes up (rel i u j v: i came up with u ahead of j with v). -/
def StepJ (P : Program) (md : Region.Mode) (ops : Array Oper) (Q : Exit → Act → World → Prop) (n : Nat) (S : World → Prop) (ds : List Tmp) (spec : Nat → Value → World → Prop) (rel : Nat → Value → Nat → Value → Prop) (a : Act) (j : Nat) : Prop :=
  ∀ (xs : List Value) (w : World), xs.length = ds.length → S w → (∀ o, ops[j]? = some o → ∀ e ∈ o.after, Region.binds md e = true → spec e.on (xs.getD e.on undef) w) →
    wpOp P ops Q j (fun a1 w1 => ∃ v, a1 = Xs a ds (xs.set j v) ∧ S w1 ∧ spec j v w1 ∧ (∀ i u, i < n → i ≠ j → spec i u w → rel i u j v) ∧ Below w.heap.size w w1) (Xs a ds xs) w
theorem StepJ.mk {n : Nat} {S : World → Prop} {ds : List Tmp} {spec : Nat → Value → World → Prop} {rel : Nat → Value → Nat → Value → Prop} {a : Act} {j : Nat} {o : Oper} (ho : ops[j]? = some o)
    (h : ∀ (xs : List Value) (w : World), xs.length = ds.length → S w → (∀ e ∈ o.after, Region.binds md e = true → spec e.on (xs.getD e.on undef) w) →
      ∀ K' : Act → World → Prop, Shut (∀ v w1, S w1 → spec j v w1 → (∀ i u, i < n → i ≠ j → spec i u w → rel i u j v) → Below w.heap.size w w1 → K' (Xs a ds (xs.set j v)) w1) → if Region.wanted o (yielded ops (Xs a ds xs).tmps) = true then Oper.wp P o (Xs a ds xs) w K' Q else K' ((Xs a ds xs).put o.dst undef) w) : StepJ P md ops Q n S ds spec rel a j :=
  fun xs w hl hS hd => wpOp_step ho (fun K' hK => h xs w hl hS (fun e he hb => hd o ho e he hb) K' (fun v w1 h1 h2 h4 h3 => hK _ _ ⟨v, rfl, h1, h2, h4, h3⟩))
theorem wpAny_invR {n : Nat} {ds : List Tmp} {spec : Nat → Value → World → Prop} {rel : Nat → Value → Nat → Value → Prop} {S : World → Prop} {a : Act} {Lf : Array Bool} (hn : n ≤ ops.size) (hlen : ds.length = n) (hdep : depsB md ops n = true) (hlast : lastB md ops n = true) (hLf : listB ops.size n Lf = true)
    (mono : ∀ i v w w1, i < n → spec i v w → Below w.heap.size w w1 → spec i v w1) (step : ∀ j, j < n → StepJ P md ops Q n S ds spec rel a j)
    (fin : ∀ xs w, xs.length = n → S w → (∀ i, i < n → spec i (xs.getD i undef) w) → (∀ i j, i < n → j < n → i ≠ j → rel i (xs.getD i undef) j (xs.getD j undef) ∨ rel j (xs.getD j undef) i (xs.getD i undef)) → wpAny P md ops Q (ops.size - n) Lf (Xs a ds xs) w) :
    ∀ (c : Nat) (L : Array Bool) (xs : List Value) (w : World), Closed md ops L → L.size = ops.size → (∀ j, n ≤ j → j < ops.size → L.getD j false = false) → leftN L n = c → xs.length = n → S w → (∀ i, i < n → L.getD i false = true → spec i (xs.getD i undef) w) →
      (∀ i j, i < n → j < n → i ≠ j → L.getD i false = true → L.getD j false = true → rel i (xs.getD i undef) j (xs.getD j undef) ∨ rel j (xs.getD j undef) i (xs.getD i undef)) → wpAny P md ops Q (c + (ops.size - n)) L (Xs a ds xs) w
  | 0, L, xs, w, _, hs, hl, hc, hx, hS, hi, hr => by
    have hall := leftN_zero hc
    have e : L = Lf := by
      unfold listB at hLf
      simp only [Bool.and_eq_true, beq_iff_eq, List.all_eq_true, List.mem_range] at hLf
      refine Array.ext (by rw [hs, hLf.1]) (fun j h1 h2 => ?_)
      have h3 := hLf.2 j (by omega)
      have e1 : L[j] = L.getD j false := by simp [Array.getElem?_eq_getElem h1]
      have e2 : Lf[j] = Lf.getD j true := by simp [Array.getElem?_eq_getElem h2]
      rw [e1, e2, h3]
      by_cases hj : j < n
      · rw [hall j hj, decide_eq_true hj]
      · rw [hl j (by omega) (by omega), decide_eq_false hj]
    rw [e, Nat.zero_add]
    exact fin xs w hx hS (fun i hin => hi i hin (hall i hin)) (fun i j h1 h2 h3 => hr i j h1 h2 h3 (hall i h1) (hall j h2))
  | c + 1, L, xs, w, hcl, hs, hl, hc, hx, hS, hi, hr => by
    obtain ⟨j0, hj0, hu0, hb0⟩ := leftN_pos (L := L) (n := n) (by omega)
    have hr0 : j0 ∈ Region.ready md ops L := by
      have hlt : j0 < ops.size := by omega
      refine mem_ready.2 ⟨by rw [getD_in (by omega)]; exact hu0, ops[j0], Array.getElem?_eq_getElem hlt, fun e he hb => hb0 _ ?_⟩
      unfold depsB at hdep
      rw [List.all_eq_true] at hdep
      have := hdep j0 (List.mem_range.2 hj0)
      rw [Array.getElem?_eq_getElem hlt] at this
      simp only [Array.all_eq_true_iff_forall_mem, Bool.or_eq_true, Bool.not_eq_true', decide_eq_true_eq] at this
      rcases this e he with h | h
      · rw [hb] at h; cases h
      · exact h
    rw [show c + 1 + (ops.size - n) = (c + (ops.size - n)) + 1 by omega]
    refine ⟨fun h => absurd hr0 (by rw [h]; exact List.not_mem_nil), fun j hj => ?_⟩
    obtain ⟨hju, o, ho, hjd⟩ := mem_ready.1 hj
    have hjlt : j < ops.size := (Array.getElem?_eq_some_iff.1 ho).1
    have hjn : j < n := last_not hlast hcl hj hj0 hu0
    refine wpOp_mono ?_ (step j hjn xs w (by omega) hS (fun o' ho' e he hb => ?_))
    · rintro a1 w1 ⟨v, rfl, hS1, hsp, hrl, hbel⟩
      have same : (xs.set j v).getD j undef = v := by simp [List.getD, hx, hjn]
      have other : ∀ i, i ≠ j → (xs.set j v).getD i undef = xs.getD i undef := fun i hij => by simp [List.getD, List.getElem?_set_ne (Ne.symm hij)]
      have listed : ∀ i, i ≠ j → (L.setIfInBounds j true).getD i false = true → L.getD i false = true := fun i hij h => by rwa [getD_set_ne false (Ne.symm hij)] at h
      refine wpAny_invR hn hlen hdep hlast hLf mono step fin c (L.setIfInBounds j true) (xs.set j v) w1 (hcl.set hj) (by simpa using hs) (fun i h1 h2 => ?_) ?_ (by simpa using hx) hS1 (fun i hin hli => ?_) (fun i k h1 h2 h3 h4 h5 => ?_)
      · rw [getD_set_ne false (by omega)]; exact hl i h1 h2
      · have := leftN_set (L := L) hju (n := n)
        rw [if_pos hjn] at this
        omega
      · by_cases hij : i = j
        · subst hij
          rw [same]; exact hsp
        · rw [other i hij]
          exact mono i _ w w1 hin (hi i hin (listed i hij hli)) hbel
      · by_cases hij : i = j
        · subst hij
          rw [same, other k (Ne.symm h3)]
          exact .inr (hrl k _ h2 (Ne.symm h3) (hi k h2 (listed k (Ne.symm h3) h5)))
        · by_cases hkj : k = j
          · subst hkj
            rw [same, other i hij]
            exact .inl (hrl i _ h1 hij (hi i h1 (listed i hij h4)))
          · rw [other i hij, other k hkj]
            exact hr i k h1 h2 h3 (listed i hij h4) (listed k hkj h5)
    · rw [ho] at ho'
      obtain rfl : o = o' := by injection ho'
      have h2 := hjd e he hb
      have hen : e.on < n := by
        unfold depsB at hdep
        rw [List.all_eq_true] at hdep
        have := hdep j (List.mem_range.2 hjn)
        rw [ho] at this
        simp only [Array.all_eq_true_iff_forall_mem, Bool.or_eq_true, Bool.not_eq_true', decide_eq_true_eq] at this
        rcases this e he with h | h
        · rw [hb] at h; cases h
        · omega
      exact hi _ hen h2
theorem region_invR {id n : Nat} {ds : List Tmp} {S : World → Prop} {a : Act} {w : World} (spec : Nat → Value → World → Prop) (rel : Nat → Value → Nat → Value → Prop) (Lf : Array Bool) (xs0 : List Value) (hm : P.follows .mixedOrders = true) (hn : n ≤ ops.size) (hlen : ds.length = n) (hdep : depsB .any ops n = true) (hlast : lastB .any ops n = true) (hLf : listB ops.size n Lf = true)
    (h0 : Xs a ds xs0 = a) (hl0 : xs0.length = n) (hS : S w.drew) (mono : ∀ i v w w1, i < n → spec i v w → Below w.heap.size w w1 → spec i v w1) (step : ∀ j, j < n → StepJ P .any ops Q n S ds spec rel a j)
    (fin : ∀ xs w, xs.length = n → S w → (∀ i, i < n → spec i (xs.getD i undef) w) → (∀ i j, i < n → j < n → i ≠ j → rel i (xs.getD i undef) j (xs.getD j undef) ∨ rel j (xs.getD j undef) i (xs.getD i undef)) → wpAny P .any ops Q (ops.size - n) Lf (Xs a ds xs) w) : (Code.region id ops true).wp P Q a w := by
  refine wp_region_any hm ?_
  have hno : ∀ i, (Array.replicate ops.size false).getD i false = true → False := fun i h => by simp [Array.getElem?_replicate] at h; split at h <;> simp at h
  have := wpAny_invR hn hlen hdep hlast hLf mono step fin n (Array.replicate ops.size false) xs0 w.drew (fun i hi => by simp [Array.getElem?_replicate] at hi; split at hi <;> simp at hi) (by simp) (fun j _ _ => by simp [Array.getElem?_replicate]; split <;> simp) leftN_false hl0 hS (fun i _ h => (hno i h).elim) (fun i _ _ _ _ h => (hno i h).elim)
  rw [h0, show n + (ops.size - n) = ops.size by omega] at this
  exact this
theorem len4 {xs : List Value} (h : xs.length = 4) : ∃ x0 x1 x2 x3, xs = [x0, x1, x2, x3] :=
  match xs, h with
  | [x0, x1, x2, x3], _ => ⟨x0, x1, x2, x3, rfl⟩
theorem len5 {xs : List Value} (h : xs.length = 5) : ∃ x0 x1 x2 x3 x4, xs = [x0, x1, x2, x3, x4] :=
  match xs, h with
  | [x0, x1, x2, x3, x4], _ => ⟨x0, x1, x2, x3, x4, rfl⟩
theorem len6 {xs : List Value} (h : xs.length = 6) : ∃ x0 x1 x2 x3 x4 x5, xs = [x0, x1, x2, x3, x4, x5] :=
  match xs, h with
  | [x0, x1, x2, x3, x4, x5], _ => ⟨x0, x1, x2, x3, x4, x5, rfl⟩
theorem len7 {xs : List Value} (h : xs.length = 7) : ∃ x0 x1 x2 x3 x4 x5 x6, xs = [x0, x1, x2, x3, x4, x5, x6] :=
  match xs, h with
  | [x0, x1, x2, x3, x4, x5, x6], _ => ⟨x0, x1, x2, x3, x4, x5, x6, rfl⟩
theorem len8 {xs : List Value} (h : xs.length = 8) : ∃ x0 x1 x2 x3 x4 x5 x6 x7, xs = [x0, x1, x2, x3, x4, x5, x6, x7] :=
  match xs, h with
  | [x0, x1, x2, x3, x4, x5, x6, x7], _ => ⟨x0, x1, x2, x3, x4, x5, x6, x7, rfl⟩
theorem len9 {xs : List Value} (h : xs.length = 9) : ∃ x0 x1 x2 x3 x4 x5 x6 x7 x8, xs = [x0, x1, x2, x3, x4, x5, x6, x7, x8] :=
  match xs, h with
  | [x0, x1, x2, x3, x4, x5, x6, x7, x8], _ => ⟨x0, x1, x2, x3, x4, x5, x6, x7, x8, rfl⟩
theorem len10 {xs : List Value} (h : xs.length = 10) : ∃ x0 x1 x2 x3 x4 x5 x6 x7 x8 x9, xs = [x0, x1, x2, x3, x4, x5, x6, x7, x8, x9] :=
  match xs, h with
  | [x0, x1, x2, x3, x4, x5, x6, x7, x8, x9], _ => ⟨x0, x1, x2, x3, x4, x5, x6, x7, x8, x9, rfl⟩
theorem len11 {xs : List Value} (h : xs.length = 11) : ∃ x0 x1 x2 x3 x4 x5 x6 x7 x8 x9 x10, xs = [x0, x1, x2, x3, x4, x5, x6, x7, x8, x9, x10] :=
  match xs, h with
  | [x0, x1, x2, x3, x4, x5, x6, x7, x8, x9, x10], _ => ⟨x0, x1, x2, x3, x4, x5, x6, x7, x8, x9, x10, rfl⟩
theorem len12 {xs : List Value} (h : xs.length = 12) : ∃ x0 x1 x2 x3 x4 x5 x6 x7 x8 x9 x10 x11, xs = [x0, x1, x2, x3, x4, x5, x6, x7, x8, x9, x10, x11] :=
  match xs, h with
  | [x0, x1, x2, x3, x4, x5, x6, x7, x8, x9, x10, x11], _ => ⟨x0, x1, x2, x3, x4, x5, x6, x7, x8, x9, x10, x11, rfl⟩
theorem len13 {xs : List Value} (h : xs.length = 13) : ∃ x0 x1 x2 x3 x4 x5 x6 x7 x8 x9 x10 x11 x12, xs = [x0, x1, x2, x3, x4, x5, x6, x7, x8, x9, x10, x11, x12] :=
  match xs, h with
  | [x0, x1, x2, x3, x4, x5, x6, x7, x8, x9, x10, x11, x12], _ => ⟨x0, x1, x2, x3, x4, x5, x6, x7, x8, x9, x10, x11, x12, rfl⟩
theorem len14 {xs : List Value} (h : xs.length = 14) : ∃ x0 x1 x2 x3 x4 x5 x6 x7 x8 x9 x10 x11 x12 x13, xs = [x0, x1, x2, x3, x4, x5, x6, x7, x8, x9, x10, x11, x12, x13] :=
  match xs, h with
  | [x0, x1, x2, x3, x4, x5, x6, x7, x8, x9, x10, x11, x12, x13], _ => ⟨x0, x1, x2, x3, x4, x5, x6, x7, x8, x9, x10, x11, x12, x13, rfl⟩
theorem lt_cases {p : Nat → Prop} : ∀ {n : Nat}, (∀ j, j < n → p j) → p n → ∀ j, j < n + 1 → p j := fun h hn j hj => by
  rcases Nat.lt_or_ge j _ with g | g
  · exact h j g
  · obtain rfl : j = _ := Nat.le_antisymm (Nat.lt_succ_iff.1 hj) g
    exact hn
theorem lt_none {p : Nat → Prop} : ∀ j, j < 0 → p j := fun j hj => absurd hj (Nat.not_lt_zero _)
/-- One operation, at whatever value of another slot. -/
theorem setSame (t : Array Value) (d : Nat) : t.setIfInBounds d (t.getD d undef) = t := by
  refine Array.ext (by simp) (fun i h1 h2 => ?_)
  rw [Array.getElem_setIfInBounds]
  split
  · rename_i e; subst e; simp [Array.getElem?_eq_getElem h2]
  · rfl
/-- Two operations, either of which may come up first (a call that makes memory beside an alloc, a buildSlice): each is shown once, at whatever value of the other's slot. -/
theorem wpAnyH_pair {S : World → Prop} {i j di dj : Nat} {oi oj : Oper} (si sj : Value → World → Prop) {f : Nat} {L L2 : Array Bool} {a : Act} {w : World} (hoi : ops[i]? = some oi) (hoj : ops[j]? = some oj) (hdi : oi.dst = some di) (hdj : oj.dst = some dj) (hne : di ≠ dj)
    (hr : Region.ready md ops L = [i, j]) (hri : Region.ready md ops (L.setIfInBounds i true) = [j]) (hrj : Region.ready md ops (L.setIfInBounds j true) = [i]) (h2 : (L.setIfInBounds i true).setIfInBounds j true = L2) (h3 : (L.setIfInBounds j true).setIfInBounds i true = L2) (hS : S w)
    (mi : ∀ v w w1, si v w → Below w.heap.size w w1 → si v w1) (mj : ∀ v w w1, sj v w → Below w.heap.size w w1 → sj v w1)
    (hi : ∀ u w0, S w0 → ∀ K : Act → World → Prop, Shut (∀ v w1, S w1 → si v w1 → Below w0.heap.size w0 w1 → K { a with tmps := (a.tmps.setIfInBounds dj u).setIfInBounds di v } w1) → if Region.wanted oi (yielded ops (a.tmps.setIfInBounds dj u)) = true then Oper.wp P oi { a with tmps := a.tmps.setIfInBounds dj u } w0 K Q else K { a with tmps := (a.tmps.setIfInBounds dj u).setIfInBounds di undef } w0)
    (hj : ∀ u w0, S w0 → ∀ K : Act → World → Prop, Shut (∀ v w1, S w1 → sj v w1 → Below w0.heap.size w0 w1 → K { a with tmps := (a.tmps.setIfInBounds di u).setIfInBounds dj v } w1) → if Region.wanted oj (yielded ops (a.tmps.setIfInBounds di u)) = true then Oper.wp P oj { a with tmps := a.tmps.setIfInBounds di u } w0 K Q else K { a with tmps := (a.tmps.setIfInBounds di u).setIfInBounds dj undef } w0)
    (h : ∀ vi vj w1, S w1 → si vi w1 → sj vj w1 → wpAnyH P md ops Q S f L2 { a with tmps := (a.tmps.setIfInBounds di vi).setIfInBounds dj vj } w1) : wpAnyH P md ops Q S (f + 2) L a w := by
  have hsw : ∀ vi vj, (a.tmps.setIfInBounds dj vj).setIfInBounds di vi = (a.tmps.setIfInBounds di vi).setIfInBounds dj vj := fun vi vj => Array.setIfInBounds_comm _ _ (Ne.symm hne)
  have ha : ∀ d, ({ a with tmps := a.tmps.setIfInBounds d (a.tmps.getD d undef) } : Act) = a := fun d => by rw [setSame]
  refine wpAnyH_ready hr (by simp) (AllReadyH.cons hoi (fun K hK => ?_) (AllReadyH.cons hoj (fun K hK => ?_) AllReadyH.nil))
  · have := hi (a.tmps.getD dj undef) w hS K (fun v w1 hS1 hs1 hb1 => hK.out _ _ hS1 (fun _ => ?_))
    · rw [setSame] at this
      rw [hdi]
      exact this
    · refine wpAnyH_ready hri (by simp) (AllReadyH.cons hoj (fun K2 hK2 => ?_) AllReadyH.nil)
      have := hj v w1 hS1 K2 (fun u w2 hS2 hs2 hb2 => hK2.out _ _ hS2 (fun _ => by rw [h2]; exact h v u w2 hS2 (mi v w1 w2 hs1 hb2) hs2))
      rw [setSame] at *
      rw [hdj]
      exact this
  · have := hj (a.tmps.getD di undef) w hS K (fun v w1 hS1 hs1 hb1 => hK.out _ _ hS1 (fun _ => ?_))
    · rw [setSame] at this
      rw [hdj]
      exact this
    · refine wpAnyH_ready hrj (by simp) (AllReadyH.cons hoi (fun K2 hK2 => ?_) AllReadyH.nil)
      have := hi v w1 hS1 K2 (fun u w2 hS2 hs2 hb2 => hK2.out _ _ hS2 (fun _ => by rw [h3, hsw]; exact h u v w2 hS2 hs2 (mj v w1 w2 hs1 hb2)))
      rw [setSame] at *
      rw [hdi]
      exact this
end
end Go.Proofs.Ytecedmjhhaabgaa
