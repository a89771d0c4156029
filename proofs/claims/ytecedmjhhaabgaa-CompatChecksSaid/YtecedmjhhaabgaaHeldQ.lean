/- Several texts in one (a claim has 60 files at most): HeldE, HeldD. -/
import Derived.OrdersHeld
import Derived.Deep.RegionHeld
namespace Go.Proofs.Ytecedmjhhaabgaa

/- A region that draws its order, under a condition S on the world that need not hold any more once operation number m has come up, which waits for all that is taken by S ('x.f = append(x.f, y)': the load of x.f is taken first, the store is m). Own work over the library's OrdersHeld. No program is named. -/
section
open Go

section
variable {P : Program} {md : Region.Mode} {ops : Array Oper} {Q : Exit → Act → World → Prop} {S : World → Prop} {m : Nat}

/-- Whatever order comes; till m has come up the condition holds behind each operation. -/
def AnyE (P : Program) (md : Region.Mode) (ops : Array Oper) (Q : Exit → Act → World → Prop) (S : World → Prop) (m : Nat) : Nat → Array Bool → Act → World → Prop
  | 0, L, a, w => Region.ready md ops L = [] ∧ Q .normal a w
  | f + 1, L, a, w => (Region.ready md ops L = [] → Q .normal a w) ∧
      ∀ j, j ∈ Region.ready md ops L → wpOp P ops Q j (fun a1 w1 => ((L.setIfInBounds j true).getD m true = false → S w1) ∧ AnyE P md ops Q S m f (L.setIfInBounds j true) a1 w1) a w
theorem AnyE.plain : ∀ {f : Nat} {L : Array Bool} {a : Act} {w : World}, AnyE P md ops Q S m f L a w → wpAny P md ops Q f L a w
  | 0, _, _, _, h => h
  | _ + 1, _, _, _, h => ⟨h.1, fun j hj => wpOp_mono (fun _ _ h1 => AnyE.plain h1.2) (h.2 j hj)⟩
/-- The operations of Bl wait, one for another, for number i. -/
def Waits (md : Region.Mode) (ops : Array Oper) (i : Nat) (Bl : List Nat) : Prop :=
  ∀ j ∈ Bl, j ≠ i → ∃ o, ops[j]? = some o ∧ ∃ e ∈ o.after, Region.binds md e = true ∧ e.on ∈ Bl
theorem Waits.out {i : Nat} {Bl : List Nat} {L : Array Bool} (h : Waits md ops i Bl) (hu : ∀ j ∈ Bl, L.getD j true = false) {j : Nat} (hj : j ∈ Region.ready md ops L) (hne : j ≠ i) : j ∉ Bl := fun hb => by
  obtain ⟨o, ho, e, he, hbi, hon⟩ := h j hb hne
  obtain ⟨_, o', ho', hall⟩ := mem_ready.1 hj
  rw [ho] at ho'
  injection ho' with ho'
  subst ho'
  have h1 := hall e he hbi
  have h2 := hu e.on hon
  rcases Nat.lt_or_ge e.on L.size with g | g
  · rw [Array.getD_eq_getD_getElem?, Array.getElem?_eq_getElem g] at h1 h2
    simp only [Option.getD_some] at h1 h2
    rw [h1] at h2; cases h2
  · rw [Array.getD_eq_getD_getElem?, Array.getElem?_eq_none g] at h1
    cases h1
/-- Number i, whose value hangs on S alone, may come up first, if m waits for it. -/
theorem AnyE.first {i : Nat} {oi : Oper} {v : Value} (hi : ops[i]? = some oi) (hsel : Region.noSelect ops = true) (hQ : ∀ c a w, Q (.panic c) (a.put oi.dst v) w → Q (.panic c) a w)
    {Bl : List Nat} (hW : Waits md ops i Bl) (hib : i ∈ Bl) (hmb : m ∈ Bl) (hmi : m ≠ i) : ∀ (f : Nat) (L : Array Bool) (a : Act) (w : World),
      (∀ j oj, ops[j]? = some oj → j ≠ i → L.getD j true = false → (∀ e ∈ oj.after, Region.binds md e = true → e.on ≠ i) → oi.apart ops oj = true) →
      (∀ j ∈ Bl, L.getD j true = false) → i ∈ Region.ready md ops L → YieldsIf P ops S oi v a → S w →
      AnyE P md ops Q S m f (L.setIfInBounds i true) (a.put oi.dst v) w → AnyE P md ops Q S m (f + 1) L a w
  | f, L, a, w, hap, hu, hr, hy, hS, H => by
    refine ⟨fun h0 => (by rw [h0] at hr; cases hr), fun j hj => ?_⟩
    by_cases hji : j = i
    · rw [hji]; exact hy.wpOp hi hS ⟨fun _ => hS, H⟩
    have hj2 : j ∈ Region.ready md ops (L.setIfInBounds i true) := ready_mono hj hji
    have hjb : j ∉ Bl := hW.out hu hj hji
    have hjm : j ≠ m := fun e => hjb (e ▸ hmb)
    cases f with
    | zero => rw [H.1] at hj2; cases hj2
    | succ f =>
      obtain ⟨hjun, oj, hoj, hall⟩ := mem_ready.1 hj
      have hdirect : ∀ e ∈ oj.after, Region.binds md e = true → e.on ≠ i := fun e he hb eq => by
        have h1 := hall e he hb
        have h0 := (mem_ready.1 hr).1
        rw [eq] at h1
        rcases Nat.lt_or_ge i L.size with g | g
        · rw [Array.getD_eq_getD_getElem?, Array.getElem?_eq_getElem g] at h0 h1
          simp only [Option.getD_some] at h0 h1
          rw [h0] at h1; cases h1
        · rw [Array.getD_eq_getD_getElem?, Array.getElem?_eq_none g] at h1
          cases h1
      refine wpOp_mono ?_ (wpOp_putIf hoj (hap j oj hoj hji hjun hdirect) (fun cs b => Region.noSelect_spec hsel i oi cs b hi) (fun cs b => Region.noSelect_spec hsel j oj cs b hoj) hQ hy (H.2 j hj2))
      rintro a1 w1 ⟨hy1, hS1, H1⟩
      have hu1 : ∀ x ∈ Bl, (L.setIfInBounds j true).getD x true = false := fun x hx => (getD_set_ne true (show j ≠ x from fun e => hjb (by rw [e]; exact hx))).trans (hu x hx)
      have hS2 : S w1 := hS1 (by rw [getD_set_ne true hjm, getD_set_ne true (Ne.symm hmi)]; exact hu m hmb)
      refine ⟨fun _ => hS2, AnyE.first hi hsel hQ hW hib hmb hmi f (L.setIfInBounds j true) a1 w1 (fun x ox hox hxi hxu hxd => hap x ox hox hxi ?_ hxd) hu1 (ready_mono hr (Ne.symm hji)) hy1 hS2 ?_⟩
      · by_cases hjx : j = x
        · exact hjx ▸ hjun
        · rwa [getD_set_ne true hjx] at hxu
      · rw [Array.setIfInBounds_comm _ _ hji]; exact H1

/-- Those that wait for number i, reckoned. -/
def waiters (md : Region.Mode) (ops : Array Oper) (i : Nat) : List Nat :=
  (List.range ops.size).foldl (fun B j => if j == i then B ++ [j] else match ops[j]? with
    | some o => if o.after.any (fun e => Region.binds md e && B.contains e.on) then B ++ [j] else B
    | none => B) []
/-- The conditions under which number i may be taken, m being left out. -/
def takesB (md : Region.Mode) (ops : Array Oper) (L : Array Bool) (m i : Nat) : Bool :=
  let Bl := waiters md ops i
  Bl.contains i && Bl.contains m && m != i && (Bl.all fun j => !L.getD j true) && Bl.all fun j => j == i || match ops[j]? with
    | some o => o.after.any fun e => Region.binds md e && Bl.contains e.on
    | none => false
theorem AnyE.take {i : Nat} {oi : Oper} {v : Value} {f : Nat} {L : Array Bool} {a : Act} {w : World} (hi : ops[i]? = some oi) (hs : Region.noSelect ops = true) (hf : Region.free md ops L i = true) (hr : (Region.ready md ops L).contains i = true) (hb : takesB md ops L m i = true)
    (hQ : ∀ c a w, Q (.panic c) (a.put oi.dst v) w → Q (.panic c) a w) (hy : YieldsIf P ops S oi v a) (hS : S w) (h : AnyE P md ops Q S m f (L.setIfInBounds i true) (a.put oi.dst v) w) : AnyE P md ops Q S m (f + 1) L a w := by
  simp only [takesB, Bool.and_eq_true, bne_iff_ne, ne_eq, List.all_eq_true, Bool.not_eq_true', Bool.or_eq_true, beq_iff_eq, List.contains_iff_mem] at hb
  obtain ⟨⟨⟨⟨h1, h2⟩, h3⟩, h4⟩, h5⟩ := hb
  refine AnyE.first hi hs hQ (Bl := waiters md ops i) (fun j hj hne => ?_) h1 h2 h3 f L a w (Region.free_spec hi hf) h4 (by simpa using hr) hy hS h
  rcases h5 j hj with h6 | h6
  · exact absurd h6 hne
  · cases ho : ops[j]? with
    | none => rw [ho] at h6; cases h6
    | some o =>
      rw [ho] at h6
      obtain ⟨e, he, hb⟩ := Array.any_eq_true'.1 h6
      simp only [Bool.and_eq_true, List.contains_iff_mem] at hb
      exact ⟨o, rfl, e, he, hb.1, hb.2⟩
/-- Number i, whose value hangs on no world, may come up first. -/
theorem AnyE.firstAny {i : Nat} {oi : Oper} {v : Value} (hi : ops[i]? = some oi) (hmi : m ≠ i) (hsel : Region.noSelect ops = true) (hQ : ∀ c a w, Q (.panic c) (a.put oi.dst v) w → Q (.panic c) a w) : ∀ (f : Nat) (L : Array Bool) (a : Act) (w : World),
      (∀ j oj, ops[j]? = some oj → j ≠ i → L.getD j true = false → (∀ e ∈ oj.after, Region.binds md e = true → e.on ≠ i) → oi.apart ops oj = true) →
      i ∈ Region.ready md ops L → YieldsIf P ops (fun _ => True) oi v a → (L.getD m true = false → S w) →
      AnyE P md ops Q S m f (L.setIfInBounds i true) (a.put oi.dst v) w → AnyE P md ops Q S m (f + 1) L a w
  | f, L, a, w, hap, hr, hy, hS, H => by
    refine ⟨fun h0 => (by rw [h0] at hr; cases hr), fun j hj => ?_⟩
    by_cases hji : j = i
    · rw [hji]; exact hy.wpOp hi trivial ⟨fun h => hS (by rwa [getD_set_ne true (Ne.symm hmi)] at h), H⟩
    have hj2 : j ∈ Region.ready md ops (L.setIfInBounds i true) := ready_mono hj hji
    cases f with
    | zero => rw [H.1] at hj2; cases hj2
    | succ f =>
      obtain ⟨hjun, oj, hoj, hall⟩ := mem_ready.1 hj
      have hdirect : ∀ e ∈ oj.after, Region.binds md e = true → e.on ≠ i := fun e he hb eq => by
        have h1 := hall e he hb
        have h0 := (mem_ready.1 hr).1
        rw [eq] at h1
        rcases Nat.lt_or_ge i L.size with g | g
        · rw [Array.getD_eq_getD_getElem?, Array.getElem?_eq_getElem g] at h0 h1
          simp only [Option.getD_some] at h0 h1
          rw [h0] at h1; cases h1
        · rw [Array.getD_eq_getD_getElem?, Array.getElem?_eq_none g] at h1
          cases h1
      refine wpOp_mono ?_ (wpOp_putIf hoj (hap j oj hoj hji hjun hdirect) (fun cs b => Region.noSelect_spec hsel i oi cs b hi) (fun cs b => Region.noSelect_spec hsel j oj cs b hoj) hQ hy (H.2 j hj2))
      rintro a1 w1 ⟨hy1, hS1, H1⟩
      have hS2 : (L.setIfInBounds j true).getD m true = false → S w1 := fun h => hS1 (by
        rw [Array.setIfInBounds_comm _ _ (Ne.symm hji), getD_set_ne true (Ne.symm hmi)]; exact h)
      refine ⟨hS2, AnyE.firstAny hi hmi hsel hQ f (L.setIfInBounds j true) a1 w1 (fun x ox hox hxi hxu hxd => hap x ox hox hxi ?_ hxd) (ready_mono hr (Ne.symm hji)) hy1 hS2 ?_⟩
      · by_cases hjx : j = x
        · exact hjx ▸ hjun
        · rwa [getD_set_ne true hjx] at hxu
      · rw [Array.setIfInBounds_comm _ _ hji]; exact H1
theorem AnyE.takeAny {i : Nat} {oi : Oper} {v : Value} {f : Nat} {L : Array Bool} {a : Act} {w : World} (hi : ops[i]? = some oi) (hmi : m ≠ i) (hs : Region.noSelect ops = true) (hf : Region.free md ops L i = true) (hr : (Region.ready md ops L).contains i = true)
    (hQ : ∀ c a w, Q (.panic c) (a.put oi.dst v) w → Q (.panic c) a w) (hy : YieldsIf P ops (fun _ => True) oi v a) (hS : L.getD m true = false → S w) (h : AnyE P md ops Q S m f (L.setIfInBounds i true) (a.put oi.dst v) w) : AnyE P md ops Q S m (f + 1) L a w :=
  AnyE.firstAny hi hmi hs hQ f L a w (Region.free_spec hi hf) (by simpa using hr) hy hS h
/-- Each of some comes up next. -/
def ReadyE (P : Program) (md : Region.Mode) (ops : Array Oper) (Q : Exit → Act → World → Prop) (S : World → Prop) (m f : Nat) (L : Array Bool) (a : Act) (w : World) (rs : List Nat) : Prop :=
  ∀ i ∈ rs, wpOp P ops Q i (fun a1 w1 => ((L.setIfInBounds i true).getD m true = false → S w1) ∧ AnyE P md ops Q S m f (L.setIfInBounds i true) a1 w1) a w
theorem ReadyE.nil {f : Nat} {L : Array Bool} {a : Act} {w : World} : ReadyE P md ops Q S m f L a w [] := fun _ h => by cases h
theorem ReadyE.cons {f : Nat} {L : Array Bool} {a : Act} {w : World} {i : Nat} {o : Oper} {rs : List Nat} (ho : ops[i]? = some o)
    (h : ∀ K' : Act → World → Prop, Shut (∀ a w, S w → (S w → AnyE P md ops Q S m f (L.setIfInBounds i true) a w) → K' a w) → if Region.wanted o (yielded ops a.tmps) = true then Oper.wp P o a w K' Q else K' (a.put o.dst undef) w)
    (hs : ReadyE P md ops Q S m f L a w rs) : ReadyE P md ops Q S m f L a w (i :: rs) := fun j hj => by
  rcases List.mem_cons.1 hj with rfl | hj
  · exact wpOp_step ho (fun K' hK => h K' (fun a w hS hW => hK a w ⟨fun _ => hS, hW hS⟩))
  · exact hs j hj
/-- Number m itself, or one behind it. -/
theorem ReadyE.last {f : Nat} {L : Array Bool} {a : Act} {w : World} {i : Nat} {o : Oper} (ho : ops[i]? = some o) (hi : (L.setIfInBounds i true).getD m true = true)
    (h : ∀ K' : Act → World → Prop, Shut (∀ a w, True → (True → AnyE P md ops Q S m f (L.setIfInBounds i true) a w) → K' a w) → if Region.wanted o (yielded ops a.tmps) = true then Oper.wp P o a w K' Q else K' (a.put o.dst undef) w) :
    ReadyE P md ops Q S m f L a w [i] := fun j hj => by
  obtain rfl : j = i := by simpa using hj
  exact wpOp_step ho (fun K' hK => h K' (fun a w hS hW => hK a w ⟨fun h => (by rw [hi] at h; cases h), hW trivial⟩))
theorem AnyE.ready {rs : List Nat} {f : Nat} {L : Array Bool} {a : Act} {w : World} (hr : Region.ready md ops L = rs) (hne : rs ≠ []) (h : ReadyE P md ops Q S m f L a w rs) : AnyE P md ops Q S m (f + 1) L a w :=
  ⟨fun h0 => absurd (hr ▸ h0) hne, fun j hj => h j (hr ▸ hj)⟩
theorem AnyE.done {L : Array Bool} {a : Act} {w : World} (hr : Region.ready md ops L = []) (h : Q .normal a w) : ∀ f, AnyE P md ops Q S m f L a w
  | 0 => ⟨hr, h⟩
  | _ + 1 => ⟨fun _ => h, fun j hj => by rw [hr] at hj; cases hj⟩
theorem AnyE.start {id : Nat} {a : Act} {w : World} (hm : P.follows .mixedOrders = true) (hS : S w.drew) (h : S w.drew → AnyE P .any ops Q S m ops.size (Array.replicate ops.size false) a w.drew) : (Code.region id ops true).wp P Q a w :=
  wp_region_any hm (h hS).plain
end
end

/- AnyE.take with the slot named: no simp over the region's text. -/
section
open Go

section
variable {P : Program} {md : Region.Mode} {ops : Array Oper} {Q : Exit → Act → World → Prop} {S : World → Prop} {m : Nat}
theorem AnyE.takeD {i d : Nat} {oi : Oper} {v : Value} {f : Nat} {L : Array Bool} {a : Act} {w : World} (hi : ops[i]? = some oi) (hd : oi.dst = some d) (hs : Region.noSelect ops = true) (hf : Region.free md ops L i = true) (hr : (Region.ready md ops L).contains i = true) (hb : takesB md ops L m i = true)
    (hQ : ∀ c a w, Q (.panic c) (a.put oi.dst v) w → Q (.panic c) a w) (hy : YieldsIf P ops S oi v a) (hS : S w) (h : AnyE P md ops Q S m f (L.setIfInBounds i true) { a with tmps := a.tmps.setIfInBounds d v } w) : AnyE P md ops Q S m (f + 1) L a w :=
  AnyE.take hi hs hf hr hb hQ hy hS (by rw [hd]; exact h)
end
end
end Go.Proofs.Ytecedmjhhaabgaa
