/- Contracts of the document's own Padded and Cut (citadelref01). -/
import Derived.Test.YtpknclidladncaaCut
import Derived.Test.YtpknclidladncaaPad
import Derived.Deep.RegionLaw
import Derived.Deep.AppendLies
namespace Go.Proofs.Ytpknclidladncaa
open Go.RowKit
set_option linter.unusedVariables false

theorem or_ge {P : Prop} {gg n : Nat} (h : P ∨ gg = n + 1) : P ∨ n ≤ gg := by
  rcases h with h | h
  · exact .inl h
  · exact .inr (by omega)
theorem chop_flat {n : Nat} (hn : 0 < n) : ∀ (f : Nat) (xs : List UInt8), xs.length ≤ f → (chop n xs).flatten = xs := by
  intro f
  induction f with
  | zero =>
    intro xs h
    obtain rfl : xs = [] := List.eq_nil_of_length_eq_zero (by omega)
    rw [chop_nil]; rfl
  | succ f ih =>
    intro xs h
    rcases Nat.eq_zero_or_pos xs.length with h0 | h0
    · exact ih xs (by omega)
    · rw [chop_cons hn h0, List.flatten_cons, ih (xs.drop n) (by simp; omega), List.take_append_drop]
theorem chop_last {n : Nat} (hn : 0 < n) {xs : List UInt8} {cs : List (List UInt8)} {p : List UInt8} (h : chop n xs = cs ++ [p]) : p.length ≤ xs.length := by
  have e := chop_flat hn xs.length xs (Nat.le_refl _)
  rw [h] at e
  have := congrArg List.length e
  simp at this; omega
theorem chop_snoc {n : Nat} (hn : 0 < n) (b : UInt8) : ∀ (f : Nat) (xs : List UInt8), xs.length ≤ f →
    (xs.length % n = 0 → chop n (xs ++ [b]) = chop n xs ++ [[b]]) ∧ (xs.length % n ≠ 0 → ∃ cs p, chop n xs = cs ++ [p] ∧ chop n (xs ++ [b]) = cs ++ [p ++ [b]]) := by
  intro f
  induction f with
  | zero =>
    intro xs h
    obtain rfl : xs = [] := List.eq_nil_of_length_eq_zero (by omega)
    refine ⟨fun _ => ?_, fun h => absurd (Nat.zero_mod _) h⟩
    rw [chop_nil, List.nil_append, List.nil_append, chop_cons hn (by simp)]
    rw [List.take_of_length_le (by simp; omega), List.drop_of_length_le (by simp; omega), chop_nil]
  | succ f ih =>
    intro xs h
    rcases Nat.lt_or_ge xs.length n with hl | hl
    · rcases Nat.eq_zero_or_pos xs.length with h0 | h0
      · obtain rfl : xs = [] := List.eq_nil_of_length_eq_zero h0
        exact ih [] (by simp)
      · refine ⟨fun hm => by rw [Nat.mod_eq_of_lt hl] at hm; omega, fun _ => ⟨[], xs, ?_, ?_⟩⟩
        · rw [chop_cons hn h0, List.take_of_length_le (by omega), List.drop_of_length_le (by omega), chop_nil]; rfl
        · rw [chop_cons hn (by simp), List.take_of_length_le (by simp; omega), List.drop_of_length_le (by simp; omega), chop_nil]; rfl
    · have hd : (xs.drop n).length = xs.length - n := by simp
      have hm : (xs.drop n).length % n = xs.length % n := by rw [hd]; exact (Nat.mod_eq_sub_mod hl).symm
      obtain ⟨i1, i2⟩ := ih (xs.drop n) (by rw [hd]; omega)
      have e1 : chop n xs = xs.take n :: chop n (xs.drop n) := chop_cons hn (by omega)
      have e2 : chop n (xs ++ [b]) = xs.take n :: chop n (xs.drop n ++ [b]) := by
        rw [chop_cons hn (by simp), List.take_append_of_le_length hl, List.drop_append_of_le_length hl]
      refine ⟨fun h0 => ?_, fun h0 => ?_⟩
      · rw [e2, e1, i1 (by rw [hm]; exact h0)]; rfl
      · obtain ⟨cs, p, h1, h2⟩ := i2 (by rw [hm]; exact h0)
        exact ⟨xs.take n :: cs, p, by rw [e1, h1]; rfl, by rw [e2, h2]; rfl⟩

theorem OwnRows.keep' {W W' : World} {B : Nat} {vs : List Value} {bss : List (List UInt8)} (h : OwnRows W B vs bss)
    (hk : ∀ (g : Nat) (cur : Array Value), B ≤ g → (∃ v ∈ vs, v.ownBlock = some g) → W.heap[g]? = some (.cells cur 5 (0, 0)) → W'.heap[g]? = W.heap[g]?) : OwnRows W' B vs bss := by
  refine ⟨h.1, fun i hi => ?_, h.2.2⟩
  obtain ⟨g, m, c, e, hm, ho⟩ := h.2.1 i hi
  have hmem : Value.slice (some ⟨g, 0, none⟩) m c ∈ vs := List.mem_of_getElem? e
  refine ⟨g, m, c, e, hm, ho.1, ?_⟩
  rcases ho.2 with ⟨h, _⟩ | ⟨g', cap, cur, hv, hg, hh, hr⟩
  · cases h
  · have hgg : g = g' := by injection hv with hv1 _ _; simpa using hv1
    exact .inr ⟨g', cap, cur, hv, hg, (hk g' cur hg ⟨_, hmem, by simp [Value.ownBlock, hgg]⟩ hh).trans hh, hr⟩
theorem OwnRows.unsnoc {W : World} {B : Nat} {us : List Value} {v : Value} {cs : List (List UInt8)} {p : List UInt8} (h : OwnRows W B (us ++ [v]) (cs ++ [p])) :
    OwnRows W B us cs ∧ ∃ g m c, v = .slice (some ⟨g, 0, none⟩) m c ∧ 0 < m ∧ W.ownsRow B 5 1 (.slice (some ⟨g, 0, none⟩) m c) m (p.map bval) ∧ ∀ u ∈ us, u.ownBlock ≠ some g := by
  have hl : us.length = cs.length := by have := h.1; simp at this; exact this
  have hp := h.2.2
  rw [List.map_append, List.pairwise_append] at hp
  obtain ⟨g, m, c, e, hm, ho⟩ := h.2.1 us.length (by simp)
  rw [List.getElem?_append_right (Nat.le_refl _)] at e
  simp at e
  subst e
  rw [hl] at ho
  have e2 : (cs ++ [p]).getD cs.length [] = p := by simp [List.getD]
  rw [e2] at ho
  refine ⟨⟨hl, fun i hi => ?_, hp.1⟩, g, m, c, rfl, hm, ho, fun u hu => ?_⟩
  · obtain ⟨g', m', c', e', hm', ho'⟩ := h.2.1 i (by simp; omega)
    rw [List.getElem?_append_left hi] at e'
    refine ⟨g', m', c', e', hm', ?_⟩
    rw [show (cs ++ [p]).getD i [] = cs.getD i [] from by simp only [List.getD, List.getElem?_append_left (show i < cs.length by omega)]] at ho'
    exact ho'
  · have := hp.2.2 u.ownBlock (List.mem_map_of_mem hu) (some g) (by simp [Value.ownBlock])
    exact this

/-- Ahead of the store of the byte: the outer row's last slice v is about to grow. -/
structure Stg (B : Nat) (w X : World) (gl cl L : Nat) (us : List Value) (v : Value) (k : Nat) (bss : List (List UInt8)) (pre : List UInt8) : Prop where
  low : Below B w X
  sz : B ≤ X.heap.size
  out : X.ownsRow B 23 1 (.slice (some ⟨gl, 0, none⟩) (L + 1) cl) (L + 1) (us ++ [v])
  rows : OwnRows X B us bss
  last : X.ownsRow B 5 1 v k (pre.map bval)
  apart : ∀ g, v.ownBlock = some g → ∀ u ∈ us, u.ownBlock ≠ some g

theorem Stg.len {B : Nat} {w X : World} {gl cl L : Nat} {us : List Value} {v : Value} {k : Nat} {bss : List (List UInt8)} {pre : List UInt8} (h : Stg B w X gl cl L us v k bss pre) : us.length = L := by
  have := h.out.1; simp at this; exact this
theorem Stg.cell {B : Nat} {w X : World} {gl cl L : Nat} {us : List Value} {v : Value} {k : Nat} {bss : List (List UInt8)} {pre : List UInt8} (h : Stg B w X gl cl L us v k bss pre) : X.cell? ⟨gl, L, none⟩ = some v := by
  rw [h.out.cellAt L (by omega), ← h.len]; simp

/-- Behind it. -/
structure Aft (B : Nat) (w X' : World) (gl cl L : Nat) (us : List Value) (v' : Value) (bss : List (List UInt8)) : Prop where
  out : X'.ownsRow B 23 1 (.slice (some ⟨gl, 0, none⟩) (L + 1) cl) (L + 1) (us ++ [v'])
  rows : OwnRows X' B (us ++ [v']) bss
  low : Below B w X'

theorem Stg.done {B : Nat} {w X Y w1 : World} {gl cl L : Nat} {us : List Value} {v : Value} {k gg cap : Nat} {bss : List (List UInt8)} {pre : List UInt8} {y : UInt8} (h : Stg B w X gl cl L us v k bss pre)
    (hY : Below X.heap.size X Y) (hown1 : w1.ownsRow B 5 1 (.slice (some ⟨gg, 0, none⟩) (k + 1) cap) (k + 1) (pre.map bval ++ [.int .u8 (y.toNat : Int)])) (hgrow : Y.grownBy w1 v.ownBlock) (hat : v.ownBlock = some gg ∨ X.heap.size ≤ gg) :
    w1.cell? ⟨gl, L, none⟩ = some v ∧ w1.frozen? ⟨gl, L, none⟩ = false ∧
      Aft B w (w1.setCell ⟨gl, L, none⟩ (.slice (some ⟨gg, 0, none⟩) (k + 1) cap)) gl cl L us (.slice (some ⟨gg, 0, none⟩) (k + 1) cap) (bss ++ [pre ++ [y]]) := by
  obtain ⟨hgl, curo, hho⟩ := own_lt h.out
  have hglX := heap_lt hho
  have hvne : ∀ g cur T, T ≠ 5 → X.heap[g]? = some (.cells cur T (0, 0)) → some g ≠ v.ownBlock := fun g cur T hT hh e => by
    rcases h.last.2 with ⟨rfl, _⟩ | ⟨g', cap', cur', rfl, _, hh', _⟩
    · simp [Value.ownBlock] at e
    · obtain rfl : g = g' := by simpa [Value.ownBlock] using e
      rw [hh] at hh'; simp at hh'; exact hT hh'.2
  have hkeep : ∀ g, g < X.heap.size → some g ≠ v.ownBlock → w1.heap[g]? = X.heap[g]? := fun g hg hne =>
    (hgrow.block g (Nat.lt_of_lt_of_le hg hY.size) hne).trans (hY.block g hg)
  have hgl1 : w1.heap[gl]? = X.heap[gl]? := hkeep gl hglX (hvne gl curo _ (by decide) hho)
  have hout1 : w1.ownsRow B 23 1 (.slice (some ⟨gl, 0, none⟩) (L + 1) cl) (L + 1) (us ++ [v]) := by
    refine ⟨h.out.1, ?_⟩
    rcases h.out.2 with ⟨h, _⟩ | ⟨g', cap', cur', hv, hg, hh', hr⟩
    · cases h
    · have : gl = g' := by injection hv with hv1 _ _; simpa using hv1
      subst this
      exact .inr ⟨gl, cap', cur', hv, hg, hgl1.trans hh', hr⟩
  have hlen := h.len
  have hset := (hout1.stored L (.slice (some ⟨gg, 0, none⟩) (k + 1) cap)).1
  have hseteq : (us ++ [v]).set L (.slice (some ⟨gg, 0, none⟩) (k + 1) cap) = us ++ [.slice (some ⟨gg, 0, none⟩) (k + 1) cap] := by
    rw [List.set_append_right _ _ (by omega), hlen, Nat.sub_self]; rfl
  rw [hseteq] at hset
  obtain ⟨_, curg, hhg⟩ := own_lt hown1
  have hggl : gg ≠ gl := fun e => by subst e; rw [hgl1, hho] at hhg; simp at hhg
  have hrows1 : OwnRows w1 B us bss := h.rows.keep' fun g cur _ ⟨u, hu, hub⟩ hh => hkeep g (heap_lt hh) (fun e => h.apart g e.symm u hu hub)
  have hsetblk : ∀ g, g ≠ gl → (w1.setCell ⟨gl, L, none⟩ (.slice (some ⟨gg, 0, none⟩) (k + 1) cap)).heap[g]? = w1.heap[g]? := fun g hg => Below.heap_setCell w1 ⟨gl, L, none⟩ _ g hg
  have hrow' : w1.ownsRow B 5 1 (.slice (some ⟨gg, 0, none⟩) (k + 1) cap) (k + 1) ((pre ++ [y]).map bval) := by rw [List.map_append]; exact hown1
  have hR1 : OwnRows w1 B (us ++ [.slice (some ⟨gg, 0, none⟩) (k + 1) cap]) (bss ++ [pre ++ [y]]) := hrows1.snoc (by omega) hrow' fun u hu e => by
    rcases hat with hat | hat
    · exact h.apart gg hat u hu e
    · obtain ⟨i, hi, hiu⟩ := List.getElem_of_mem hu
      obtain ⟨g', m', c', e', _, ho'⟩ := h.rows.2.1 i hi
      rw [List.getElem?_eq_getElem hi, hiu] at e'
      obtain rfl : u = .slice (some ⟨g', 0, none⟩) m' c' := by simpa using e'
      obtain ⟨_, cur, hh⟩ := own_lt ho'
      have h1 := heap_lt hh
      simp [Value.ownBlock] at e
      omega
  refine ⟨?_, ?_, hset, hR1.keep fun g cur _ hh => hsetblk g (fun e => by subst e; rw [hgl1, hho] at hh; simp at hh), ?_⟩
  · rw [hout1.cellAt L (by omega), ← hlen]; simp
  · exact hout1.frozenAt L
  · have h1 : Below B X w1 := (hY.mono h.sz).grown hgrow (Nat.le_trans h.sz hY.size) (fun g e => (h.last.lt g e).1)
    exact (h.low.trans h1).setCell (p := ⟨gl, L, none⟩) hgl _

theorem Stg.fresh {B : Nat} {w wr w1 : World} {A : Option Addr} {L c gl cl : Nat} {vs : List Value} {bss : List (List UInt8)} {tmp : Obj} (hown : wr.ownsRow B 23 1 (.slice A L c) L vs) (hO : OwnRows wr B vs bss) (hbel : Below B w wr) (hB : B ≤ wr.heap.size)
    (hown1 : w1.ownsRow B 23 1 (.slice (some ⟨gl, 0, none⟩) (L + 1) cl) (L + 1) (vs ++ [.slice none 0 0])) (hgrow : (wr.alloc tmp).grownBy w1 (Value.slice A L c).ownBlock) :
    Stg B w w1 gl cl L vs (.slice none 0 0) 0 bss [] := by
  have hs : wr.heap.size ≤ w1.heap.size := by have := hgrow.size; simp at this; omega
  refine ⟨(hbel.alloc hB tmp).grown hgrow (by simp; omega) (fun g e => (hown.lt g e).1), by omega, hown1, hO.keep fun g cur _ hh => ?_, World.ownsRow_nil _ _ _ _, fun g e => by simp [Value.ownBlock] at e⟩
  have hg := heap_lt hh
  rw [hgrow.block g (by simp; omega) (fun e => ?_)]
  · exact Below.heap_alloc wr tmp g hg
  · rcases hown.2 with ⟨h, _⟩ | ⟨g', cap', cur', hv, _, hh', _⟩
    · injection h with h1; subst h1; simp [Value.ownBlock] at e
    · have : g = g' := by rw [hv] at e; simpa [Value.ownBlock] using e
      subst this
      rw [hh] at hh'; simp at hh'
theorem Stg.more {B : Nat} {w wr : World} {A : Option Addr} {L c : Nat} {us : List Value} {v : Value} {cs : List (List UInt8)} {p : List UInt8} (hown : wr.ownsRow B 23 1 (.slice A (L + 1) c) (L + 1) (us ++ [v])) (hO : OwnRows wr B (us ++ [v]) (cs ++ [p])) (hbel : Below B w wr) (hB : B ≤ wr.heap.size) :
    ∃ gl g m c', A = some ⟨gl, 0, none⟩ ∧ v = .slice (some ⟨g, 0, none⟩) m c' ∧ m = p.length ∧ Stg B w wr gl c L us (.slice (some ⟨g, 0, none⟩) m c') m cs p := by
  obtain ⟨hO1, g, m, c', rfl, _, ho, hap⟩ := hO.unsnoc
  obtain ⟨gl, rfl, _⟩ := own_head hown (by omega)
  refine ⟨gl, g, m, c', rfl, rfl, by have := ho.1; simp at this; exact this.symm, hbel, hB, hown, hO1, ho, fun g' e u hu => ?_⟩
  have : g = g' := by simpa [Value.ownBlock] using e
  subst this
  exact hap u hu

def CutRel (B n : Nat) (w : World) (kn : Nat) (bs : List UInt8) (l i : Value) (wr : World) : Prop :=
  ∃ (j L c : Nat) (A : Option Addr) (vs : List Value), j ≤ n ∧ i = .int .i64 (j : Int) ∧ l = .slice A L c ∧ wr.ownsRow B 23 1 (.slice A L c) L vs ∧ OwnRows wr B vs (chop kn (bs.take j)) ∧ L ≤ j ∧ Below B w wr

set_option maxRecDepth 100000 in
set_option maxHeartbeats 2000000 in
theorem refCut (A0 : Option Addr) (n c0 : Nat) (kn : Nat) (bs : List UInt8) (w : World) (ha : Rd w w.heap.size A0 n bs) (hn : n ≤ 1000000) (hk : 1 ≤ kn) (hk' : kn ≤ 9223372036854775807) :
    Calls Try.prog 23 #[.slice A0 n c0, .int .i64 (kn : Int)] w fun e w' => RetRows w (chop kn bs) e w' := by
  obtain ⟨i0, hi, hz0, hz1, hz2⟩ := info_parts row_info
  obtain ⟨i1, hi1, hy0, hy1, hy2⟩ := info_parts isU8.info
  have HA := Lib.hid ha
  clear ha
  go_enter Try.func23, Try.ntmps23
  go_wp2
  go_loopw [5, 6] (fun l i wr => CutRel w.heap.size n w kn bs l i wr) (fun _ i _ => n - (intOf i).toNat)
  case atStart => exact ⟨0, 0, 0, none, [], Nat.zero_le _, rfl, rfl, World.ownsRow_nil _ _ _ _, by rw [List.take_zero, chop_nil]; exact OwnRows.nil _ _, Nat.le_refl _, Below.refl _ _⟩
  case round =>
    obtain ⟨j, L, c, A, vs, hj, rfl, rfl, hown, hO, hLj, hbel⟩ := hrel
    by_cases hlt : j < n
    · obtain ⟨b, o, rfl, hbo, hc⟩ := HA.out.2 (by omega)
      have hc0 := hc j hlt
      have hcell : wr.cell? ⟨b, o + j, none⟩ = some (.int .u8 (nth bs j : Int)) := (hbel.cell hbo).trans hc0
      have hsz := hbel.size
      have hsn := chop_snoc (by omega : 0 < kn) (bs.getD j 0) (bs.take j).length (bs.take j) (Nat.le_refl _)
      have htl : (bs.take j).length = j := by rw [List.length_take, HA.out.1]; omega
      rw [← take_snoc_getD (by rw [HA.out.1]; exact hlt), htl] at hsn
      have HS := Lib.hid hsn
      clear hc hsn htl
      have hj0 : (0 : Int) ≤ (j : Int) := by omega
      have hk1 : (1 : Int) ≤ (kn : Int) := by omega
      by_cases hm : j % kn = 0
      · have hm1 : ((j : Int) % (kn : Int) == 0) = true := by rw [← Int.natCast_emod, hm]; rfl
        have hm2 : (j : Int) % (kn : Int) = 0 := by rw [← Int.natCast_emod, hm]; rfl
        go_wp2_with (at_builtin; refine wpList_append_own _ rfl _ _ 37 rfl w.heap.size 23 i0 (.slice none 0 0) 1 24 Try.underlying37 hi hz0 hz1 hz2 rfl (by decide) _ L vs rfl (hown.alloc _) ⟨wr.heap.size, 0, none⟩ 1 1 [.slice none 0 0] rfl rfl (cell_one_new _ _ _) (by simp [Value.oneCell']) (by unfold maxLen; omega) (by omega) (by have := hbel.size; simp; omega) ?_; intro v1 w1 hown1 hgrow1 _; obtain ⟨gl, cl, rfl⟩ := ownsRow_succ hown1)
        have hS := Lib.hid (Stg.fresh (w := w) hown hO hbel hsz hown1 hgrow1)
        clear hown1 hgrow1 hown hO hcell
        have hcX := hS.out.cell
        have hgl := heap_lt (own_lt hS.out.out).2.choose_spec
        have hcX2 : (w1.alloc (.cells #[.int .u8 (nth bs j : Int)] 5)).cell? ⟨gl, L, none⟩ = some (.slice none 0 0) := (World.cell?_alloc_lt _ _ _ hgl).trans hcX
        have hwL : IntKind.i64.wrap ((L : Int)) = (L : Int) := IntWalk.i64_in _ (by omega)
        have hL0 : (0 : Int) ≤ (L : Int) := by omega
        have hL1 : (L : Int) < (L : Int) + 1 := by omega
        have hjn : (j : Int) < (n : Int) := by omega
        have hcB : w1.cell? ⟨b, o + j, none⟩ = some (.int .u8 (nth bs j : Int)) := (hS.out.low.cell hbo).trans hc0
        go_region_law (refine step_append_lies _ rfl (.tmp 29) (.tmp 34) 23 rfl w.heap.size 5 i1 (.int .u8 0) 1 1 Try.underlying23 hi1 hy0 hy1 hy2 rfl (by decide) (.slice none 0 0) 0 (([] : List UInt8).map bval) (by simp [Act.eval]) ((hS.out.last.alloc _).drew) ⟨w1.heap.size, 0, none⟩ 1 1 [.int .u8 (nth bs j : Int)] (by simp [Act.eval]) rfl (World.news_of_block (cs := #[.int .u8 (nth bs j : Int)]) (t := 5) (fr := (0, 0)) (heap_alloc_new w1 _)) (by simp [Value.oneCell']) (by omega) (by unfold maxLen; omega) (by omega) (by have := hS.out.sz; simp; omega) (w1.heap.size + 1) (by simp) ?_; intro gg cap w2 hown2 hgrow2 hat2 hlt2; have hD := Lib.hid (hS.out.done (y := bs.getD j 0) (((Below.refl _ _).alloc (Nat.le_refl _) _).drew) hown2 hgrow2 (or_ge hat2)); have hc5 := hD.out.1; have hf5 := hD.out.2.1; clear hown2 hgrow2 hat2)
        all_goals
          go_wp2
          go_roundw
          case rel => exact ⟨j + 1, L + 1, cl, _, _, by omega, by go_num, rfl, hD.out.2.2.out, by rw [HS.out.1 hm]; exact hD.out.2.2.rows, by omega, hD.out.2.2.low⟩
          case measure => simp [intOf]; omega
      · have hm1 : ((j : Int) % (kn : Int) == 0) = false := by
          rw [← Int.natCast_emod, beq_eq_false_iff_ne]; omega
        have hm2 : ¬ ((j : Int) % (kn : Int) = 0) := by rw [← Int.natCast_emod]; omega
        obtain ⟨cs, p, he1, he2⟩ := HS.out.2 hm
        have hpl : p.length ≤ 1000000 := by have := chop_last (by omega) he1; rw [List.length_take] at this; omega
        rw [he1] at hO
        have HE := Lib.hid he2
        obtain ⟨us, v, rfl⟩ : ∃ us v, vs = us ++ [v] := by
          rcases List.eq_nil_or_concat vs with h | ⟨us, v, h⟩
          · exfalso; have := hO.1; rw [h] at this; simp at this
          · exact ⟨us, v, by rw [h, List.concat_eq_append]⟩
        obtain ⟨L, rfl⟩ : ∃ L', L = L' + 1 := ⟨us.length, by have := hown.1; simp at this; exact this.symm⟩
        obtain ⟨gl, g, m, c', rfl, rfl, hml, hst⟩ := Stg.more hown hO hbel hsz
        have hS := Lib.hid hst
        have hmb : m ≤ 1000000 := by omega
        clear hst hown hO hcell he1 he2 hml hpl
        go_wp2_with fail
        have hcX := hS.out.cell
        have hgl := heap_lt (own_lt hS.out.out).2.choose_spec
        have hcX2 : (wr.alloc (.cells #[.int .u8 (nth bs j : Int)] 5)).cell? ⟨gl, L, none⟩ = some (.slice (some ⟨g, 0, none⟩) m c') := (World.cell?_alloc_lt _ _ _ hgl).trans hcX
        have hwL : IntKind.i64.wrap ((L : Int)) = (L : Int) := IntWalk.i64_in _ (by omega)
        have hL0 : (0 : Int) ≤ (L : Int) := by omega
        have hL1 : (L : Int) < (L : Int) + 1 := by omega
        have hjn : (j : Int) < (n : Int) := by omega
        have hcB : wr.cell? ⟨b, o + j, none⟩ = some (.int .u8 (nth bs j : Int)) := (hS.out.low.cell hbo).trans hc0
        go_region_law (refine step_append_lies _ rfl (.tmp 29) (.tmp 34) 23 rfl w.heap.size 5 i1 (.int .u8 0) 1 1 Try.underlying23 hi1 hy0 hy1 hy2 rfl (by decide) (.slice (some ⟨g, 0, none⟩) m c') m (p.map bval) (by simp [Act.eval]) ((hS.out.last.alloc _).drew) ⟨wr.heap.size, 0, none⟩ 1 1 [.int .u8 (nth bs j : Int)] (by simp [Act.eval]) rfl (World.news_of_block (cs := #[.int .u8 (nth bs j : Int)]) (t := 5) (fr := (0, 0)) (heap_alloc_new wr _)) (by simp [Value.oneCell']) (by omega) (by unfold maxLen; omega) (by omega) (by have := hS.out.sz; simp; omega) (wr.heap.size + 1) (by simp) ?_; intro gg cap w2 hown2 hgrow2 hat2 hlt2; have hD := Lib.hid (hS.out.done (y := bs.getD j 0) (((Below.refl _ _).alloc (Nat.le_refl _) _).drew) hown2 hgrow2 (or_ge hat2)); have hc5 := hD.out.1; have hf5 := hD.out.2.1; clear hown2 hgrow2 hat2)
        all_goals
          go_wp2
          go_roundw
          case rel => exact ⟨j + 1, L + 1, c, _, _, by omega, by go_num, rfl, hD.out.2.2.out, by rw [HE.out]; exact hD.out.2.2.rows, by omega, hD.out.2.2.low⟩
          case measure => simp [intOf]; omega
    · obtain rfl : j = n := by omega
      go_wp2
      go_ret
      exact ⟨A, L, c, vs, rfl, hown, by rw [List.take_of_length_le (by rw [HA.out.1]; exact Nat.le_refl _)] at hO; exact hO, hbel⟩

def PadRel (B n top : Nat) (w : World) (bs : List UInt8) (v : Value) (wr : World) : Prop :=
  ∃ (m : Nat) (A : Option Addr) (c : Nat), n + m ≤ max n top ∧ v = .slice A (n + m) c ∧ wr.ownsRow B 5 1 (.slice A (n + m) c) (n + m) ((bs ++ List.replicate m 0).map bval) ∧ Below B w wr

set_option maxHeartbeats 400000 in
theorem refPadded (A0 : Option Addr) (n c0 : Nat) (k : Int) (bs : List UInt8) (w : World) (ha : Rd w w.heap.size A0 n bs) (hn : n ≤ 1000000) (hk : -9223372036854775808 ≤ k) (hk' : k ≤ 9223372036854775807) :
    Calls Try.prog 22 #[.slice A0 n c0, .int .i64 k] w fun e w' => RetB 5 w (padTo bs k) e w' := by
  obtain ⟨top, ht⟩ : ∃ top, top = (min k 65536).toNat := ⟨_, rfl⟩
  have htop : top ≤ 65536 := by omega
  have HA := Lib.hid ha
  have HT := Lib.hid ht
  clear ha ht
  go_enter Try.func22, Try.ntmps22
  go_wp2_with fail
  refine (refCopy A0 n c0 bs w HA.out (by omega)).mono ?_
  rintro e w1 ⟨A1, n1, c1, rfl, hown1, hbel1⟩
  obtain rfl : n1 = n := by rw [← (Rd.of_own hown1).1, HA.out.1]
  have HO := Lib.hid hown1
  have HB := Lib.hid hbel1
  clear hown1 hbel1
  go_wp2_with fail
  go_loopw [5] (fun v wr => PadRel w.heap.size n1 top w bs v wr) (fun v _ => match v with | .slice _ m _ => n1 + top - m | _ => 0)
  case atStart => exact ⟨0, A1, c1, by omega, rfl, by simpa using HO.out, HB.out⟩
  case round =>
    obtain ⟨m, A, c, hm, rfl, hown, hbel⟩ := hrel
    have hsz := hbel.size
    by_cases hlt : n1 + m < top
    · have h1 : ((n1 : Int) + (m : Int)) < k := by have := HT.out; omega
      have h2 : ((n1 : Int) + (m : Int)) < 65536 := by omega
      go_wp2_with (at_builtin; refine wpList_push isU8 rfl _ _ rfl rfl rfl hown hbel hsz (by omega) 0 rfl ?_; intro v1 w2 hown2 hbel2 hsz2; obtain ⟨A2, c2, rfl⟩ := own_slice hown2)
      go_roundw
      case rel => exact ⟨m + 1, A2, c2, by omega, rfl, by rw [List.replicate_succ', ← List.append_assoc]; exact hown2, hbel2⟩
      case measure => dsimp only; omega
    · have HR : Hid (RetB 5 w (padTo bs k) (.returned (.slice A (n1 + m) c)) wr) := by
        have e : padTo bs k = bs ++ List.replicate m 0 := by
          unfold padTo
          rw [← HT.out, HA.out.1]
          congr 2; omega
        rw [e]
        exact RetB.mk hown hbel
      clear hown hbel
      by_cases h1 : ((n1 : Int) + (m : Int)) < k
      · have h2 : ¬ ((n1 : Int) + (m : Int)) < 65536 := by have := HT.out; omega
        go_wp2_with fail
        go_ret
        exact HR.out
      · go_wp2_with fail
        go_ret
        exact HR.out
end Go.Proofs.Ytpknclidladncaa
