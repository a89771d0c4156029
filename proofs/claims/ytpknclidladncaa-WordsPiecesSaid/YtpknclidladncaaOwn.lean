/- Slices of bytes in rows of their own: a byte turned, a byte appended, one of them. -/
import Derived.Test.YtpknclidladncaaRefC
namespace Go.Proofs.Ytpknclidladncaa
open Go.RowKit
set_option linter.unusedVariables false

def OwnAny (X : World) (B : Nat) (us : List Value) : Prop := ∃ bss, OwnRows X B us bss

theorem OwnAny.keep {W W' : World} {B : Nat} {us : List Value} (h : OwnAny W B us) (hk : ∀ (g : Nat) (cur : Array Value), B ≤ g → W.heap[g]? = some (.cells cur 5 (0, 0)) → W'.heap[g]? = W.heap[g]?) : OwnAny W' B us := by
  obtain ⟨bss, h⟩ := h
  exact ⟨bss, h.keep hk⟩
theorem OwnAny.at_ {X : World} {B : Nat} {us : List Value} (h : OwnAny X B us) {i : Nat} (hi : i < us.length) :
    ∃ (g m c : Nat) (bs : List UInt8), us[i]? = some (.slice (some ⟨g, 0, none⟩) m c) ∧ 0 < m ∧ X.ownsRow B 5 1 (.slice (some ⟨g, 0, none⟩) m c) m (bs.map bval) := by
  obtain ⟨bss, h⟩ := h
  obtain ⟨g, m, c, e, hm, ho⟩ := h.2.1 i hi
  exact ⟨g, m, c, _, e, hm, ho⟩
/-- Out of its parts: each element owns a row, no two in one block. -/
theorem OwnAny.mk {X : World} {B : Nat} {us : List Value} (h1 : ∀ i, i < us.length → ∃ (g m c : Nat) (bs : List UInt8), us[i]? = some (.slice (some ⟨g, 0, none⟩) m c) ∧ 0 < m ∧ X.ownsRow B 5 1 (.slice (some ⟨g, 0, none⟩) m c) m (bs.map bval))
    (h2 : (us.map Value.ownBlock).Pairwise (· ≠ ·)) : OwnAny X B us := by
  have hf : ∀ i : Fin us.length, ∃ bs : List UInt8, ∃ g m c : Nat, us[i.1]? = some (.slice (some ⟨g, 0, none⟩) m c) ∧ 0 < m ∧ X.ownsRow B 5 1 (.slice (some ⟨g, 0, none⟩) m c) m (bs.map bval) := fun i => by
    obtain ⟨g, m, c, bs, h⟩ := h1 i.1 i.2
    exact ⟨bs, g, m, c, h⟩
  refine ⟨List.ofFn fun i => Classical.choose (hf i), by simp, fun i hi => ?_, h2⟩
  obtain ⟨g, m, c, e, hm, ho⟩ := Classical.choose_spec (hf ⟨i, hi⟩)
  refine ⟨g, m, c, e, hm, ?_⟩
  have e2 : (List.ofFn fun i => Classical.choose (hf i)).getD i [] = Classical.choose (hf ⟨i, hi⟩) := by simp [List.getD, hi]
  rw [e2]; exact ho
theorem OwnAny.block_ne {X : World} {B : Nat} {us : List Value} (h : OwnAny X B us) {i j : Nat} (hi : i < us.length) (hj : j < us.length) (hne : i ≠ j) : (us[i]'hi).ownBlock ≠ (us[j]'hj).ownBlock := by
  obtain ⟨bss, h⟩ := h
  have hp := h.2.2
  rw [List.pairwise_iff_getElem] at hp
  rcases Nat.lt_or_gt_of_ne hne with g | g
  · have := hp i j (by simpa using hi) (by simpa using hj) g
    simpa using this
  · have := hp j i (by simpa using hj) (by simpa using hi) g
    simpa using this.symm

/-- An own row's block, known: another world with the same block owns it too. -/
theorem own_same {W W' : World} {B g n c : Nat} {T : TypeId} {xs : List Value} (h : W.ownsRow B T 1 (.slice (some ⟨g, 0, none⟩) n c) n xs) (e : W'.heap[g]? = W.heap[g]?) : W'.ownsRow B T 1 (.slice (some ⟨g, 0, none⟩) n c) n xs := by
  refine ⟨h.1, ?_⟩
  rcases h.2 with ⟨h, _⟩ | ⟨g', cap, cur, hv, hg, hh, hr⟩
  · cases h
  · have : g = g' := by injection hv with hv1 _ _; simpa using hv1
    subst this
    exact .inr ⟨g, cap, cur, hv, hg, e.trans hh, hr⟩

/-- 'l[i][0]++'. -/
theorem OwnAny.setByte {X : World} {B : Nat} {us : List Value} (h : OwnAny X B us) {i g m c : Nat} (hi : us[i]? = some (.slice (some ⟨g, 0, none⟩) m c)) (j : Nat) (y : UInt8) {z : Int} (hz : z = (y.toNat : Int)) :
    OwnAny (X.setCell ⟨g, j, none⟩ (.int .u8 z)) B us := by
  have hil : i < us.length := (List.getElem?_eq_some_iff.1 hi).1
  have hiv : us[i] = .slice (some ⟨g, 0, none⟩) m c := by rw [List.getElem?_eq_getElem hil] at hi; simpa using hi
  obtain ⟨bss, hO⟩ := h
  refine OwnAny.mk (fun q hq => ?_) hO.2.2
  obtain ⟨g', m', c', bs, e, hm, ho⟩ := OwnAny.at_ ⟨bss, hO⟩ hq
  by_cases hqi : q = i
  · subst hqi
    rw [hi] at e
    simp only [Option.some.injEq, Value.slice.injEq, Addr.mk.injEq, and_true] at e
    obtain ⟨rfl, rfl, rfl⟩ := e
    refine ⟨g, m, c, bs.set j y, hi, hm, ?_⟩
    subst hz
    have h1 := (ho.stored j (.int .u8 (y.toNat : Int))).1
    rw [List.map_set]
    exact h1
  · refine ⟨g', m', c', bs, e, hm, own_same ho (Below.heap_setCell X ⟨g, j, none⟩ _ g' ?_)⟩
    intro e3
    have := OwnAny.block_ne ⟨bss, hO⟩ hq hil hqi
    have hqv : us[q] = .slice (some ⟨g', 0, none⟩) m' c' := by rw [List.getElem?_eq_getElem hq] at e; simpa using e
    rw [hqv, hiv] at this
    simp only [Value.ownBlock, ne_eq, Option.some.injEq] at this
    exact this e3

/-- 'l[i] = append(l[i], y)', ahead of the store. -/
theorem OwnAny.grow {X Y w1 : World} {B : Nat} {us : List Value} (h : OwnAny X B us) {i g m c gg k cap : Nat} (hi : us[i]? = some (.slice (some ⟨g, 0, none⟩) m c)) {bs : List UInt8} (hk : 0 < k)
    (hY : Below X.heap.size X Y) (hown1 : w1.ownsRow B 5 1 (.slice (some ⟨gg, 0, none⟩) k cap) k (bs.map bval)) (hgrow : Y.grownBy w1 (some g)) (hat : gg = g ∨ X.heap.size ≤ gg) :
    OwnAny w1 B (us.set i (.slice (some ⟨gg, 0, none⟩) k cap)) := by
  have hil : i < us.length := (List.getElem?_eq_some_iff.1 hi).1
  have hiv : us[i] = .slice (some ⟨g, 0, none⟩) m c := by rw [List.getElem?_eq_getElem hil] at hi; simpa using hi
  have hother : ∀ q (hq : q < us.length), q ≠ i → ∃ (g' m' c' : Nat) (bs : List UInt8), us[q]? = some (.slice (some ⟨g', 0, none⟩) m' c') ∧ 0 < m' ∧ X.ownsRow B 5 1 (.slice (some ⟨g', 0, none⟩) m' c') m' (bs.map bval) ∧ g' ≠ g ∧ g' < X.heap.size := fun q hq hqi => by
    obtain ⟨g', m', c', bs, e, hm, ho⟩ := h.at_ hq
    have hqv : us[q] = .slice (some ⟨g', 0, none⟩) m' c' := by rw [List.getElem?_eq_getElem hq] at e; simpa using e
    have := h.block_ne hq hil hqi
    rw [hqv, hiv] at this
    simp only [Value.ownBlock, ne_eq, Option.some.injEq] at this
    obtain ⟨_, cur, hh⟩ := own_lt ho
    exact ⟨g', m', c', bs, e, hm, ho, this, heap_lt hh⟩
  refine OwnAny.mk (fun q hq => ?_) ?_
  · have hq' : q < us.length := by simpa using hq
    by_cases hqi : q = i
    · subst hqi
      exact ⟨gg, k, cap, bs, by simp [hq'], hk, hown1⟩
    · obtain ⟨g', m', c', bs', e, hm, ho, hne, hlt⟩ := hother q hq' hqi
      refine ⟨g', m', c', bs', by rw [List.getElem?_set_ne (by omega)]; exact e, hm, own_same ho ?_⟩
      exact (hgrow.block g' (Nat.lt_of_lt_of_le hlt hY.size) (by simpa using hne)).trans (hY.block g' hlt)
  · rw [List.pairwise_iff_getElem]
    intro a b ha hb hab
    simp only [List.length_map, List.length_set] at ha hb
    simp only [List.getElem_map, List.getElem_set]
    have key : ∀ q (hq : q < us.length), q ≠ i → (us[q]'hq).ownBlock ≠ some gg := fun q hq hqi => by
      obtain ⟨g', m', c', bs', e, hm, ho, hne, hlt⟩ := hother q hq hqi
      have hqv : us[q] = .slice (some ⟨g', 0, none⟩) m' c' := by rw [List.getElem?_eq_getElem hq] at e; simpa using e
      rw [hqv]
      simp only [Value.ownBlock, ne_eq, Option.some.injEq]
      rcases hat with rfl | hat
      · exact hne
      · omega
    by_cases hai : i = a
    · subst hai
      rw [if_pos rfl, if_neg (by omega)]
      simp only [Value.ownBlock]
      exact (key b hb (by omega)).symm
    · rw [if_neg hai]
      by_cases hbi : i = b
      · subst hbi
        rw [if_pos rfl]
        simp only [Value.ownBlock]
        exact key a ha (by omega)
      · rw [if_neg hbi]
        exact h.block_ne ha hb (by omega)

/-- A row of slices of bytes, each in a block of its own; ps: further slices that lie apart from them. -/
structure Two (B : Nat) (X : World) (gl cl L : Nat) (vs ps : List Value) : Prop where
  out : X.ownsRow B 23 1 (.slice (some ⟨gl, 0, none⟩) L cl) L vs
  any : OwnAny X B (vs ++ ps)

theorem Two.len {B : Nat} {X : World} {gl cl L : Nat} {vs ps : List Value} (h : Two B X gl cl L vs ps) : vs.length = L := by
  have := h.out.1; simpa using this
theorem Two.one {B : Nat} {X : World} {gl cl L i g m c : Nat} {vs ps : List Value} (h : Two B X gl cl L vs ps) (hi : vs[i]? = some (.slice (some ⟨g, 0, none⟩) m c)) :
    X.cell? ⟨gl, i, none⟩ = some (.slice (some ⟨g, 0, none⟩) m c) ∧ X.frozen? ⟨gl, i, none⟩ = false ∧ g ≠ gl ∧ 0 < m ∧ ∃ bs : List UInt8, X.ownsRow B 5 1 (.slice (some ⟨g, 0, none⟩) m c) m (bs.map bval) := by
  have hil : i < vs.length := (List.getElem?_eq_some_iff.1 hi).1
  have hL := h.len
  obtain ⟨g', m', c', bs, e, hm, ho⟩ := h.any.at_ (i := i) (by simp; omega)
  rw [List.getElem?_append_left hil, hi] at e
  simp only [Option.some.injEq, Value.slice.injEq, Addr.mk.injEq, and_true] at e
  obtain ⟨rfl, rfl, rfl⟩ := e
  obtain ⟨_, co, hho⟩ := own_lt h.out
  obtain ⟨_, ci, hhi⟩ := own_lt ho
  exact ⟨by rw [h.out.cellAt i (by omega), hi], h.out.frozenAt i, fun e => by subst e; rw [hho] at hhi; simp at hhi, hm, bs, ho⟩
theorem Two.set {B : Nat} {X : World} {gl cl L i g m c : Nat} {vs ps : List Value} (h : Two B X gl cl L vs ps) (hi : vs[i]? = some (.slice (some ⟨g, 0, none⟩) m c)) (y : UInt8) {z : Int} (hz : z = (y.toNat : Int)) :
    Two B (X.setCell ⟨g, 0, none⟩ (.int .u8 z)) gl cl L vs ps := by
  have hil : i < vs.length := (List.getElem?_eq_some_iff.1 hi).1
  obtain ⟨_, _, hne, _, _⟩ := h.one hi
  exact ⟨own_same h.out (Below.heap_setCell X ⟨g, 0, none⟩ _ gl (Ne.symm hne)), h.any.setByte (i := i) (by rw [List.getElem?_append_left hil]; exact hi) 0 y hz⟩
theorem Two.grow {B : Nat} {X w2 : World} {gl cl L i g m c gg cap : Nat} {vs ps : List Value} {bs : List UInt8} {y : UInt8} {tmp : Obj} (h : Two B X gl cl L vs ps) (hi : vs[i]? = some (.slice (some ⟨g, 0, none⟩) m c))
    (hown2 : w2.ownsRow B 5 1 (.slice (some ⟨gg, 0, none⟩) (m + 1) cap) (m + 1) (bs.map bval ++ [.int .u8 (y.toNat : Int)])) (hgrow2 : (X.alloc tmp).grownBy w2 (Value.slice (some ⟨g, 0, none⟩) m c).ownBlock)
    (hat2 : (Value.slice (some ⟨g, 0, none⟩) m c).ownBlock = some gg ∨ gg = X.heap.size + 1) :
    w2.cell? ⟨gl, i, none⟩ = some (.slice (some ⟨g, 0, none⟩) m c) ∧ w2.frozen? ⟨gl, i, none⟩ = false ∧
      Two B (w2.setCell ⟨gl, i, none⟩ (.slice (some ⟨gg, 0, none⟩) (m + 1) cap)) gl cl L (vs.set i (.slice (some ⟨gg, 0, none⟩) (m + 1) cap)) ps := by
  have hil : i < vs.length := (List.getElem?_eq_some_iff.1 hi).1
  have hL := h.len
  obtain ⟨_, _, hne, _, _⟩ := h.one hi
  obtain ⟨_, co, hho⟩ := own_lt h.out
  have hgl : w2.heap[gl]? = X.heap[gl]? := by
    rw [hgrow2.block gl (by have := heap_lt hho; simp; omega) (by simp [Value.ownBlock]; exact Ne.symm hne)]
    exact Below.heap_alloc X tmp gl (heap_lt hho)
  have hout2 := own_same h.out hgl
  have hown2' : w2.ownsRow B 5 1 (.slice (some ⟨gg, 0, none⟩) (m + 1) cap) (m + 1) ((bs ++ [y]).map bval) := by rw [List.map_append]; exact hown2
  have hany2 := h.any.grow (i := i) (by rw [List.getElem?_append_left hil]; exact hi) (k := m + 1) (cap := cap) (gg := gg) (by omega) ((Below.refl _ X).alloc (Nat.le_refl _) tmp) hown2' hgrow2
    (by rcases hat2 with e | e
        · left; simpa [Value.ownBlock] using e.symm
        · right; omega)
  rw [List.set_append_left _ _ hil] at hany2
  obtain ⟨_, cg, hhg⟩ := own_lt hown2
  have hggl : gg ≠ gl := fun e => by subst e; rw [hgl, hho] at hhg; simp at hhg
  refine ⟨by rw [hout2.cellAt i (by omega), hi], hout2.frozenAt i, (hout2.stored i _).1, hany2.keep fun k cur _ hh => Below.heap_setCell w2 ⟨gl, i, none⟩ _ k (fun e => by
    have e' : k = gl := e
    subst e'; rw [hgl, hho] at hh; simp at hh)⟩

/-- Both at a turn's middle: the pieces, and the padded row where it has a byte. -/
theorem Two.mk' {X w2 w3 : World} {B gl cl L : Nat} {vs : List Value} {bss : List (List UInt8)} {A3 : Option Addr} {n3 c3 : Nat} {pb : List UInt8} (hout : w2.ownsRow B 23 1 (.slice (some ⟨gl, 0, none⟩) L cl) L vs) (hO : OwnRows w2 B vs bss)
    (hB : B ≤ w2.heap.size) (hp : w3.ownsRow w2.heap.size 5 1 (.slice A3 n3 c3) n3 (pb.map bval)) (h2 : Below w2.heap.size w2 X) (h3 : Below w3.heap.size w3 X) (hn : 0 < n3) :
    Two B X gl cl L vs [.slice A3 n3 c3] := by
  obtain ⟨g, rfl, hg⟩ := own_head hp hn
  refine ⟨own_below hout h2, ⟨bss ++ [pb], ?_⟩⟩
  have hO' : OwnRows X B vs bss := hO.keep fun k cur _ hh => h2.block k (heap_lt hh)
  refine hO'.snoc hn (own_mono (own_below hp h3) hB) fun u hu e => ?_
  obtain ⟨i, hi, hiu⟩ := List.getElem_of_mem hu
  obtain ⟨g', m', c', e', _, ho'⟩ := hO.2.1 i hi
  rw [List.getElem?_eq_getElem hi, hiu] at e'
  obtain rfl : u = .slice (some ⟨g', 0, none⟩) m' c' := by simpa using e'
  obtain ⟨_, cur, hh⟩ := own_lt ho'
  have h1 := heap_lt hh
  simp [Value.ownBlock] at e
  omega
theorem Two.mk0 {X w2 : World} {B gl cl L : Nat} {vs : List Value} {bss : List (List UInt8)} (hout : w2.ownsRow B 23 1 (.slice (some ⟨gl, 0, none⟩) L cl) L vs) (hO : OwnRows w2 B vs bss) (h2 : Below w2.heap.size w2 X) :
    Two B X gl cl L vs [] := ⟨own_below hout h2, ⟨bss, by rw [List.append_nil]; exact hO.keep fun k cur _ hh => h2.block k (heap_lt hh)⟩⟩
/-- The padded row, back. -/
theorem Two.last {B : Nat} {X : World} {gl cl L : Nat} {vs : List Value} {A3 : Option Addr} {n3 c3 : Nat} (h : Two B X gl cl L vs [.slice A3 n3 c3]) : ∃ bs : List UInt8, X.ownsRow B 5 1 (.slice A3 n3 c3) n3 (bs.map bval) := by
  obtain ⟨g', m', c', bs, e, _, ho⟩ := h.any.at_ (i := vs.length) (by simp)
  rw [List.getElem?_append_right (Nat.le_refl _)] at e
  simp at e
  obtain ⟨rfl, rfl, rfl⟩ := e
  exact ⟨bs, ho⟩
theorem chopI_small {k : Int} {bs : List UInt8} {vs : List Value} {W : World} {B n : Nat} (hO : OwnRows W B vs (chopI k bs)) (hn : bs.length ≤ n) : ∀ (j g m c : Nat), vs[j]? = some (.slice (some ⟨g, 0, none⟩) m c) → m ≤ n := by
  intro j g m c e
  have hj : j < vs.length := (List.getElem?_eq_some_iff.1 e).1
  obtain ⟨g', m', c', e', _, ho⟩ := hO.2.1 j hj
  rw [e] at e'
  simp only [Option.some.injEq, Value.slice.injEq, Addr.mk.injEq, and_true] at e'
  obtain ⟨rfl, rfl, rfl⟩ := e'
  have hl : ((chopI k bs).getD j []).length = m := by have := ho.1; simpa using this
  have hjb : j < (chopI k bs).length := by rw [← hO.1]; exact hj
  by_cases hk : k < 1
  · rw [chopI, if_pos hk] at hjb; simp at hjb
  · have hflat : (chopI k bs).flatten = bs := by rw [chopI, if_neg hk]; exact chop_flat (by omega) _ _ (Nat.le_refl _)
    have h1 := tot_succ (bss := chopI k bs) hjb
    have h2 := tot_le (chopI k bs) (j + 1)
    rw [hflat] at h2
    omega
end Go.Proofs.Ytpknclidladncaa
