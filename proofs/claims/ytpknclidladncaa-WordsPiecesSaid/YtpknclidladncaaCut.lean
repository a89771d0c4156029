/- The contract of the program's Cut (words): the pieces, each in memory of its own, in a new slice. -/
import Derived.Test.YtpknclidladncaaIter
namespace Go.Proofs.Ytpknclidladncaa
open Go.RowKit Go.Shelf
set_option linter.unusedVariables false
attribute [local go_sem] Oper.semAt_some

/-- Slice values each of which owns its row of bytes, no two in one block. -/
def OwnRows (W : World) (B : Nat) (vs : List Value) (bss : List (List UInt8)) : Prop :=
  vs.length = bss.length ∧ (∀ i, i < vs.length → ∃ g m c, vs[i]? = some (.slice (some ⟨g, 0, none⟩) m c) ∧ 0 < m ∧ W.ownsRow B 5 1 (.slice (some ⟨g, 0, none⟩) m c) m ((bss.getD i []).map bval)) ∧
    (vs.map Value.ownBlock).Pairwise (· ≠ ·)
def RetRows (w : World) (bss : List (List UInt8)) (e : Ending) (w' : World) : Prop :=
  ∃ A n c vs, e = .returned (.slice A n c) ∧ w'.ownsRow w.heap.size 23 1 (.slice A n c) n vs ∧ OwnRows w' w.heap.size vs bss ∧ Below w.heap.size w w'

theorem OwnRows.nil (W : World) (B : Nat) : OwnRows W B [] [] := ⟨rfl, fun i h => by simp at h, by simp⟩
theorem own_lt {w : World} {B : Nat} {T : TypeId} {g n c : Nat} {xs : List Value} (h : w.ownsRow B T 1 (.slice (some ⟨g, 0, none⟩) n c) n xs) : B ≤ g ∧ ∃ cur, w.heap[g]? = some (.cells cur T (0, 0)) := by
  rcases h.2 with ⟨h, _⟩ | ⟨g', cap, cur, hv, hg, hh, _⟩
  · cases h
  · injection hv with hv1 _ _
    simp only [Option.some.injEq, Addr.mk.injEq, and_true] at hv1
    subst hv1
    exact ⟨hg, cur, hh⟩
theorem heap_lt {w : World} {g : Nat} {o : Obj} (h : w.heap[g]? = some o) : g < w.heap.size := (Array.getElem?_eq_some_iff.1 h).1
/-- Kept wherever the rows' own blocks are kept. -/
theorem OwnRows.keep {W W' : World} {B : Nat} {vs : List Value} {bss : List (List UInt8)} (h : OwnRows W B vs bss)
    (hk : ∀ (g : Nat) (cur : Array Value), B ≤ g → W.heap[g]? = some (.cells cur 5 (0, 0)) → W'.heap[g]? = W.heap[g]?) : OwnRows W' B vs bss := by
  refine ⟨h.1, fun i hi => ?_, h.2.2⟩
  obtain ⟨g, m, c, e, hm, ho⟩ := h.2.1 i hi
  refine ⟨g, m, c, e, hm, ho.1, ?_⟩
  rcases ho.2 with ⟨h, _⟩ | ⟨g', cap, cur, hv, hg, hh, hr⟩
  · cases h
  · exact .inr ⟨g', cap, cur, hv, hg, (hk g' cur hg hh).trans hh, hr⟩
theorem OwnRows.mono {W : World} {B B' : Nat} {vs : List Value} {bss : List (List UInt8)} (h : OwnRows W B vs bss) (hB : B' ≤ B) : OwnRows W B' vs bss := by
  refine ⟨h.1, fun i hi => ?_, h.2.2⟩
  obtain ⟨g, m, c, e, hm, ho⟩ := h.2.1 i hi
  exact ⟨g, m, c, e, hm, own_mono ho hB⟩
theorem OwnRows.snoc {W : World} {B : Nat} {vs : List Value} {bss : List (List UInt8)} {g m c : Nat} {bs : List UInt8} (h : OwnRows W B vs bss) (hm : 0 < m)
    (ho : W.ownsRow B 5 1 (.slice (some ⟨g, 0, none⟩) m c) m (bs.map bval)) (hne : ∀ v ∈ vs, v.ownBlock ≠ some g) : OwnRows W B (vs ++ [.slice (some ⟨g, 0, none⟩) m c]) (bss ++ [bs]) := by
  refine ⟨by simp [h.1], fun i hi => ?_, ?_⟩
  · rcases Nat.lt_or_ge i vs.length with hl | hl
    · obtain ⟨g', m', c', e, hm', ho'⟩ := h.2.1 i hl
      refine ⟨g', m', c', by rw [List.getElem?_append_left hl]; exact e, hm', ?_⟩
      rw [show (bss ++ [bs]).getD i [] = bss.getD i [] from by simp only [List.getD, List.getElem?_append_left (show i < bss.length by rw [← h.1]; exact hl)]]
      exact ho'
    · simp at hi
      obtain rfl : i = vs.length := by omega
      refine ⟨g, m, c, by simp, hm, ?_⟩
      rw [show (bss ++ [bs]).getD vs.length [] = bs from by rw [h.1]; simp]
      exact ho
  · rw [List.map_append, List.pairwise_append]
    refine ⟨h.2.2, by simp, fun x hx y hy => ?_⟩
    obtain ⟨v, hv, rfl⟩ := List.mem_map.1 hx
    simp [Value.ownBlock] at hy
    subst hy
    exact hne v hv

theorem row_info : (Try.prog.info? 23).map (fun i => (i.zero, i.size, i.bytes)) = some (some (.slice none 0 0), 1, 24) := by kernel_rfl

/-- What Cut's own cells hold between two rounds. -/
def CutI (n0 N : Nat) (w W1 : World) (pre : List (Piece W1 n0 N)) (W : World) : Prop :=
  (∃ v vs, Boxed W n0 37 v ∧ W.ownsRow (n0 + 3) 23 1 v pre.length vs ∧ OwnRows W (n0 + 3) vs (pre.map (·.1.2))) ∧ Below n0 w W ∧ n0 + 3 ≤ W.heap.size

theorem cutI_own {n0 N : Nat} {w W1 : World} (hn : n0 ≤ w.heap.size) : OwnFrom (n0 + 3) (CutI n0 N w W1) := by
  rintro s X Y row ⟨⟨v, vs, hv, hr, hO⟩, hb, hs3⟩ hg hrow
  refine ⟨⟨v, vs, hv.kept hg (fun e => ?_), hr.kept hg ?_, hO.keep fun g cur hge hh => hg.block g (heap_lt hh) (fun e => ?_)⟩, hb.grown hg (Nat.le_trans hn hb.size) (fun k e => by have := (hrow k e).1; omega), Nat.le_trans hs3 hg.size⟩
  · obtain ⟨_, o, ho, hc⟩ := hrow n0 e.symm
    rw [show X.heap[n0]? = _ from hv] at ho; cases ho; cases hc
  · rcases hr.2 with ⟨rfl, _⟩ | ⟨g, cap, cur, rfl, _, hgb, _⟩
    · exact .inl rfl
    · refine .inr fun e' => ?_
      obtain ⟨_, o, ho, hc⟩ := hrow g (by simpa [Value.ownBlock] using e'.symm)
      rw [hgb] at ho; cases ho; cases hc
  · obtain ⟨_, o, ho, hc⟩ := hrow g e.symm
    rw [hh] at ho; cases ho; cases hc

/-- Behind the call of Cat in a round. -/
structure Mid (n0 : Nat) (W w1 : World) (v : Value) (kk : Nat) (vs : List Value) (bss : List (List UInt8)) : Prop where
  box : Boxed w1 n0 37 v
  row : w1.ownsRow (n0 + 3) 23 1 v kk vs
  rows : OwnRows w1 (n0 + 3) vs bss
  size : W.heap.size < w1.heap.size
  same : ∀ k, k < W.heap.size → w1.heap[k]? = W.heap[k]?
  low : Below n0 W w1

theorem mid_of {n0 : Nat} {W w1 : World} {v : Value} {kk : Nat} {vs : List Value} {bss : List (List UInt8)} {o : Obj} (hv : Boxed W n0 37 v) (hrow : W.ownsRow (n0 + 3) 23 1 v kk vs) (hO : OwnRows W (n0 + 3) vs bss)
    (hb : Below ((W.alloc o).drew).heap.size ((W.alloc o).drew) w1) : Mid n0 W w1 v kk vs bss := by
  have e : ((W.alloc o).drew).heap.size = W.heap.size + 1 := by simp
  have hsame : ∀ k, k < W.heap.size → w1.heap[k]? = W.heap[k]? := fun k hk => by
    rw [hb.block k (by rw [e]; omega)]
    exact Below.heap_alloc W o k hk
  have hb0 : Below W.heap.size W w1 := by
    have h1 : Below W.heap.size W ((W.alloc o).drew) := ((Below.refl _ W).alloc (Nat.le_refl _) o).drew
    exact h1.trans (hb.mono (by rw [e]; omega))
  exact ⟨(hsame n0 hv.lt).trans hv, own_below hrow hb0, hO.keep fun g cur _ hh => hsame g (heap_lt hh), by have := hb.size; rw [e] at this; omega, hsame, hb0.mono (Nat.le_of_lt hv.lt)⟩

/-- Behind the store of the longer slice. -/
theorem store_of {n0 : Nat} {W w1 w2 : World} {v v' : Value} {kk : Nat} {vs : List Value} {bss : List (List UInt8)} {tmp : Obj} {g m c : Nat} {xb : List UInt8} (hM : Mid n0 W w1 v kk vs bss)
    (hown4 : w1.ownsRow (W.heap.size + 1) 5 1 (.slice (some ⟨g, 0, none⟩) m c) m (xb.map bval)) (hm : 0 < m) (hOW : OwnRows W (n0 + 3) vs bss) (hn3 : n0 + 3 ≤ W.heap.size)
    (hown' : w2.ownsRow (n0 + 3) 23 1 v' (kk + 1) (vs ++ [.slice (some ⟨g, 0, none⟩) m c])) (hgrow : (w1.alloc tmp).grownBy w2 v.ownBlock) :
    Boxed w2 n0 37 v ∧ Boxed (w2.setCell ⟨n0, 0, none⟩ v') n0 37 v' ∧ (w2.setCell ⟨n0, 0, none⟩ v').ownsRow (n0 + 3) 23 1 v' (kk + 1) (vs ++ [.slice (some ⟨g, 0, none⟩) m c]) ∧
      OwnRows (w2.setCell ⟨n0, 0, none⟩ v') (n0 + 3) (vs ++ [.slice (some ⟨g, 0, none⟩) m c]) (bss ++ [xb]) ∧ KpX n0 (n0 + 3) W (w2.setCell ⟨n0, 0, none⟩ v') ∧ KeepsOthers W (w2.setCell ⟨n0, 0, none⟩ v') := by
  have hne : ∀ k, (∀ cur, w1.heap[k]? ≠ some (.cells cur 23 (0, 0))) → some k ≠ v.ownBlock := fun k hk e => by
    rcases hM.row.2 with ⟨rfl, _⟩ | ⟨g', cap, cur, rfl, _, hh, _⟩
    · simp [Value.ownBlock] at e
    · obtain rfl : k = g' := by simpa [Value.ownBlock] using e
      exact hk cur hh
  have hblk : ∀ k, k < w1.heap.size → (∀ cur, w1.heap[k]? ≠ some (.cells cur 23 (0, 0))) → w2.heap[k]? = w1.heap[k]? := fun k hk hne' => by
    rw [hgrow.block k (by simp; omega) (hne k hne')]
    exact Below.heap_alloc w1 tmp k hk
  have hb2 : Boxed w2 n0 37 v := (hblk n0 hM.box.lt (fun cur e => by rw [show w1.heap[n0]? = _ from hM.box] at e; cases e)).trans hM.box
  have hvlow : ∀ k, k < n0 + 3 → some k ≠ v.ownBlock := fun k hk e => by have := (hM.row.lt k e.symm).1; omega
  have hset : ∀ k, k ≠ n0 → (w2.setCell ⟨n0, 0, none⟩ v').heap[k]? = w2.heap[k]? := fun k hk => Below.heap_setCell w2 ⟨n0, 0, none⟩ v' k hk
  have hR1 : OwnRows w1 (n0 + 3) (vs ++ [.slice (some ⟨g, 0, none⟩) m c]) (bss ++ [xb]) := by
    refine hM.rows.snoc hm (own_mono hown4 (by omega)) fun u hu e => ?_
    obtain ⟨i, hi, hiu⟩ := List.getElem_of_mem hu
    obtain ⟨g', m', c', e', _, ho'⟩ := hOW.2.1 i hi
    rw [List.getElem?_eq_getElem hi, hiu] at e'
    obtain rfl : u = .slice (some ⟨g', 0, none⟩) m' c' := by simpa using e'
    obtain ⟨_, cur, hh⟩ := own_lt ho'
    have h1 := heap_lt hh
    have h2 := (own_lt hown4).1
    simp [Value.ownBlock] at e
    omega
  refine ⟨hb2, hb2.set v', hown'.kept (grownBy_setCell' w2 n0 v') (.inr (hb2.not_row (by decide) hown').symm), hR1.keep fun k cur hk hh => ?_, ⟨?_, fun k h1 h2 => ?_⟩, ?_⟩
  · rw [hset k (by omega), hblk k (heap_lt hh) (fun cur' e => by rw [hh] at e; cases e)]
  · have h1 := (hM.low.alloc (by have := hM.box.lt; omega) tmp).grown hgrow (by have := hM.box.lt; simp; omega) (fun k e => by have := (hM.row.lt k e).1; omega)
    exact h1.setCell (p := ⟨n0, 0, none⟩) (Nat.le_refl _) v'
  · rw [hset k (by omega), hgrow.block k (by have := hM.size; simp; omega) (hvlow k h2), Below.heap_alloc w1 tmp k (by have := hM.size; omega), hM.same k (by omega)]
  · refine ⟨by have h1 := hgrow.size; have h2 := hM.size; simp [World.setCell] at h1 ⊢; omega, fun k o' hk ho' => ?_⟩
    have hkl := heap_lt hk
    have hk1 : w1.heap[k]? = some o' := (hM.same k hkl).trans hk
    have hkn : k ≠ n0 := fun e => by subst e; rw [show w1.heap[k]? = _ from hM.box] at hk1; cases hk1; cases ho'
    rw [hset k hkn, hblk k (heap_lt hk1) (fun cur e => by rw [hk1] at e; cases e; cases ho')]
    exact hk1

/-- An append inside a region that draws its order, inside a fence. -/
theorem step_append_in {F : Fence} {n : Nat} {P : Program} {w : World} {ops : Array Oper} {o : Oper} {a : Act} {K : Act → World → Prop} {Q : Exit → Act → World → Prop} {E : Prop}
    (hg : o.guard = none) (s x : Operand) (t : TypeId) (hop : o.op = Op.call { callee := Callee.builtin Builtin.append, args := #[s, x], argTypes := #[t, t] })
    (base : Nat) (e : TypeId) (i : TypeInfo) (z : Value) (size bytes : Nat) (h1 : P.underlying t = some (.slice e)) (h2 : P.info? e = some i) (h3 : i.zero = some z) (h4 : i.size = size) (h5 : i.bytes = bytes) (h6 : z.cells.size = size) (h7 : 0 < size)
    (v : Value) (k : Nat) (xs : List Value) (hs : a.eval s = v) (hown : w.ownsRow base e size v k xs) (ad : Addr) (m c : Nat) (news : List Value) (hx : a.eval x = .slice (some ad) m c) (hn : news.length = m * size)
    (hc : ∀ j u, news[j]? = some u → w.cell? (ad.add j) = some u) (h1c : ∀ u ∈ news, u.oneCell' = true) (b1 : k + m ≤ maxLen) (b2 : (k + m) * bytes ≤ 140737488355328) (b3 : base ≤ w.heap.size)
    (hK : ∀ v' w', w'.ownsRow base e size v' (k + m) (xs ++ news) → w.grownBy w' v.ownBlock → K (a.put o.dst v') w') :
    if Region.wanted o (yielded ops a.tmps) = true then Oper.wpIn F n P o a w K Q else E := by
  have hw : Region.wanted o (yielded ops a.tmps) = true := by simp [Region.wanted, hg]
  rw [if_pos hw]
  obtain ⟨v', w', hrun, r1, r2, r3⟩ := run_append_own (P := P) w base t o.type e i z size bytes h1 h2 h3 h4 h5 h6 h7 v k xs hown ad m c news hn hc h1c b1 b2 b3
  unfold Oper.wpIn
  refine ⟨?_, ?_⟩
  · simp [Oper.about, hop, resolve, Target.leads, Sem.run_pure]
  · rw [Oper.semAt_plain F _ _ (by rw [hop]; intro c hc'; cases hc')]
    simp [execOp, hop, resolve, invoke, builtin, hs, hx, hrun, Result.andThen]
    exact hK v' w' r1 r2

set_option maxRecDepth 100000 in
set_option maxHeartbeats 2000000 in
theorem cutIn (F : Fence) (hfn : ∀ f, F.fn f) (hro : F.round = none)
    (hcat : ∀ (m : Nat) (A : Option Addr) (n c : Nat) (bss : List (List UInt8)) (w : World), RdS w w.heap.size A n bss → n ≤ 140737488355328 → bss.flatten.length ≤ 140737488355328 →
      CallsIn F m Try.prog 24 #[.slice A n c] w fun e w' => RetB 5 w bss.flatten e w')
    (A : Option Addr) (len cap : Nat) (k : Int) (bs : List UInt8) (w : World) (hR : Rd w w.heap.size A len bs) (hlc : len ≤ cap) (hcap : cap ≤ 9223372036854775807) (hlen : len ≤ 1000000) (hk' : k ≤ 9223372036854775807) :
    CallsIn F 3 Try.prog 20 #[.slice A len cap, .int .i64 k] w fun e w' => RetRows w (chopI k bs) e w' := by
  have HR := Lib.hid hR
  have HC := Lib.hid hcat
  clear hR hcat
  obtain ⟨i0, hi, hz0, hz1, hz2⟩ := info_parts row_info
  refine callsIn_of_wp_marks Try.func20 rfl (hfn _) ?_ hro
  simp only [Try.ntmps20, List.size_toArray, List.length_cons, List.length_nil, Nat.reduceAdd, Nat.reduceSub, Array.replicate_succ, Array.replicate_zero, List.push_toArray, List.append_toArray, List.nil_append, List.cons_append]
  have h32 := hfn 32
  have h35 := hfn 35
  gi_wp2_with (gi_at_call 32; refine (piecesIn F _ h32 hro _ _ _ _ _).mono ?_; rintro e w' ⟨rfl, rfl⟩)
  obtain ⟨n0, hn0⟩ : ∃ n0, n0 = w.heap.size := ⟨_, rfl⟩
  have bL := Boxed.new w 37 (.slice none 0 0)
  have bB := Boxed.new (w.alloc (.cells #[.slice none 0 0] 37)) 23 (.slice A len cap)
  have bN := Boxed.new ((w.alloc (.cells #[.slice none 0 0] 37)).alloc (.cells #[.slice A len cap] 23)) 3 (.int .i64 k)
  simp only [World.size_alloc] at bB bN
  have hB0 : Below w.heap.size w (((w.alloc (.cells #[.slice none 0 0] 37)).alloc (.cells #[.slice A len cap] 23)).alloc (.cells #[.int .i64 k] 3)) := (((Below.refl _ w).alloc (Nat.le_refl _) _).alloc (by simp) _).alloc (by simp; omega) _
  have hsz : (((w.alloc (.cells #[.slice none 0 0] 37)).alloc (.cells #[.slice A len cap] 23)).alloc (.cells #[.int .i64 k] 3)).heap.size = w.heap.size + 3 := by simp
  have hI0 : CutI w.heap.size len w (((w.alloc (.cells #[.slice none 0 0] 37)).alloc (.cells #[.slice A len cap] 23)).alloc (.cells #[.int .i64 k] 3)) [] (((w.alloc (.cells #[.slice none 0 0] 37)).alloc (.cells #[.slice A len cap] 23)).alloc (.cells #[.int .i64 k] 3)) :=
    ⟨⟨_, [], (bL.alloc _).alloc _, World.ownsRow_nil _ _ _ _, OwnRows.nil _ _⟩, hB0, by rw [hsz]; exact Nat.le_refl _⟩
  have hst := piecesStops F (3 - 1) h35 hro (by omega) (w.heap.size + 1 + 1) (w.heap.size + 1) w.heap.size (w.heap.size + 3) len cap A k hk' bs _ bN.cell (bB.alloc _).cell (by omega) (by omega) (by rw [hsz]; omega) (by rw [hsz]; omega) (HR.out.below hB0) hlc hcap
  generalize ((w.alloc (.cells #[.slice none 0 0] 37)).alloc (.cells #[.slice A len cap] 23)).alloc (.cells #[.int .i64 k] 3) = W1 at *
  have hOF : OwnFrom W1.heap.size (CutI w.heap.size len w W1) := by rw [hsz]; exact cutI_own (Nat.le_refl _)
  refine wpIn_rangeFunc_ownG hro (by omega) (gf := 35) (lb := #[.pointer (some ⟨w.heap.size + 1 + 1, 0, none⟩), .pointer (some ⟨w.heap.size + 1, 0, none⟩)]) rfl h35 (enters_of Try.func35 (by kernel_rfl) rfl)
    hst KpX.trans (KpX.book (by omega) (by omega)) (Below.refl _ _) (fun _ => rfl)
    (CutI w.heap.size len w W1) (fun _ _ _ => False) hOF (fun _ _ _ _ _ hs _ _ => hs) hI0
    (fun x => { tmps := #[.slice A len cap, .int .i64 k, undef, undef, .slice none 0 0, .pointer (some ⟨w.heap.size, 0, none⟩), x.1.1, .slice A len cap, .int .i64 k, .func (.func 35) #[] #[.pointer (some ⟨w.heap.size + 1 + 1, 0, none⟩), .pointer (some ⟨w.heap.size + 1, 0, none⟩)], x.1.1, undef, undef, undef, undef, undef, undef, undef], defers := [] }) ?assign ?body ?done ?stop
  case assign =>
    intro l x W K hK
    gi_wp2
    exact hK
  case body =>
    rintro l pre x W ⟨⟨v, vs, hv, hrow, hO⟩, hB, hn3⟩ hlt
    obtain ⟨⟨xv, xb⟩, A', m, c, hx, hm, hmN, hRx⟩ := x
    dsimp only at hx hRx ⊢
    subst hx
    have hc := hv.cell
    have hfz := hv.frozen
    have h24 := hfn 24
    have hmx : Try.prog.follows .mixedOrders = true := by kernel_rfl
    gi_wp2
    have hRW : Rd W w.heap.size A' m xb := hRx.keep fun p hp => (hB.cell hp).trans (hB0.cell hp).symm
    have hcA := (hv.alloc (.cells #[.slice A' m c] 23)).cell
    have hS : RdS ((W.alloc (.cells #[.slice A' m c] 23)).drew) ((W.alloc (.cells #[.slice A' m c] 23)).drew).heap.size (some ⟨W.heap.size, 0, none⟩) 1 [xb] := by
      have h := RdS.lit (w := W) [.slice A' m c] 23 [xb] rfl (fun j hj => by
        rcases j with _ | j
        · exact ⟨_, _, _, rfl, hRW.more hB.size⟩
        · simp at hj)
      have e : ((W.alloc (.cells #[.slice A' m c] 23)).drew).heap.size = W.heap.size + 1 := by simp
      rw [e]
      exact h
    have HCall := Lib.hid (HC.out 0 (some ⟨W.heap.size, 0, none⟩) 1 1 [xb] _ hS (by decide) (by simp; rw [hRW.1]; omega))
    clear hS
    have hcallpost : ∀ (w1 : World) (A4 : Option Addr) (n4 c4 : Nat), w1.ownsRow ((W.alloc (.cells #[.slice A' m c] 23)).drew).heap.size 5 1 (.slice A4 n4 c4) n4 (([xb].flatten).map bval) →
        Below ((W.alloc (.cells #[.slice A' m c] 23)).drew).heap.size ((W.alloc (.cells #[.slice A' m c] 23)).drew) w1 →
        ∃ g4, A4 = some ⟨g4, 0, none⟩ ∧ Hid (w1.ownsRow (W.heap.size + 1) 5 1 (.slice (some ⟨g4, 0, none⟩) n4 c4) n4 (xb.map bval)) ∧ 0 < n4 ∧ Hid (Mid w.heap.size W w1 v pre.length vs (pre.map (·.1.2))) := by
      intro w1 A4 n4 c4 h1 h2
      have e : [xb].flatten = xb := by simp
      have e2 : ((W.alloc (.cells #[.slice A' m c] 23)).drew).heap.size = W.heap.size + 1 := by simp
      have hM := mid_of hv hrow hO h2
      rw [e, e2] at h1
      have hn : 0 < n4 := by
        have h3 := (Rd.of_own h1).1; have h4 := hRW.1; omega
      obtain ⟨g, rfl, _⟩ := own_head h1 hn
      exact ⟨g, rfl, h1, hn, hM⟩
    have HP := Lib.hid hcallpost
    clear hcallpost
    have hcallpost := HP.out
    have hfin : ∀ (w2 : World) (g4 n4 c4 : Nat) (v' : Value), (Boxed w2 w.heap.size 37 v ∧ Boxed (w2.setCell ⟨w.heap.size, 0, none⟩ v') w.heap.size 37 v' ∧ (w2.setCell ⟨w.heap.size, 0, none⟩ v').ownsRow (w.heap.size + 3) 23 1 v' (pre.length + 1) (vs ++ [.slice (some ⟨g4, 0, none⟩) n4 c4]) ∧
        OwnRows (w2.setCell ⟨w.heap.size, 0, none⟩ v') (w.heap.size + 3) (vs ++ [.slice (some ⟨g4, 0, none⟩) n4 c4]) (pre.map (·.1.2) ++ [xb]) ∧ KpX w.heap.size (w.heap.size + 3) W (w2.setCell ⟨w.heap.size, 0, none⟩ v') ∧ KeepsOthers W (w2.setCell ⟨w.heap.size, 0, none⟩ v')) →
        KeepsFrom W1.heap.size W (w2.setCell ⟨w.heap.size, 0, none⟩ v') ∧ KpX w.heap.size (w.heap.size + 3) W (w2.setCell ⟨w.heap.size, 0, none⟩ v') ∧ CutI w.heap.size len w W1 (pre ++ [⟨(.slice A' m c, xb), A', m, c, rfl, hm, hmN, hRx⟩]) (w2.setCell ⟨w.heap.size, 0, none⟩ v') := by
      rintro w2 g4 n4 c4 v' ⟨_, h2, h3, h4, h5, h6⟩
      refine ⟨h6.from _, h5, ⟨v', _, h2, by rw [List.length_append]; exact h3, by rw [List.map_append]; exact h4⟩, hB.trans h5.1, Nat.le_trans hn3 h6.size⟩
    have HFin := Lib.hid hfin
    clear hfin
    have hfin := HFin.out
    refine wpIn_region_any hmx ?_
    try (change wpAnyIn _ _ _ _ _ _ _ _ _ (World.drew _))
    refine wpAnyIn_ready (rs := [0, 1]) (by kernel_rfl) (by simp) ?_
    refine AllReadyIn.cons rfl (fun K hK => ?_) (AllReadyIn.cons rfl (fun K hK => ?_) AllReadyIn.nil)
    · go_simp
      refine hK _ _ ?_; clear hK K
      refine wpAnyIn_ready (rs := [1]) (by kernel_rfl) (by simp) ?_
      refine AllReadyIn.cons rfl (fun K hK => ?_) AllReadyIn.nil
      go_simp
      refine hK _ _ ?_; clear hK K
      refine wpAnyIn_ready (rs := [2]) (by kernel_rfl) (by simp) ?_
      refine AllReadyIn.cons rfl (fun K hK => ?_) AllReadyIn.nil
      go_simp
      refine hK _ _ ?_; clear hK K
      refine wpAnyIn_ready (rs := [3]) (by kernel_rfl) (by simp) ?_
      refine AllReadyIn.cons rfl (fun K hK => ?_) AllReadyIn.nil
      go_simp
      gi_wp2_with (gi_at_call 24; refine (CallsIn.inRound l HCall.out).mono ?_; rintro e w1 ⟨A4, n4, c4, rfl, hown4, hbel4⟩; obtain ⟨g4, rfl, hown5, hm4, hmid⟩ := hcallpost _ _ _ _ hown4 hbel4; have hcm := hmid.out.box.cell; have hfm := hmid.out.box.frozen; have hcm2 := (hmid.out.box.alloc (.cells #[.slice (some ⟨g4, 0, none⟩) n4 c4] 23)).cell; clear hown4 hbel4)
      refine wpAnyIn_ready (rs := [4]) (by kernel_rfl) (by simp) ?_
      refine AllReadyIn.cons rfl (fun K hK => ?_) AllReadyIn.nil
      go_simp
      refine hK _ _ ?_; clear hK K
      refine wpAnyIn_ready (rs := [5]) (by kernel_rfl) (by simp) ?_
      refine AllReadyIn.cons rfl (fun K hK => ?_) AllReadyIn.nil
      refine step_append_in rfl (.tmp 11) (.tmp 15) _ rfl (w.heap.size + 3) 23 i0 (.slice none 0 0) 1 24 Try.underlying37 hi hz0 hz1 hz2 rfl (by decide) v pre.length vs rfl (hmid.out.row.alloc _) ⟨w1.heap.size, 0, none⟩ 1 1 [.slice (some ⟨g4, 0, none⟩) n4 c4] rfl rfl (cell_one_new _ _ _) (by simp [Value.oneCell']) (by unfold maxLen; omega) (by omega) (by have := hmid.out.size; simp; omega) ?_
      intro v' w2 hown' hgrow
      obtain ⟨g', cap', rfl⟩ := ownsRow_succ hown'
      have hst := Lib.hid (store_of hmid.out hown5.out hm4 hO hn3 hown' hgrow)
      have hc5 := hst.out.1.cell
      have hf5 := hst.out.1.frozen
      clear hown' hgrow
      refine hK _ _ ?_; clear hK K
      refine wpAnyIn_ready (rs := [6]) (by kernel_rfl) (by simp) ?_
      refine AllReadyIn.cons rfl (fun K hK => ?_) AllReadyIn.nil
      go_simp
      refine hK _ _ ?_; clear hK K
      refine wpAnyIn_done (by kernel_rfl) ?_ _
      show KeepsFrom _ W _ ∧ KpX _ _ W _ ∧ CutI _ _ _ _ _ _
      exact hfin _ _ _ _ _ hst.out
    · go_simp
      refine hK _ _ ?_; clear hK K
      refine wpAnyIn_ready (rs := [0, 2]) (by kernel_rfl) (by simp) ?_
      refine AllReadyIn.cons rfl (fun K hK => ?_) (AllReadyIn.cons rfl (fun K hK => ?_) AllReadyIn.nil)
      · go_simp
        refine hK _ _ ?_; clear hK K
        refine wpAnyIn_ready (rs := [2]) (by kernel_rfl) (by simp) ?_
        refine AllReadyIn.cons rfl (fun K hK => ?_) AllReadyIn.nil
        go_simp
        refine hK _ _ ?_; clear hK K
        refine wpAnyIn_ready (rs := [3]) (by kernel_rfl) (by simp) ?_
        refine AllReadyIn.cons rfl (fun K hK => ?_) AllReadyIn.nil
        go_simp
        gi_wp2_with (gi_at_call 24; refine (CallsIn.inRound l HCall.out).mono ?_; rintro e w1 ⟨A4, n4, c4, rfl, hown4, hbel4⟩; obtain ⟨g4, rfl, hown5, hm4, hmid⟩ := hcallpost _ _ _ _ hown4 hbel4; have hcm := hmid.out.box.cell; have hfm := hmid.out.box.frozen; have hcm2 := (hmid.out.box.alloc (.cells #[.slice (some ⟨g4, 0, none⟩) n4 c4] 23)).cell; clear hown4 hbel4)
        refine wpAnyIn_ready (rs := [4]) (by kernel_rfl) (by simp) ?_
        refine AllReadyIn.cons rfl (fun K hK => ?_) AllReadyIn.nil
        go_simp
        refine hK _ _ ?_; clear hK K
        refine wpAnyIn_ready (rs := [5]) (by kernel_rfl) (by simp) ?_
        refine AllReadyIn.cons rfl (fun K hK => ?_) AllReadyIn.nil
        refine step_append_in rfl (.tmp 11) (.tmp 15) _ rfl (w.heap.size + 3) 23 i0 (.slice none 0 0) 1 24 Try.underlying37 hi hz0 hz1 hz2 rfl (by decide) v pre.length vs rfl (hmid.out.row.alloc _) ⟨w1.heap.size, 0, none⟩ 1 1 [.slice (some ⟨g4, 0, none⟩) n4 c4] rfl rfl (cell_one_new _ _ _) (by simp [Value.oneCell']) (by unfold maxLen; omega) (by omega) (by have := hmid.out.size; simp; omega) ?_
        intro v' w2 hown' hgrow
        obtain ⟨g', cap', rfl⟩ := ownsRow_succ hown'
        have hst := Lib.hid (store_of hmid.out hown5.out hm4 hO hn3 hown' hgrow)
        have hc5 := hst.out.1.cell
        have hf5 := hst.out.1.frozen
        clear hown' hgrow
        refine hK _ _ ?_; clear hK K
        refine wpAnyIn_ready (rs := [6]) (by kernel_rfl) (by simp) ?_
        refine AllReadyIn.cons rfl (fun K hK => ?_) AllReadyIn.nil
        go_simp
        refine hK _ _ ?_; clear hK K
        refine wpAnyIn_done (by kernel_rfl) ?_ _
        show KeepsFrom _ W _ ∧ KpX _ _ W _ ∧ CutI _ _ _ _ _ _
        exact hfin _ _ _ _ _ hst.out
      · go_simp
        refine hK _ _ ?_; clear hK K
        refine wpAnyIn_ready (rs := [0, 3]) (by kernel_rfl) (by simp) ?_
        refine AllReadyIn.cons rfl (fun K hK => ?_) (AllReadyIn.cons rfl (fun K hK => ?_) AllReadyIn.nil)
        · go_simp
          refine hK _ _ ?_; clear hK K
          refine wpAnyIn_ready (rs := [3]) (by kernel_rfl) (by simp) ?_
          refine AllReadyIn.cons rfl (fun K hK => ?_) AllReadyIn.nil
          go_simp
          gi_wp2_with (gi_at_call 24; refine (CallsIn.inRound l HCall.out).mono ?_; rintro e w1 ⟨A4, n4, c4, rfl, hown4, hbel4⟩; obtain ⟨g4, rfl, hown5, hm4, hmid⟩ := hcallpost _ _ _ _ hown4 hbel4; have hcm := hmid.out.box.cell; have hfm := hmid.out.box.frozen; have hcm2 := (hmid.out.box.alloc (.cells #[.slice (some ⟨g4, 0, none⟩) n4 c4] 23)).cell; clear hown4 hbel4)
          refine wpAnyIn_ready (rs := [4]) (by kernel_rfl) (by simp) ?_
          refine AllReadyIn.cons rfl (fun K hK => ?_) AllReadyIn.nil
          go_simp
          refine hK _ _ ?_; clear hK K
          refine wpAnyIn_ready (rs := [5]) (by kernel_rfl) (by simp) ?_
          refine AllReadyIn.cons rfl (fun K hK => ?_) AllReadyIn.nil
          refine step_append_in rfl (.tmp 11) (.tmp 15) _ rfl (w.heap.size + 3) 23 i0 (.slice none 0 0) 1 24 Try.underlying37 hi hz0 hz1 hz2 rfl (by decide) v pre.length vs rfl (hmid.out.row.alloc _) ⟨w1.heap.size, 0, none⟩ 1 1 [.slice (some ⟨g4, 0, none⟩) n4 c4] rfl rfl (cell_one_new _ _ _) (by simp [Value.oneCell']) (by unfold maxLen; omega) (by omega) (by have := hmid.out.size; simp; omega) ?_
          intro v' w2 hown' hgrow
          obtain ⟨g', cap', rfl⟩ := ownsRow_succ hown'
          have hst := Lib.hid (store_of hmid.out hown5.out hm4 hO hn3 hown' hgrow)
          have hc5 := hst.out.1.cell
          have hf5 := hst.out.1.frozen
          clear hown' hgrow
          refine hK _ _ ?_; clear hK K
          refine wpAnyIn_ready (rs := [6]) (by kernel_rfl) (by simp) ?_
          refine AllReadyIn.cons rfl (fun K hK => ?_) AllReadyIn.nil
          go_simp
          refine hK _ _ ?_; clear hK K
          refine wpAnyIn_done (by kernel_rfl) ?_ _
          show KeepsFrom _ W _ ∧ KpX _ _ W _ ∧ CutI _ _ _ _ _ _
          exact hfin _ _ _ _ _ hst.out
        · go_simp
          gi_wp2_with (gi_at_call 24; refine (CallsIn.inRound l HCall.out).mono ?_; rintro e w1 ⟨A4, n4, c4, rfl, hown4, hbel4⟩; obtain ⟨g4, rfl, hown5, hm4, hmid⟩ := hcallpost _ _ _ _ hown4 hbel4; have hcm := hmid.out.box.cell; have hfm := hmid.out.box.frozen; have hcm2 := (hmid.out.box.alloc (.cells #[.slice (some ⟨g4, 0, none⟩) n4 c4] 23)).cell; clear hown4 hbel4)
          refine wpAnyIn_ready (rs := [0, 4]) (by kernel_rfl) (by simp) ?_
          refine AllReadyIn.cons rfl (fun K hK => ?_) (AllReadyIn.cons rfl (fun K hK => ?_) AllReadyIn.nil)
          · go_simp
            refine hK _ _ ?_; clear hK K
            refine wpAnyIn_ready (rs := [4]) (by kernel_rfl) (by simp) ?_
            refine AllReadyIn.cons rfl (fun K hK => ?_) AllReadyIn.nil
            go_simp
            refine hK _ _ ?_; clear hK K
            refine wpAnyIn_ready (rs := [5]) (by kernel_rfl) (by simp) ?_
            refine AllReadyIn.cons rfl (fun K hK => ?_) AllReadyIn.nil
            refine step_append_in rfl (.tmp 11) (.tmp 15) _ rfl (w.heap.size + 3) 23 i0 (.slice none 0 0) 1 24 Try.underlying37 hi hz0 hz1 hz2 rfl (by decide) v pre.length vs rfl (hmid.out.row.alloc _) ⟨w1.heap.size, 0, none⟩ 1 1 [.slice (some ⟨g4, 0, none⟩) n4 c4] rfl rfl (cell_one_new _ _ _) (by simp [Value.oneCell']) (by unfold maxLen; omega) (by omega) (by have := hmid.out.size; simp; omega) ?_
            intro v' w2 hown' hgrow
            obtain ⟨g', cap', rfl⟩ := ownsRow_succ hown'
            have hst := Lib.hid (store_of hmid.out hown5.out hm4 hO hn3 hown' hgrow)
            have hc5 := hst.out.1.cell
            have hf5 := hst.out.1.frozen
            clear hown' hgrow
            refine hK _ _ ?_; clear hK K
            refine wpAnyIn_ready (rs := [6]) (by kernel_rfl) (by simp) ?_
            refine AllReadyIn.cons rfl (fun K hK => ?_) AllReadyIn.nil
            go_simp
            refine hK _ _ ?_; clear hK K
            refine wpAnyIn_done (by kernel_rfl) ?_ _
            show KeepsFrom _ W _ ∧ KpX _ _ W _ ∧ CutI _ _ _ _ _ _
            exact hfin _ _ _ _ _ hst.out
          · go_simp
            refine hK _ _ ?_; clear hK K
            refine wpAnyIn_ready (rs := [0]) (by kernel_rfl) (by simp) ?_
            refine AllReadyIn.cons rfl (fun K hK => ?_) AllReadyIn.nil
            go_simp
            refine hK _ _ ?_; clear hK K
            refine wpAnyIn_ready (rs := [5]) (by kernel_rfl) (by simp) ?_
            refine AllReadyIn.cons rfl (fun K hK => ?_) AllReadyIn.nil
            refine step_append_in rfl (.tmp 11) (.tmp 15) _ rfl (w.heap.size + 3) 23 i0 (.slice none 0 0) 1 24 Try.underlying37 hi hz0 hz1 hz2 rfl (by decide) v pre.length vs rfl (hmid.out.row.alloc _) ⟨w1.heap.size, 0, none⟩ 1 1 [.slice (some ⟨g4, 0, none⟩) n4 c4] rfl rfl (cell_one_new _ _ _) (by simp [Value.oneCell']) (by unfold maxLen; omega) (by omega) (by have := hmid.out.size; simp; omega) ?_
            intro v' w2 hown' hgrow
            obtain ⟨g', cap', rfl⟩ := ownsRow_succ hown'
            have hst := Lib.hid (store_of hmid.out hown5.out hm4 hO hn3 hown' hgrow)
            have hc5 := hst.out.1.cell
            have hf5 := hst.out.1.frozen
            clear hown' hgrow
            refine hK _ _ ?_; clear hK K
            refine wpAnyIn_ready (rs := [6]) (by kernel_rfl) (by simp) ?_
            refine AllReadyIn.cons rfl (fun K hK => ?_) AllReadyIn.nil
            go_simp
            refine hK _ _ ?_; clear hK K
            refine wpAnyIn_done (by kernel_rfl) ?_ _
            show KeepsFrom _ W _ ∧ KpX _ _ W _ ∧ CutI _ _ _ _ _ _
            exact hfin _ _ _ _ _ hst.out
  case done =>
    rintro D ys W hD hys ⟨⟨v, vs, hv, hrow, hO⟩, hB, hn3⟩ hK
    have hc := hv.cell
    have HS := Lib.hid hys
    clear hys
    obtain ⟨A1, c1, rfl⟩ := own_slice hrow
    gi_wp2
    refine ⟨by simp, .inl ⟨_, _, rfl, run_takeDeferred hK, ?_⟩⟩
    refine ⟨_, results_tmp rfl _ _ _, A1, ys.length, c1, vs, rfl, own_mono (ownsRow_putObj hrow _ hK rfl) (by omega), ?_, hB.trans (belowK_b (w := w) (Nat.le_refl _) W D _ _ (by omega) hK rfl rfl)⟩
    rw [← HS.out]
    refine (hO.keep fun g cur _ hh => World.putObj_heap_other (fun e => ?_)).mono (by omega)
    subst e
    rw [hh] at hK; cases hK
  case stop =>
    rintro D c pre W _ _ h _
    exact h.elim

theorem wCut (A : Option Addr) (len cap : Nat) (k : Int) (bs : List UInt8) (w : World) (hR : Rd w w.heap.size A len bs) (hlc : len ≤ cap) (hcap : cap ≤ 9223372036854775807) (hlen : len ≤ 1000000) (hk' : k ≤ 9223372036854775807) :
    Calls Try.prog 20 #[.slice A len cap, .int .i64 k] w fun e w' => RetRows w (chopI k bs) e w' :=
  (callsIn_wide (n := 3)).1 (cutIn Fence.wide (fun _ => trivial) rfl (fun m A n c bss w h1 h2 h3 => callsIn_wide.2 (wCat A n c bss w h1 h2 h3)) A len cap k bs w hR hlc hcap hlen hk')

/-- As a slice that is read. -/
theorem OwnRows.rdS {w : World} {B n c : Nat} {A : Option Addr} {vs : List Value} {bss : List (List UInt8)} (h : w.ownsRow B 23 1 (.slice A n c) n vs) (hO : OwnRows w B vs bss) : RdS w w.heap.size A n bss := by
  have hl : vs.length = n := by simpa using h.1
  refine ⟨by rw [← hO.1]; exact hl, fun hn => ?_⟩
  obtain ⟨g, cap, hv, _, hlt⟩ := h.form hn
  have hA : A = some ⟨g, 0, none⟩ := by injection hv
  subst hA
  refine ⟨g, 0, rfl, hlt, fun j hj => ?_⟩
  obtain ⟨g', m, c', e, _, ho⟩ := hO.2.1 j (by omega)
  refine ⟨_, m, c', ?_, Rd.of_own ho⟩
  have := h.cells (g := g) rfl j _ e
  have e' : (⟨g, 0, none⟩ : Addr).add j = ⟨g, 0 + j, none⟩ := by unfold Addr.add; split <;> simp_all
  rw [← e']; exact this
end Go.Proofs.Ytpknclidladncaa
