/- The program's All. -/
import Derived.Test.YtggnpnicmjjfbaaRegI
import Derived.Test.YtggnpnicmjjfbaaRegQ
namespace Go.Proofs.Ytggnpnicmjjfbaa
open Go.RowKit Go.Shelf
set_option linter.unusedVariables false
set_option linter.unusedSimpArgs false
attribute [local go_sem] Oper.semAt_some

/-- Between two rounds: all pairs that have come are apart. -/
def AllI (n0 : Nat) (w : World) (l : List Reg) (pre : List (PairOf l)) (W : World) : Prop :=
  Boxed W n0 31 (.int .i64 0) ∧ Below n0 w W ∧ n0 < W.heap.size ∧ ∀ y ∈ pre, apartR y.1.1 y.1.2 = true
/-- Behind a round that has left: two are not apart. -/
def AllX (n0 : Nat) (w : World) (l : List Reg) (c : Code) (pre : List (PairOf l)) (W : World) : Prop :=
  c = .ret ∧ Boxed W n0 31 (.int .i64 121) ∧ Below n0 w W ∧ ∃ y ∈ pre, apartR y.1.1 y.1.2 = false
theorem allI_own {n0 B : Nat} {w : World} {l : List Reg} (hn : n0 ≤ w.heap.size) (hB : n0 < B) : OwnFrom B (AllI n0 w l) := by
  rintro s X Y row ⟨h1, h2, h3, h4⟩ hg hrow
  refine ⟨h1.kept hg (fun e => ?_), h2.grown hg (Nat.le_trans hn h2.size) (fun k e => by have := (hrow k e).1; omega), Nat.lt_of_lt_of_le h3 hg.size, h4⟩
  have := (hrow n0 e.symm).1; omega
theorem allX_own {n0 B : Nat} {w : World} {l : List Reg} (hn : n0 ≤ w.heap.size) (hB : n0 < B) (c : Code) : OwnFrom B (AllX n0 w l c) := by
  rintro s X Y row ⟨h0, h1, h2, h4⟩ hg hrow
  refine ⟨h0, h1.kept hg (fun e => ?_), h2.grown hg (Nat.le_trans hn h2.size) (fun k e => by have := (hrow k e).1; omega), h4⟩
  have := (hrow n0 e.symm).1; omega
theorem box_own {B g : Nat} {b s : Int} : OwnFrom B (fun (_ : Unit) W => Box W g b s) := by
  rintro _ X Y row ⟨h1, h2, h3⟩ hg hrow
  have hr : ∀ r, row = some r → ∃ o : Obj, X.heap[r]? = some o ∧ o.isCells = false := fun r e => (hrow r e).2
  exact ⟨cell_kept h1 hg hr, cell_kept h2 hg hr, Nat.lt_of_lt_of_le h3 hg.size⟩

theorem KeepsFrom.of_below {B : Nat} {W W' : World} (h : Below W.heap.size W W') : KeepsFrom B W W' := ⟨h.size, fun k o _ hk _ => (h.block k (Array.getElem?_eq_some_iff.1 hk).1).trans hk⟩
/-- What the body finds: the two regions, each in a box. -/
def AllAx (t5 t8 : Value) (n0 B : Nat) (l : List Reg) (x : PairOf l) (a : Act) (W : World) : Prop :=
  ∃ g1 g2, Box W g1 x.1.1.1 x.1.1.2 ∧ Box W g2 x.1.2.1 x.1.2.2 ∧
    a = { tmps := #[t5, undef, .pointer (some ⟨n0, 0, none⟩), .pointer (some ⟨g1, 0, none⟩), .pointer (some ⟨g2, 0, none⟩), t5, .bool false, t5, t8, .agg #[.int .i64 x.1.1.1, .int .i64 x.1.1.2], .agg #[.int .i64 x.1.2.1, .int .i64 x.1.2.2], undef, undef, undef, undef], defers := [] }
theorem allAx_own {t5 t8 : Value} {n0 B B' : Nat} {l : List Reg} (x : PairOf l) (a : Act) : OwnFrom B' (fun (_ : Unit) W => AllAx t5 t8 n0 B l x a W) := by
  rintro s X Y row ⟨g1, g2, h1, h2, h3⟩ hg hrow
  exact ⟨g1, g2, box_own () X Y row h1 hg hrow, box_own () X Y row h2 hg hrow, h3⟩

/-- An error that lies in a cell of the call's own. -/
theorem res_errno {fn : Func} {p : Tmp} (h : fn.results = #[.cell p 31]) (tmps : Array Value) (w : World) (g : Nat) (v : Value) (hp : tmps.getD p undef = .pointer (some ⟨g, 0, none⟩)) (hc : w.cell? ⟨g, 0, none⟩ = some v) :
    (results fn tmps).run Try.prog w = .ok v w := by
  have hp' : tmps[p]?.getD undef = .pointer (some ⟨g, 0, none⟩) := by simpa using hp
  simp [results, h, hp', asAddr]
  go_simp

set_option maxRecDepth 100000 in
set_option maxHeartbeats 2000000 in
theorem allIn (F : Fence) (hfn : ∀ f, F.fn f) (hro : F.round = none)
    (hcont : ∀ (m : Nat) (A : Option Addr) (n c : Nat) (l : List Reg) (w : World), RdG w w.heap.size A n l → n ≤ 9223372036854775807 →
      CallsIn F m Try.prog 25 #[.slice A n c, .func (.func 26) #[] #[]] w fun e w' => e = .returned (.bool (l.any fun r => !mayR r)) ∧ Below w.heap.size w w')
    (hap : ∀ (m : Nat) (b s c r : Int) (w : World), CallsIn F m Try.prog 13 #[.agg #[.int .i64 b, .int .i64 s], .agg #[.int .i64 c, .int .i64 r]] w fun e w' => e = .returned (.bool (apartR (b, s) (c, r))) ∧ Below w.heap.size w w')
    (A : Option Addr) (n c : Nat) (l : List Reg) (w : World) (h : RdG w w.heap.size A n l) (hnc : n ≤ c) (hc : c ≤ 9223372036854775807) :
    CallsIn F 3 Try.prog 18 #[.slice A n c] w fun e w' => e = .returned (.int .i64 (allR l)) ∧ Below w.heap.size w w' := by
  have B := Lib.hid ((Below.refl w.heap.size w).alloc (Nat.le_refl _) (.cells #[.int .i64 0] 31))
  have H := Lib.hid (h.to B.out)
  have bX := Lib.hid (Boxed.new w 31 (.int .i64 0))
  have HC := Lib.hid hcont
  have HA := Lib.hid hap
  have HN := Lib.hid hnc
  have HCC := Lib.hid hc
  clear h hcont hap hnc hc
  refine callsIn_of_wp_marks Try.func18 rfl (hfn _) ?_ hro
  simp only [Try.ntmps18, List.size_toArray, List.length_cons, List.length_nil, Nat.reduceAdd, Nat.reduceSub, Array.replicate_succ, Array.replicate_zero, List.push_toArray, List.append_toArray, List.nil_append, List.cons_append]
  have h25 := hfn 25
  have h27 := hfn 27
  have h29 := hfn 29
  have h13 := hfn 13
  have hbx : ∀ w1 : World, Below (w.alloc (.cells #[.int .i64 0] 31)).heap.size (w.alloc (.cells #[.int .i64 0] 31)) w1 → Boxed w1 w.heap.size 31 (.int .i64 0) := fun w1 hb => (hb.block w.heap.size (by simp)).trans bX.out
  have HBX := Lib.hid hbx
  clear hbx
  cases hm : l.any fun r => !mayR r
  case' true =>
    gi_wp2_with (gi_at_call 25; refine (HC.out _ A n c l _ H.out (Nat.le_trans HN.out HCC.out)).mono ?_; rw [hm]; rintro e w1 ⟨rfl, hb⟩; have hbx1 := HBX.out w1 hb; have hcx1 := hbx1.cell; have hfx1 := hbx1.frozen)
    refine ⟨_, res_errno rfl _ _ w.heap.size (.int .i64 2) rfl (World.cell?_setCell_same' _ _ _ (by rw [hcx1]; rfl)), ?_, ?_⟩
    · rw [allR_2 hm]
    · exact (B.out.trans (hb.mono B.out.size)).setCell (p := ⟨w.heap.size, 0, none⟩) (Nat.le_refl _) _
  case' false =>
    gi_wp2_with (first
      | (gi_at_call 25; refine (HC.out _ A n c l _ H.out (Nat.le_trans HN.out HCC.out)).mono ?_; rw [hm]; rintro e w1 ⟨rfl, hb⟩; have hbx1 := HBX.out w1 hb)
      | (gi_at_call 27; refine (pairsIn F _ h27 hro _ _ _ _).mono ?_; rintro e w' ⟨rfl, rfl⟩))
    have HB1 := Lib.hid hb
    have hR0 := (H.out.to hb).below ((Below.refl _ w1).alloc (Nat.le_refl _) (.cells #[.slice A n c] 30))
    have hst := pairsStops F (3 - 1) h29 hro (by omega) w1.heap.size w1.heap.size n c A l (w1.alloc (.cells #[.slice A n c] 30)) (by simp) hR0 (by simp) HN.out HCC.out
    have hbx0 := hbx1.alloc (.cells #[.slice A n c] 30)
    have hB0 : Below w.heap.size w (w1.alloc (.cells #[.slice A n c] 30)) := (B.out.trans (hb.mono B.out.size)).alloc (by have := B.out.size; have := hb.size; omega) _
    have hlt0 : w.heap.size < (w1.alloc (.cells #[.slice A n c] 30)).heap.size := by have := hb.size; simp at this ⊢; omega
    have HM := Lib.hid hm
    clear hbx1 hb hm hR0
    generalize w1.alloc (.cells #[.slice A n c] 30) = W0 at *
    generalize w1.heap.size = g0 at *
    have HB0 := Lib.hid hB0
    have HLT := Lib.hid hlt0
    have HI0 : Hid (AllI w.heap.size w l [] W0) := ⟨hbx0, hB0, hlt0, fun y hy => by cases hy⟩
    clear hbx0 hB0 hlt0
    refine wpIn_rangeFunc_ownH hro (by omega) (gf := 29) (lb := #[.pointer (some ⟨g0, 0, none⟩)]) rfl h29 (enters_of Try.func29 (by kernel_rfl) rfl)
      hst KpC.trans (fun W l' o o' hl h h1 h2 => KpC.book (w := W0) W l' o o' hl h h1 h2) (Below.refl _ _) (fun _ => rfl)
      (AllI w.heap.size w l) (AllX w.heap.size w l) (allI_own (Nat.le_refl _) HLT.out) (allX_own (Nat.le_refl _) HLT.out) HI0.out
      (AllAx (.slice A n c) (.func (.func 29) #[] #[.pointer (some ⟨g0, 0, none⟩)]) w.heap.size W0.heap.size l) (fun x a' => allAx_own x a') ?assign ?body ?done ?stop
    case assign =>
      rintro ly pre x W K hi hK
      have HK := Lib.hid hK
      have HI := Lib.hid hi
      clear hK hi
      gi_wp2
      refine HK.out _ _ ?_ ?_ ?_ ?_
      · exact ((KeepsOthers.alloc _ _).trans (KeepsOthers.alloc _ _)).from _
      · exact (KpC.alloc _ _).trans (KpC.alloc _ _)
      · exact (allI_own (B := w.heap.size + 1) (Nat.le_refl _) (Nat.lt_succ_self _)).alloc _ ((allI_own (B := w.heap.size + 1) (Nat.le_refl _) (Nat.lt_succ_self _)).alloc _ HI.out)
      · exact ⟨_, _, (Box.new W x.1.1.1 x.1.1.2).to ((Below.refl _ _).alloc (Nat.le_refl _) _), Box.new _ x.1.2.1 x.1.2.2, by simp⟩
    case body =>
      rintro ly pre x a' W hl ⟨r, hr⟩ ⟨hbx, hB, hlt, hall⟩ ⟨g1, g2, b1, b2, rfl⟩ hlen
      obtain ⟨x1, x2, _⟩ := b1
      obtain ⟨y1, y2, _⟩ := b2
      have HBW := Lib.hid hB
      have HALL := Lib.hid hall
      have HLT2 := Lib.hid hlt
      clear hB hall hl hr hlen hlt hst
      have hfin : ∀ W3 : World, Below W.heap.size W W3 → Boxed W3 w.heap.size 31 (.int .i64 0) := fun W3 hb3 => (hb3.block w.heap.size hbx.lt).trans hbx
      have HFIN := Lib.hid hfin
      clear hfin
      cases hq : apartR (x.1.1.1, x.1.1.2) (x.1.2.1, x.1.2.2)
      case' true =>
        have HQ := Lib.hid hq
        clear hq
        gi_wp2_with (gi_at_call 13; refine (CallsIn.inRound ly (HA.out _ _ _ _ _ _)).mono ?_; rw [HQ.out]; rintro e W3 ⟨rfl, hb3⟩)
        refine ⟨KeepsFrom.of_below hb3, KpC.of_below hb3, HFIN.out _ hb3, HBW.out.trans (hb3.mono (Nat.le_of_lt HLT2.out)), Nat.lt_of_lt_of_le HLT2.out hb3.size, fun y hy => ?_⟩
        rcases List.mem_append.1 hy with h | h
        · exact HALL.out y h
        · obtain rfl : y = x := by simpa using h
          exact HQ.out
      case' false =>
        have HQ := Lib.hid hq
        clear hq
        gi_wp2_with (gi_at_call 13; refine (CallsIn.inRound ly (HA.out _ _ _ _ _ _)).mono ?_; rw [HQ.out]; rintro e W3 ⟨rfl, hb3⟩; have hbx3 := HFIN.out _ hb3; have hcx3 := hbx3.cell; have hfx3 := hbx3.frozen)
        refine ⟨(KeepsFrom.of_below hb3).trans ((KeepsOthers.setCell _ _ _).from _), rfl, ?_, ?_, x, by simp, HQ.out⟩
        · exact hbx3.set _
        · exact (HBW.out.trans (hb3.mono (Nat.le_of_lt HLT2.out))).setCell (p := ⟨w.heap.size, 0, none⟩) (Nat.le_refl _) _
    case done =>
      rintro D ys W hD hys ⟨hbx, hB, hlt, hall⟩ hK
      have hcx := hbx.cell
      have hfx := hbx.frozen
      have HD := Lib.hid hD
      have HBW := Lib.hid hB
      have hv : allR l = 0 := allR_zero.2 ⟨fun r hr => by
        obtain ⟨k, hk, rfl⟩ := List.getElem_of_mem hr
        have := any_false_iff.1 HM.out k hk
        rwa [rat_lt hk] at this, pair_iff.2 fun i hi k hk => by
          obtain ⟨y, hy, e⟩ := hys i k hk hi
          have := hall y hy
          rwa [e] at this⟩
      have HV := Lib.hid hv
      clear hys hall hv hD hB hst
      gi_wp2
      have hK2 := (KeepsOthers.setCell W ⟨w.heap.size, 0, none⟩ (.int .i64 0)).same D _ hK rfl
      refine ⟨by simp, .inl ⟨_, _, rfl, run_takeDeferred hK2, ?_⟩⟩
      refine ⟨_, res_errno rfl _ _ w.heap.size (.int .i64 0) rfl (cell_kept (World.cell?_setCell_same' _ _ _ (by rw [hcx]; rfl)) (grownBy_putObj' _ D (.deferred none)) (fun r e => by cases e; exact ⟨_, hK2, rfl⟩)), by rw [HV.out], ?_⟩
      exact (HBW.out.setCell (p := ⟨w.heap.size, 0, none⟩) (Nat.le_refl _) _).trans (belowK_b (w := w) (Nat.le_refl _) _ D _ _ (by have := HD.out; have := HLT.out; omega) hK2 rfl rfl)
    case stop =>
      rintro D cc pre W hD _ ⟨rfl, hbx, hB, y, hy, hq⟩ hK
      have hcx := hbx.cell
      have hv : allR l = 121 := by
        obtain ⟨k, i, hk, hi, e⟩ := y.2
        rw [e] at hq
        exact allR_121 HM.out hi hk hq
      gi_wp2
      refine ⟨by simp, .inl ⟨_, _, rfl, run_takeDeferred hK, ?_⟩⟩
      refine ⟨_, res_errno rfl _ _ w.heap.size (.int .i64 121) rfl (cell_kept hcx (grownBy_putObj' _ D (.deferred none)) (fun r e => by cases e; exact ⟨_, hK, rfl⟩)), by rw [hv], ?_⟩
      exact hB.trans (belowK_b (w := w) (Nat.le_refl _) _ D _ _ (by have := HLT.out; omega) hK rfl rfl)

theorem wAll (A : Option Addr) (n c : Nat) (l : List Reg) (w : World) (h : RdG w w.heap.size A n l) (hnc : n ≤ c) (hc : c ≤ 9223372036854775807) :
    Calls Try.prog 18 #[.slice A n c] w fun e w' => e = .returned (.int .i64 (allR l)) ∧ Below w.heap.size w w' :=
  (callsIn_wide (n := 3)).1 (allIn Fence.wide (fun _ => trivial) rfl
    (fun m A n c l w h1 h2 => callsIn_wide.2 (wContains _ _ (enters_of Try.func26 (by kernel_rfl) rfl) _ A n c l w (pMay w) h1 h2))
    (fun m b s c r w => callsIn_wide.2 (wApart b s c r w)) A n c l w h hnc hc)
end Go.Proofs.Ytggnpnicmjjfbaa
