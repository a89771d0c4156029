/- Several texts in one (a claim has 60 files at most): SlC, SlE, SlD. -/
import Derived.Test.YtopilgedcnbdaaaDoorTz
import Derived.Test.YtopilgedcnbdaaaDoorSlA
import Derived.Test.YtopilgedcnbdaaaDoorSlB
import Derived.Test.YtopilgedcnbdaaaDoorRgI
import Derived.Test.YtopilgedcnbdaaaDoorRefA
namespace Go.Proofs.YtopilgedcnbdaaaDoor
set_option maxRecDepth 1000000
set_option maxHeartbeats 8000000
set_option linter.unusedVariables false
set_option linter.unusedSimpArgs false
section
open Go.RowKit Go.Shelf
attribute [local go_sem] Oper.semAt_some
theorem keep_gr {w w' : World} {row : Option Nat} (h : w.grownBy w' row) : Keep (fun k => some k = row) w w' := ⟨h.os, h.tape, h.output, h.size, fun k hk hn => h.block k hk hn⟩
theorem KeepsFrom.of_belowS {B : Nat} {W W' : World} (h : Below W.heap.size W W') : KeepsFrom B W W' := ⟨h.size, fun k o _ hk _ => (h.block k (Array.getElem?_eq_some_iff.1 hk).1).trans hk⟩
theorem KeepsFrom.of_keep {B : Nat} {R : Nat → Prop} {W W' : World} (h : Keep R W W') (hR : ∀ k, R k → k < B) : KeepsFrom B W W' :=
 ⟨h.size, fun k o hB hk _ => (h.block k (Array.getElem?_eq_some_iff.1 hk).1 (fun hr => by have := hR k hr; omega)).trans hk⟩
theorem DkAt.set {w : World} {d : Nat} {D : Nat → Prop} {s : DS} (h : DkAt w d D s) (p : Addr) (v : Value) (hn : ¬ D p.block) : DkAt (w.setCell p v) d D s :=
 h.kept (R := (· = p.block)) ((Keep.refl _ _).setCell p v rfl) (fun k hk e => hn (by rw [← e]; exact hk))
theorem keep_put (W : World) (l : Nat) (o : Obj) : Keep (· = l) W (W.putObj l o) := by
 have hg := grownBy_putObj' W l o
 exact (keep_gr hg).more (fun k e => by injection e)
theorem DkAt.put {w : World} {d : Nat} {D : Nat → Prop} {s : DS} (h : DkAt w d D s) (l : Nat) (o : Obj) (hn : ¬ D l) : DkAt (w.putObj l o) d D s :=
 h.kept (R := (· = l)) (keep_put w l o) (fun k hk e => hn (by rw [← e]; exact hk))
theorem res_errnoS {fn : Func} {p : Tmp} (h : fn.results = #[.cell p 36]) (tmps : Array Value) (w : World) (g : Nat) (v : Value) (hp : tmps.getD p undef = .pointer (some ⟨g, 0, none⟩)) (hc : w.cell? ⟨g, 0, none⟩ = some v) :
  (results fn tmps).run Tryd.prog w = .ok v w := by
 have hp' : tmps[p]?.getD undef = .pointer (some ⟨g, 0, none⟩) := by simpa using hp
 simp [results, h, hp', asAddr]
 go_simp
def WrI (W0 : World) (d : Nat) (D : Nat → Prop) (sl p m : Nat) (b : List UInt8) (s : DS) (pre : List (Pl p m)) (W : World) : Prop :=
 ∃ s', goL sl p b (nums pre) s = (0, s') ∧ DkAt W d D s' ∧ Keep D W0 W
def WrX (W0 : World) (d : Nat) (D : Nat → Prop) (r sl p m : Nat) (b : List UInt8) (s : DS) (c : Code) (pre : List (Pl p m)) (W : World) : Prop :=
 c = .ret ∧ ∃ e s', goL sl p b (nums pre) s = (e, s') ∧ e ≠ 0 ∧ DkAt W d D s' ∧ W.cell? ⟨r, 0, none⟩ = some (.int .i64 e) ∧ Keep (fun k => D k ∨ k = r) W0 W
theorem wrI_own {W0 : World} {d : Nat} {D : Nat → Prop} {sl p m : Nat} {b : List UInt8} {s : DS} (hD : ∀ k, D k → k < W0.heap.size) : OwnFrom W0.heap.size (WrI W0 d D sl p m b s) := by
 rintro pre X Y row ⟨s', h1, h2, h3⟩ hg hrow
 exact ⟨s', h1, h2.kept (keep_gr hg) (fun k hk e => by have := (hrow k e.symm).1; have := hD k hk; omega), h3.new ((keep_gr hg).more (fun k e => .inr (hrow k e.symm).1))⟩
theorem wrX_own {W0 : World} {d : Nat} {D : Nat → Prop} {r sl p m : Nat} {b : List UInt8} {s : DS} (hD : ∀ k, D k → k < W0.heap.size) (c : Code) : OwnFrom W0.heap.size (WrX W0 d D r sl p m b s c) := by
 rintro pre X Y row ⟨h0, e, s', h1, hne, h2, hb, h3⟩ hg hrow
 exact ⟨h0, e, s', h1, hne, h2.kept (keep_gr hg) (fun k hk e => by have := (hrow k e.symm).1; have := hD k hk; omega), cell_kept hb hg (fun r e => (hrow r e).2), h3.new ((keep_gr hg).more (fun k e => .inr (hrow k e.symm).1))⟩
def PlAt (W : World) (g sl p j : Nat) : Prop :=
 W.cell? ⟨g, 0, none⟩ = some (.int .i64 ((3 + 64 * sl + j : Nat) : Int)) ∧ W.cell? ⟨g, 1, none⟩ = some (.int .i64 ((p - 64 * j : Nat) : Int)) ∧ W.cell? ⟨g, 2, none⟩ = some (.int .i64 ((64 * j - p : Nat) : Int))
theorem PlAt.grown {W W' : World} {g sl p j : Nat} {row : Option Nat} (h : PlAt W g sl p j) (hg : W.grownBy W' row) (hr : ∀ r, row = some r → ∃ o : Obj, W.heap[r]? = some o ∧ o.isCells = false) : PlAt W' g sl p j :=
 ⟨cell_kept h.1 hg hr, cell_kept h.2.1 hg hr, cell_kept h.2.2 hg hr⟩
abbrev wrWp (w : World) (p : Value) (A : Option Addr) (n c : Nat) : World := ((w.alloc (.cells #[p] 27)).alloc (.cells #[.slice A n c] 22)).alloc (.cells #[.int .i64 0] 36)
theorem wrWp_is (w : World) (p : Value) (A : Option Addr) (n c : Nat) : Below w.heap.size w (wrWp w p A n c) ∧ (wrWp w p A n c).heap.size = w.heap.size + 1 + 1 + 1 ∧ (wrWp w p A n c).cell? ⟨w.heap.size, 0, none⟩ = some p ∧
  (wrWp w p A n c).cell? ⟨w.heap.size + 1, 0, none⟩ = some (.slice A n c) ∧ (wrWp w p A n c).heap[w.heap.size + 1 + 1]? = some (.cells #[.int .i64 0] 36 (0, 0)) := by
 obtain ⟨w1, hw1⟩ : ∃ w1, w.alloc (.cells #[p] 27) = w1 := ⟨_, rfl⟩
 obtain ⟨w2, hw2⟩ : ∃ w2, w1.alloc (.cells #[.slice A n c] 22) = w2 := ⟨_, rfl⟩
 have B1 : Below w.heap.size w w1 := by rw [← hw1]; exact (Below.refl _ _).alloc (Nat.le_refl _) _
 have B2 : Below w1.heap.size w1 w2 := by rw [← hw2]; exact (Below.refl _ _).alloc (Nat.le_refl _) _
 have e1 : w1.heap.size = w.heap.size + 1 := by rw [← hw1]; simp
 have e2 : w2.heap.size = w.heap.size + 1 + 1 := by rw [← hw2]; simp [e1]
 have D1 : w1.cell? ⟨w.heap.size, 0, none⟩ = some p := by rw [← hw1]; exact box_cell _ _ _
 have D2 : w2.cell? ⟨w1.heap.size, 0, none⟩ = some (.slice A n c) := by rw [← hw2]; exact box_cell _ _ _
 have hE : wrWp w p A n c = w2.alloc (.cells #[.int .i64 0] 36) := by rw [← hw2, ← hw1]
 have B3 : Below w2.heap.size w2 (wrWp w p A n c) := by rw [hE]; exact (Below.refl _ _).alloc (Nat.le_refl _) _
 refine ⟨(B1.trans (B2.mono B1.size)).trans (B3.mono (Nat.le_trans B1.size B2.size)), by rw [hE]; simp [e2], ?_, ?_, ?_⟩
 ·exact ((B2.trans (B3.mono B2.size)).cell (p := ⟨w.heap.size, 0, none⟩) (by show w.heap.size < w1.heap.size; omega)).trans D1
 ·have := (B3.cell (p := ⟨w1.heap.size, 0, none⟩) (by show w1.heap.size < w2.heap.size; omega)).trans D2
  rwa [e1] at this
 ·rw [hE, ← e2]
  exact World.alloc_heap_new w2 _
abbrev wrW (w : World) (d : Nat) (A : Option Addr) (n c : Nat) : World := wrWp w (.pointer (some ⟨d, 0, none⟩)) A n c
theorem wrW_is (w : World) (d : Nat) (A : Option Addr) (n c : Nat) : Below w.heap.size w (wrW w d A n c) ∧ (wrW w d A n c).heap.size = w.heap.size + 1 + 1 + 1 ∧ (wrW w d A n c).cell? ⟨w.heap.size, 0, none⟩ = some (.pointer (some ⟨d, 0, none⟩)) ∧
  (wrW w d A n c).cell? ⟨w.heap.size + 1, 0, none⟩ = some (.slice A n c) ∧ (wrW w d A n c).heap[w.heap.size + 1 + 1]? = some (.cells #[.int .i64 0] 36 (0, 0)) := wrWp_is w _ A n c
theorem slice_lS {P : Program} {T U : TypeId} (L : U8 P T U) (A : Option Addr) {n c l : Nat} (h2 : l ≤ n) (hc : n ≤ c) :
  ∃ A' c', (∀ (k : IntKind) (w : World), (Instr.slice T (.slice A n c) (some (.int k (l : Int))) none none).run P w = .ok (.slice A' (n - l) c') w) ∧
   (∀ (w : World) (B : Nat) (bs : List UInt8), Rd w B A n bs → Rd w B A' (n - l) (bs.drop l)) ∧ n - l ≤ c' ∧ c' ≤ c ∧ (∀ b o, A = some ⟨b, o, none⟩ → ∃ o', A' = some ⟨b, o', none⟩) := by
 refine ⟨if c = l then A else A.map (·.add l), c - l, fun k w => ?_, fun w B bs hr => ?_, by omega, by omega, fun b o e => ?_⟩
 ·rw [run_slice_l (ht := by rw [u8_elem L]; exact L.ul) (kl := k) (l := (l : Int)) (h0 := by omega) (h1 := by omega), u8_elem L, u8_size L]
  simp [Result.andThen, sliced]
 ·refine ⟨by simp [hr.1], fun h0 => ?_⟩
  obtain ⟨b, o, rfl, hb, _⟩ := hr.2 (by omega)
  have := hr.cut (l := l) (k := n) h2 (Nat.le_refl _)
  rw [List.take_of_length_le (by rw [hr.1]; exact Nat.le_refl _)] at this
  obtain ⟨b', o', e, hb', hc'⟩ := this.2 h0
  refine ⟨b', o', ?_, hb', hc'⟩
  rw [if_neg (by omega), ← e]
  simp [Addr.add]
 ·subst e
  split
  ·exact ⟨o, rfl⟩
  ·exact ⟨o + l, by simp [Addr.add]⟩
theorem off_part {A A' : Option Addr} {n m : Nat} {D : Nat → Prop} {W : World} {B : Nat} {b : List UInt8} (ho : Off A n D) (hr : Rd W B A n b) (hm : m ≤ n) (hA : ∀ b o, A = some ⟨b, o, none⟩ → ∃ o', A' = some ⟨b, o', none⟩) : Off A' m D := by
 intro h0 bb o e
 obtain ⟨b0, o0, e0, _⟩ := hr.2 (by omega)
 obtain ⟨o', e'⟩ := hA b0 o0 e0
 rw [e] at e'
 obtain rfl : bb = b0 := by injection e' with e'; injection e'
 exact ho (by omega) bb o0 e0
def WrAx (w W0 : World) (d : Nat) (A : Option Addr) (n c sl p : Nat) (fv : Value) (x : Pl p n) (a : Act) (W : World) : Prop :=
 ∃ g, W0.heap.size ≤ g ∧ PlAt W g sl p x.1 ∧ a = { tmps := #[.pointer (some ⟨d, 0, none⟩), .int .i64 (sl : Int), .int .i64 (p : Int), .slice A n c, .pointer (some ⟨w.heap.size, 0, none⟩), undef, undef, .pointer (some ⟨w.heap.size + 1, 0, none⟩), .pointer (some ⟨w.heap.size + 1 + 1, 0, none⟩), .int .i64 0, .pointer (some ⟨g, 0, none⟩), undef, .pointer (some ⟨d, 0, none⟩), .int .i64 (sl : Int), .int .i64 (p : Int), .slice A n c, .int .i64 (n : Int), .int .i64 0, .int .i64 0, .bool false, undef, .int .i64 (sl : Int), .int .i64 (p : Int), .slice A n c, .int .i64 (n : Int), fv, plV sl p x.1, undef, undef, undef, undef, undef, undef, undef, undef, undef, undef], defers := [] }
theorem wrAx_own {B' : Nat} {w W0 : World} {d : Nat} {A : Option Addr} {n c sl p : Nat} {fv : Value} (x : Pl p n) (a : Act) : OwnFrom B' (fun (_ : Unit) W => WrAx w W0 d A n c sl p fv x a W) := by
 rintro _ X Y row ⟨g, h1, h2, h3⟩ hg hrow
 exact ⟨g, h1, h2.grown hg (fun r e => (hrow r e).2), h3⟩
theorem slWriteIn
  (d : Nat) (D : Nat → Prop) (s : DS) (sl a : Int) (A : Option Addr) (n c : Nat) (b : List UInt8) (w : World) (h : DkAt w d D s) (hl : 0 < s.L.length) (ha : a ≤ 9223372036854775807) (hr : Rd w w.heap.size A n b) (ho : Off A n D) (hnc : n ≤ c) (hc : c ≤ 9223372036854775807) :
  CallsIn Fence.wide 3 Tryd.prog 8 #[.pointer (some ⟨d, 0, none⟩), .int .i64 sl, .int .i64 a, .slice A n c] w (DkSt w d D (writeS sl a b s)) := by
 have hfn : ∀ f, Fence.wide.fn f := fun _ => trivial
 have hro : Fence.wide.round = none := rfl
 have hC : ∀ (m : Nat) (f : FuncId) (args : Array Value) (w : World) (R : Ending → World → Prop), Calls Tryd.prog f args w R → CallsIn Fence.wide m Tryd.prog f args w R := fun _ _ _ _ _ h => callsIn_wide.2 h
 obtain ⟨hb0, hsz, k0, k1, k2⟩ := wrW_is w d A n c
 have HB := qH hb0
 have HSZ := qH hsz
 have C0 := qH k0
 have C1 := qH k1
 have BX : Hid (Boxed (wrW w d A n c) (w.heap.size + 1 + 1) 36 (.int .i64 0)) := k2
 have HLT := qH h.lt
 have H := qH (h.to HB.out)
 have R := qH (hr.to HB.out)
 have HN := qH hr.1
 have OF := qH ho
 have HNC := qH hnc
 have HREF := qH (slRefusal d D s sl a n _ H.out hl ha)
 have HC := qH hC
 have bc := BX.out.cell
 have bf := BX.out.frozen
 clear hb0 hsz k2 h hr ho hnc hC hl
 refine callsIn_of_wp_marks Tryd.func8 rfl (hfn _) ?_ hro
 simp only [Tryd.ntmps8, List.size_toArray, List.length_cons, List.length_nil, Nat.reduceAdd, Nat.reduceSub, Array.replicate_succ, Array.replicate_zero, List.push_toArray, List.append_toArray, List.nil_append, List.cons_append]
 have h33 := hfn 14
 have h34 := hfn 15
 have h59 := hfn 27
 have h35 := hfn 17
 by_cases hz : refP sl a (n : Int) s = 0
 ·obtain ⟨hr0, hup⟩ := refP_zero hz
  obtain ⟨g1, g2, -, g3, g4⟩ := refS_ok hr0
  obtain ⟨sl, rfl⟩ : ∃ k : Nat, sl = (k : Int) := ⟨sl.toNat, by omega⟩
  obtain ⟨p, rfl⟩ : ∃ k : Nat, a = (k : Int) := ⟨a.toNat, by omega⟩
  have HSL : Hid (sl ≤ 1) := by show _ ≤ _; omega
  have HPN : Hid (p + n ≤ 4096) := by show _ ≤ _; omega
  have HW : Hid (writeS (sl : Int) (p : Int) b s = goL sl p b (hits p n 64) s) := by
   show _ = _
   have := writeS_hits (b := b) (s := s) (sl := (sl : Int)) (at_ := (p : Int)) (by rw [HN.out]; exact hr0) hup
   rwa [Int.toNat_natCast, Int.toNat_natCast, HN.out] at this
  rw [hz] at HREF
  clear g1 g2 g3 g4 hr0 hup hz
  gi_wp2_with (first
   | (gi_at_call 14; refine (HC.out _ _ _ _ _ HREF.out).mono ?_; rintro e w' ⟨rfl, rfl⟩; generalize wrW w d A n c = w3 at *)
   | (gi_at_call 15; refine (placesIn Fence.wide _ h34 hro _ _ _ _).mono ?_; rintro e w' ⟨rfl, rfl⟩))
  have hbw : Below w3.heap.size w3 (placesW w3 sl p n) := (((Below.refl w3.heap.size w3).alloc (Nat.le_refl _) (.cells #[.int .i64 (sl : Int)] 3)).alloc (by simp) (.cells #[.int .i64 (p : Int)] 3)).alloc (by simp; omega) (.cells #[.int .i64 (n : Int)] 3)
  have hrun := placesW_run w3 sl p n
  have hbx : Boxed (placesW w3 sl p n) (w.heap.size + 1 + 1) 36 (.int .i64 0) := (hbw.block _ BX.out.lt).trans BX.out
  have hc0 : (placesW w3 sl p n).cell? ⟨w.heap.size, 0, none⟩ = some (.pointer (some ⟨d, 0, none⟩)) := (hbw.cell (World.block_lt_of_cell? w3 _ C0.out)).trans C0.out
  have hc1 : (placesW w3 sl p n).cell? ⟨w.heap.size + 1, 0, none⟩ = some (.slice A n c) := (hbw.cell (World.block_lt_of_cell? w3 _ C1.out)).trans C1.out
  have h0 := H.out.to hbw
  have r0 := R.out.to hbw
  have b0 : Below w.heap.size w (placesW w3 sl p n) := HB.out.trans (hbw.mono HB.out.size)
  have hg3 : w3.heap.size < (placesW w3 sl p n).heap.size := by simp [placesW]; omega
  generalize hW0 : placesW w3 sl p n = W0 at *
  have h3w : w.heap.size ≤ w3.heap.size := HB.out.size
  generalize w3.heap.size = g3 at *
  have HR0 := qH r0
  have HB0 := qH b0
  have H0 := qH h0
  have HBX := qH hbx
  have HC0 := qH hc0
  have HC1 := qH hc1
  have HDW : Hid (∀ k, D k → k < W0.heap.size) := fun k hk => Nat.lt_of_lt_of_le (HLT.out k hk) HB0.out.size
  have HDN : Hid (∀ k, w.heap.size ≤ k → ¬ D k) := fun k hk hd => absurd (HLT.out k hd) (Nat.not_lt.2 hk)
  have hst := placesStops Fence.wide (3 - 1) h59 hro (by omega) g3 (g3 + 1) (g3 + 1 + 1) sl p n HSL.out HPN.out D W0 hrun (HDN.out _ h3w) (HDN.out _ (by omega)) (HDN.out _ (by omega)) HDW.out
  have HI0 : Hid (WrI W0 d D sl p n b s [] W0) := ⟨s, rfl, h0, Keep.refl _ _⟩
  clear hbw hrun hbx hc0 hc1 h0 r0 b0 hg3 hW0 HREF C0 C1 BX H R HB k0 k1 bc bf
  refine wpIn_rangeFunc_ownH hro (by omega) (gf := 27) (lb := #[.pointer (some ⟨g3, 0, none⟩), .pointer (some ⟨g3 + 1 + 1, 0, none⟩), .pointer (some ⟨g3 + 1, 0, none⟩)]) rfl h59 (enters_of Tryd.func27 (by kernel_rfl) rfl)
   hst KpF.trans (fun W l' o o' _ h h1 _ => KpF.book W l' o o' h h1) (Below.refl _ _) (fun _ => rfl)
   (WrI W0 d D sl p n b s) (WrX W0 d D (w.heap.size + 1 + 1) sl p n b s) (wrI_own HDW.out) (wrX_own HDW.out) HI0.out
   (WrAx w W0 d A n c sl p (.func (.func 27) #[] #[.pointer (some ⟨g3, 0, none⟩), .pointer (some ⟨g3 + 1 + 1, 0, none⟩), .pointer (some ⟨g3 + 1, 0, none⟩)])) (fun x a' => wrAx_own x a') ?assign ?body ?done ?stop
  case assign =>
   rintro ly pre x W K hi hK
   have HK := qH hK
   have HI := qH hi
   have HLE : Hid (W0.heap.size ≤ W.heap.size) := by obtain ⟨s', _, _, h3⟩ := hi; exact h3.size
   clear hK hi
   gi_wp2
   refine HK.out _ _ ?_ ?_ ?_ ?_
   ·exact (KeepsOthers.alloc _ _).from _
   ·exact KpF.alloc _ _ _
   ·exact (wrI_own HDW.out).alloc _ HI.out
   ·exact ⟨W.heap.size, HLE.out, ⟨by simp, by simp, by simp⟩, rfl⟩
  case body =>
   rintro ly pre x a' W hl ⟨r, hr⟩ ⟨s', g1, g2, g4⟩ ⟨g, hg, hpl, rfl⟩ hlen
   have hc0 : W.cell? ⟨w.heap.size, 0, none⟩ = some (.pointer (some ⟨d, 0, none⟩)) := (g4.cell (World.block_lt_of_cell? W0 _ HC0.out) (HDN.out _ (Nat.le_refl _))).trans HC0.out
   have hc1 : W.cell? ⟨w.heap.size + 1, 0, none⟩ = some (.slice A n c) := (g4.cell (World.block_lt_of_cell? W0 _ HC1.out) (HDN.out _ (Nat.le_succ _))).trans HC1.out
   have HBW : Hid (Boxed W (w.heap.size + 1 + 1) 36 (.int .i64 0)) := (g4.block _ HBX.out.lt (HDN.out _ (Nat.le_trans (Nat.le_succ _) (Nat.le_succ _)))).trans HBX.out
   have HRW := qH (HR0.out.kept g4 OF.out)
   have HG1 := qH g1
   have HD2 := qH g2
   have HK4 := qH g4
   obtain ⟨d0, d1, d2⟩ := hpl
   obtain ⟨x, hx64, hxh⟩ := x
   have HXH := qH hxh
   have hin := hitS_iff.1 hxh
   have hstep := qH (replS_step (sl := sl) (b := b) g2.ok (by rw [HN.out]; exact hxh))
   have hin1 : 64 * x - p ≤ n := by omega
   have hf64 : p - 64 * x < 64 := by omega
   have HXM := qH (show (⟨x, hx64, hxh⟩ : Pl p n).1 = x from rfl)
   generalize hxx : (⟨x, hx64, hxh⟩ : Pl p n) = y at *
   dsimp only [plV] at *
   rw [HXM.out] at d0 d1 d2 ⊢
   generalize 3 + 64 * sl + x = ci at *
   generalize p - 64 * x = f at *
   generalize 64 * x - p = i at *
   obtain ⟨A', c', s32, hrd', hc', hc'', hA'⟩ := slice_lS isU8 A (l := i) hin1 HNC.out
   have HREP := qH (slReplace d D s' ci f i A' (n - i) c' (b.drop i) W.drew (g2.kept (R := fun _ => False) (Keep.refl _ _).drew (fun _ _ h => h)) hf64 (hrd' _ _ _ HRW.out).drew' (off_part OF.out HRW.out (Nat.sub_le _ _) hA'))
   clear g1 g2 g4 hin hin1 hf64 hrd' hc' hc'' hA' hxx hxh hx64
   have hmx : Tryd.prog.follows .mixedOrders = true := by kernel_rfl
   have h1n : 1 ≤ 3 - 1 - 1 := by decide
   gi_wp2
   rename_i K7 hK7
   have key : ∀ W3 : World, DkAt W3 d D (replS ci f (b.drop i) s').2 → Keep D W.drew W3 → K7 { tmps := #[.pointer (some ⟨d, 0, none⟩), .int .i64 (sl : Int), .int .i64 (p : Int), .slice A n c, .pointer (some ⟨w.heap.size, 0, none⟩), undef, undef, .pointer (some ⟨w.heap.size + 1, 0, none⟩), .pointer (some ⟨w.heap.size + 1 + 1, 0, none⟩), .int .i64 0, .pointer (some ⟨g, 0, none⟩), .int .i64 (replS ci f (b.drop i) s').1, .pointer (some ⟨d, 0, none⟩), .int .i64 (sl : Int), .int .i64 (p : Int), .slice A n c, .int .i64 (n : Int), .int .i64 0, .int .i64 0, .bool false, undef, .int .i64 (sl : Int), .int .i64 (p : Int), .slice A n c, .int .i64 (n : Int), .func (.func 27) #[] #[.pointer (some ⟨g3, 0, none⟩), .pointer (some ⟨g3 + 1 + 1, 0, none⟩), .pointer (some ⟨g3 + 1, 0, none⟩)], .agg #[.int .i64 (ci : Int), .int .i64 (f : Int), .int .i64 (i : Int)], .pointer (some ⟨d, 0, none⟩), .agg #[.int .i64 (ci : Int), .int .i64 (f : Int), .int .i64 (i : Int)], .slice A n c, .pointer (some ⟨g, 2, none⟩), .int .i64 (i : Int), .slice A' (n - i) c', .int .i64 (replS ci f (b.drop i) s').1, undef, undef, undef], defers := [] } W3 := by
    intro W3 hd3 hk3
    refine hK7 _ _ ?_
    have HB3 : Hid (Boxed W3 (w.heap.size + 1 + 1) 36 (.int .i64 0)) := (hk3.block _ HBW.out.lt (HDN.out _ (Nat.le_trans (Nat.le_succ _) (Nat.le_succ _)))).trans HBW.out
    have HKK : Hid (Keep D W W3) := ((Keep.refl D W).drew).trans hk3
    have HSN : Hid (goL sl p b (nums (pre ++ [y])) s = replS ci f (b.drop i) s') := by
     show _ = _
     rw [nums, List.map_append, List.map_cons, List.map_nil, goL_snoc, HXM.out, HG1.out, if_neg (by simp), hstep.out]
    have HD3 := qH hd3
    have bc := HB3.out.cell
    have bf := HB3.out.frozen
    clear hd3 hk3 hK7 s32 HREP d0 d1 d2 hc0 hc1 hst hr
    generalize replS ci f (b.drop i) s' = q at *
    obtain ⟨ev, s2⟩ := q
    dsimp only at *
    by_cases hz : ev = 0
    ·subst hz
     gi_wp2
     exact ⟨KeepsFrom.of_keep HKK.out HDW.out, KpF.of_keep HKK.out, s2, HSN.out, HD3.out, HK4.out.trans HKK.out⟩
    ·have HNZ : Hid (¬ ev = 0) := hz
     gi_wp2
     refine ⟨(KeepsFrom.of_keep HKK.out HDW.out).trans ((KeepsOthers.setCell _ _ _).from _), rfl, ev, s2, HSN.out, HNZ.out, HD3.out.set _ _ (HDN.out _ (Nat.le_trans (Nat.le_succ _) (Nat.le_succ _))), World.cell?_setCell_same' _ _ _ (by rw [bc]; rfl), ?_⟩
     exact ((HK4.out.trans HKK.out).more (fun k h => .inl h)).setCell _ _ (.inr rfl)
   have HGD : Hid (¬ D g) := HDN.out g (Nat.le_trans HB0.out.size hg)
   refine wpIn_round_held (S := (fun W' => W'.cell? ⟨w.heap.size, 0, none⟩ = some (.pointer (some ⟨d, 0, none⟩)) ∧ W'.cell? ⟨w.heap.size + 1, 0, none⟩ = some (.slice A n c) ∧ W'.cell? ⟨g, 0, none⟩ = some (.int .i64 (ci : Int)) ∧ W'.cell? ⟨g, 1, none⟩ = some (.int .i64 (f : Int)) ∧ W'.cell? ⟨g, 2, none⟩ = some (.int .i64 (i : Int)))) (by kernel_rfl) (by kernel_rfl) (fun h => by obtain ⟨_, _, h⟩ := h; exact h) ((⟨hc0, hc1, d0, d1, d2⟩)) (fun hHeld => ?_)
   refine tw 0 rfl (by intro w hSw; (try dsimp only at hSw); (have x := hSw.1); clear hSw; go_simp; (try with_reducible rfl)) ?_
   simp only [pR]
   refine tw 1 rfl (by intro w hSw; (try dsimp only at hSw); (obtain ⟨-, -, x0, x1, x2⟩ := hSw); go_simp; (try with_reducible rfl)) ?_
   simp only [pR]
   refine tw 2 rfl (by intro w hSw; (try dsimp only at hSw); (have x := hSw.2.1); clear hSw; go_simp; (try with_reducible rfl)) ?_
   simp only [pR]
   refine tk 3 ?_
   simp only [pR]
   refine tw 4 rfl (by intro w hSw; (try dsimp only at hSw); (have x := hSw.2.2.2.2); clear hSw; go_simp; (try with_reducible rfl)) ?_
   simp only [pR]
   refine tk 5 ?_
   simp only [pR]
   refine rd1 6 (fun K hK => ?_)
   go_simp
   refine (HREP.out).mono ?_
   rintro e W3 ⟨rfl, hd3, hk3⟩
   have HD3 := qH hd3
   have HK3 := qH hk3
   have KP := qH (KpF.of_keep hk3)
   clear hd3 hk3
   go_wp2_with fail
   refine hK.out _ _ (⟨KP.out.1 _ _ (HDN.out _ (Nat.le_refl _)) hc0, KP.out.1 _ _ (HDN.out _ (Nat.le_succ _)) hc1, KP.out.1 _ _ HGD.out d0, KP.out.1 _ _ HGD.out d1, KP.out.1 _ _ HGD.out d2⟩) (fun hHeld => ?_)
   clear hK K
   refine tk 7 ?_
   simp only [pR]
   refine wpAnyH_done (by kernel_rfl) ?_ _
   exact key _ HD3.out HK3.out
  case done =>
   rintro D' ys W hD' hys ⟨s', g1, g2, g4⟩ hK
   have HBW : Hid (Boxed W (w.heap.size + 1 + 1) 36 (.int .i64 0)) := (g4.block _ HBX.out.lt (HDN.out _ (Nat.le_trans (Nat.le_succ _) (Nat.le_succ _)))).trans HBX.out
   have bc := HBW.out.cell
   have bf := HBW.out.frozen
   have HD2 := qH g2
   have HK4 := qH g4
   have HD' : Hid (W0.heap.size ≤ D') := hD'
   have HFIN : Hid (writeS (sl : Int) (p : Int) b s = (0, s')) := HW.out.trans (by rw [← hys]; exact g1)
   clear g1 g2 g4 hD' hys hst
   gi_wp2
   have hK2 := (KeepsOthers.setCell W ⟨w.heap.size + 1 + 1, 0, none⟩ (.int .i64 0)).same D' _ hK rfl
   refine ⟨by simp, .inl ⟨_, _, rfl, run_takeDeferred hK2, ?_⟩⟩
   refine ⟨_, res_errnoS rfl _ _ (w.heap.size + 1 + 1) (.int .i64 0) rfl (cell_kept (World.cell?_setCell_same' _ _ _ (by rw [bc]; rfl)) (grownBy_putObj' _ D' (.deferred none)) (fun r e => by cases e; exact ⟨_, hK2, rfl⟩)), ?_⟩
   rw [HFIN.out]
   have hle : w.heap.size ≤ w.heap.size + 1 + 1 := Nat.le_trans (Nat.le_succ _) (Nat.le_succ _)
   have hle' : w.heap.size ≤ D' := Nat.le_trans HB0.out.size HD'.out
   exact ⟨rfl, (HD2.out.set _ _ (HDN.out _ hle)).put _ _ (HDN.out _ hle'), (Keep.of_below HB0.out).new (((HK4.out.more (fun k h => .inl h)).setCell _ _ (.inr hle)).trans ((keep_put _ _ _).more (fun k e => .inr (by rw [e]; exact hle'))))⟩
  case stop =>
   rintro D' cc pre W hD' ⟨k, hk64, hpre⟩ ⟨rfl, ev, s', g1, hne, g2, hcx, g4⟩ hK
   have HD2 := qH g2
   have HK4 := qH g4
   have HD' : Hid (W0.heap.size ≤ D') := hD'
   have HCX := qH hcx
   have HFIN : Hid (writeS (sl : Int) (p : Int) b s = (ev, s')) := by
    show _ = _
    obtain ⟨rest, hrest⟩ := hits_part p n k (64 - k)
    rw [show k + (64 - k) = 64 from by omega] at hrest
    rw [HW.out, hrest, goL_part _ _ _ _ _ _ (by rw [← hpre, g1]; exact hne), ← hpre, g1]
   clear g1 g2 g4 hD' hst hpre hk64 hne hcx
   gi_wp2
   refine ⟨by simp, .inl ⟨_, _, rfl, run_takeDeferred hK, ?_⟩⟩
   refine ⟨_, res_errnoS rfl _ _ (w.heap.size + 1 + 1) (.int .i64 ev) rfl (cell_kept HCX.out (grownBy_putObj' _ D' (.deferred none)) (fun r e => by cases e; exact ⟨_, hK, rfl⟩)), ?_⟩
   rw [HFIN.out]
   have hle : w.heap.size ≤ w.heap.size + 1 + 1 := Nat.le_trans (Nat.le_succ _) (Nat.le_succ _)
   have hle' : w.heap.size ≤ D' := Nat.le_trans HB0.out.size HD'.out
   exact ⟨rfl, HD2.out.put _ _ (HDN.out _ hle'), (Keep.of_below HB0.out).new ((HK4.out.more (fun k h => h.imp id (fun e => by rw [e]; exact hle))).trans ((keep_put _ _ _).more (fun k e => .inr (by rw [e]; exact hle'))))⟩
 ·have HW : Hid (writeS sl a b s = (refP sl a (n : Int) s, s)) := by
   show _ = _
   have := writeS_ref (sl := sl) (a := a) (b := b) (s := s) (by rw [HN.out]; exact hz)
   rwa [HN.out] at this
  generalize refP sl a (n : Int) s = ev at *
  gi_wp2_with (gi_at_call 14; refine (HC.out _ _ _ _ _ HREF.out).mono ?_; rintro e w' ⟨rfl, rfl⟩; generalize wrW w d A n c = w3 at *)
  refine ⟨_, res_errnoS rfl _ _ (w.heap.size + 1 + 1) (.int .i64 ev) rfl (World.cell?_setCell_same' _ _ _ (by rw [bc]; rfl)), ?_⟩
  rw [HW.out]
  exact ⟨rfl, H.out.set _ _ (fun hd => by have h1 : w.heap.size + 1 + 1 < w.heap.size := HLT.out _ hd; omega), (Keep.of_below (HB.out.setCell (p := ⟨w.heap.size + 1 + 1, 0, none⟩) (by show w.heap.size ≤ w.heap.size + 1 + 1; omega) _))⟩
theorem slWrite (d : Nat) (D : Nat → Prop) (s : DS) (sl a : Int) (A : Option Addr) (n c : Nat) (b : List UInt8) (w : World) (h : DkAt w d D s) (hl : 0 < s.L.length) (ha : a ≤ 9223372036854775807) (hr : Rd w w.heap.size A n b) (ho : Off A n D) (hnc : n ≤ c) (hc : c ≤ 9223372036854775807) :
  Calls Tryd.prog 8 #[.pointer (some ⟨d, 0, none⟩), .int .i64 sl, .int .i64 a, .slice A n c] w (DkSt w d D (writeS sl a b s)) :=
 (callsIn_wide (n := 3)).1 (slWriteIn d D s sl a A n c b w h hl ha hr ho hnc hc)
end
section
open Go.RowKit
def RetE (w : World) (x : List UInt8 × Int) (e : Ending) (w' : World) : Prop :=
 ∃ A m c, e = .returned (.tuple #[.slice A m c, .int .i64 x.2]) ∧ Rd w' w'.heap.size A m x.1 ∧ m ≤ c ∧ c ≤ 9223372036854775807 ∧ Below w.heap.size w w'
theorem res_twoS {fn : Func} {p q : Tmp} (h : fn.results = #[.tmp p, .tmp q]) (tmps : Array Value) (w : World) (u v : Value) (hp : tmps.getD p undef = u) (hq : tmps.getD q undef = v) : (results fn tmps).run Tryd.prog w = .ok (.tuple #[u, v]) w := by
 have hp' : tmps[p]?.getD undef = u := by simpa using hp
 have hq' : tmps[q]?.getD undef = v := by simpa using hq
 simp [results, h, hp', hq']
end
section
open Go.RowKit Go.Shelf
attribute [local go_sem] Oper.semAt_some
theorem wpListIn_makeS {F : Fence} {m : Nat} {P : Program} {T U : TypeId} (L : U8 P T U) {w : World} {ops : Array Oper} {rest : List Oper} {o : Oper} {a : Act} {Q : Exit → Act → World → Prop}
  (hg : o.guard = none) (l c : Operand) (hop : o.op = Op.makeSlice T l c) {kl kc : IntKind} {I C : Int} (n : Nat) (hl : a.eval l = .int kl I) (hc : a.eval c = .int kc C) (hI : I = (n : Int)) (hC : C = (n : Int)) (hn : n ≤ 281474976710656)
  (hK : ∀ w1, w1.heap[w.heap.size]? = some (.cells ((List.replicate n (0 : UInt8)).map bval).toArray U (0, 0)) → Below w.heap.size w w1 → wpListIn F m P ops Q rest (a.put o.dst (.slice (some ⟨w.heap.size, 0, none⟩) n n)) w1) :
  wpListIn F m P ops Q (o :: rest) a w := by
 refine wpListIn_plain hg fun K hK' => ?_
 obtain ⟨i0, hi, hz0, hz1, hz2⟩ := info_parts L.info
 obtain ⟨w1, hrun, hown, hgr⟩ := run_make_full (P := P) w w.heap.size T U i0 (.int .u8 0) 1 L.ul hi hz0 hz1 kl kc n (by rw [hz2]; omega) (by unfold maxLen; omega) (Nat.le_refl _)
 have e : (madeCells (Value.int .u8 0).cells (n * 1)).toList = (List.replicate n (0 : UInt8)).map bval := by
  rw [Nat.mul_one, List.map_replicate]
  exact toList_madeCells_one _ _
 rw [e] at hown
 obtain ⟨cur, -, hcur, hlen, htake, -⟩ := own_cur hown
 rw [List.take_of_length_le (by omega)] at htake
 subst hI
 subst hC
 unfold Oper.wpIn
 refine ⟨by simp [Oper.about, hop], ?_⟩
 rw [Oper.semAt_plain F _ _ (by rw [hop]; intro c hc'; cases hc')]
 simp [execOp, hop, hl, hc, hrun, Result.andThen]
 exact hK' _ _ (hK w1 (by rw [hcur, htake]) ((Below.refl _ _).grown hgr (Nat.le_refl _) (fun k hk => by cases hk)))
theorem step_copy_keep {P : Program} {ops : Array Oper} {o : Oper} {a : Act} {w : World} {K : Act → World → Prop} {Q : Exit → Act → World → Prop} {E : Prop} (hgd : o.guard = none) (d s : Operand) (dT sT : TypeId)
  (ho : o.op = .call { callee := .builtin .copy, args := #[d, s], argTypes := #[dT, sT] }) (elem : TypeId) (hu : P.underlying dT = some (.slice elem)) (hsz : (P.info? elem).map (·.size) = some 1)
  (g off dLen dCap : Nat) (ad : Addr) (sLen sCap : Nat) (hd : a.eval d = .slice (some ⟨g, off, none⟩) dLen dCap) (hs : a.eval s = .slice (some ad) sLen sCap)
  (cur : List Value) (t : TypeId) (hg : w.heap[g]? = some (.cells cur.toArray t (0, 0))) (cs : List Value) (hn : cs.length = Nat.min sLen dLen)
  (hsrc : ∀ j v, cs[j]? = some v → w.cell? (ad.add j) = some v) (hfit : off + cs.length ≤ cur.length) (h1 : ∀ v ∈ cs, v.oneCell' = true)
  (h : ∀ w', Hid (w'.heap[g]? = some (.cells (splice cur off cs).toArray t (0, 0))) → Keep (· = g) w w' → K (a.put o.dst (goInt cs.length)) w') :
  if Region.wanted o (yielded ops a.tmps) = true then Oper.wp P o a w K Q else E := by
 rw [if_pos (by simp [Region.wanted, hgd])]
 have hrun := run_copy_row (P := P) w dT sT o.type elem g off dLen dCap ad sLen sCap cur.toArray t cs hu hsz hg hn hsrc (by simpa using hfit) h1
 unfold Oper.wp
 simp [execOp, ho, resolve, invoke, builtin, hd, hs, hrun, Result.andThen]
 exact h _ (show _ = _ by simpa [splice] using setRow_heap w g _ _ t _ hg) ⟨rfl, rfl, rfl, by simp [World.setRow], fun k _ hk => setRow_other w g k _ hk⟩
theorem res_seS {fn : Func} {p q : Tmp} (h : fn.results = #[.cell p 22, .cell q 36]) (tmps : Array Value) (w : World) (g g' : Nat) (u v : Value) (hp : tmps.getD p undef = .pointer (some ⟨g, 0, none⟩)) (hq : tmps.getD q undef = .pointer (some ⟨g', 0, none⟩))
  (hc : w.cell? ⟨g, 0, none⟩ = some u) (hc' : w.cell? ⟨g', 0, none⟩ = some v) : (results fn tmps).run Tryd.prog w = .ok (.tuple #[u, v]) w := by
 have hp' : tmps[p]?.getD undef = .pointer (some ⟨g, 0, none⟩) := by simpa using hp
 have hq' : tmps[q]?.getD undef = .pointer (some ⟨g', 0, none⟩) := by simpa using hq
 simp [results, h, hp', hq', asAddr]
 go_simp
theorem putB_splice {bs c : List UInt8} {j n : Nat} (hb : bs.length = n) (hc : c.length = 64) : splice (bs.map bval) (64 * j) ((c.take (n - 64 * j)).map bval) = (putB bs j c).map bval := by
 have e : (c.take (n - 64 * j)).length = min 64 (n - 64 * j) := by rw [List.length_take, hc]; exact Nat.min_comm _ _
 unfold splice putB
 rw [List.length_map, e, hb]
 simp only [List.map_append, List.map_take, List.map_drop, List.append_assoc]
def RdI (W0 : World) (nb sl n : Nat) (s : DS) (pre : List (Pl 0 n)) (W : World) : Prop :=
 (∀ j ∈ nums pre, 3 + 64 * sl + j < s.L.length) ∧ W.heap[nb]? = some (.cells ((rdL sl s (nums pre) (List.replicate n 0)).map bval).toArray 5 (0, 0)) ∧ Keep (· = nb) W0 W
def RdX (W0 : World) (nb r1 r2 sl n : Nat) (s : DS) (c : Code) (pre : List (Pl 0 n)) (W : World) : Prop :=
 c = .ret ∧ (∃ j ∈ nums pre, s.L.length ≤ 3 + 64 * sl + j) ∧ W.cell? ⟨r1, 0, none⟩ = some (.slice none 0 0) ∧ W.cell? ⟨r2, 0, none⟩ = some (.int .i64 61) ∧ Keep (fun k => k = nb ∨ k = r1 ∨ k = r2) W0 W
theorem rdI_own {W0 : World} {nb sl n : Nat} {s : DS} (hB : nb < W0.heap.size) : OwnFrom W0.heap.size (RdI W0 nb sl n s) := by
 rintro pre X Y row ⟨h1, h2, h3⟩ hg hrow
 refine ⟨h1, (hg.block nb (heap_at_lt h2) (fun e => ?_)).trans h2, h3.new ((keep_gr hg).more (fun k e => .inr (hrow k e.symm).1))⟩
 have := (hrow nb e.symm).1; omega
theorem rdX_own {W0 : World} {nb r1 r2 sl n : Nat} {s : DS} (c : Code) : OwnFrom W0.heap.size (RdX W0 nb r1 r2 sl n s c) := by
 rintro pre X Y row ⟨h0, h1, h2, h3, h4⟩ hg hrow
 exact ⟨h0, h1, cell_kept h2 hg (fun r e => (hrow r e).2), cell_kept h3 hg (fun r e => (hrow r e).2), h4.new ((keep_gr hg).more (fun k e => .inr (hrow k e.symm).1))⟩
abbrev rdWp (w : World) (p : Value) : World := ((w.alloc (.cells #[p] 27)).alloc (.cells #[.slice none 0 0] 22)).alloc (.cells #[.int .i64 0] 36)
theorem rdWp_is (w : World) (p : Value) : Below w.heap.size w (rdWp w p) ∧ (rdWp w p).heap.size = w.heap.size + 1 + 1 + 1 ∧ (rdWp w p).cell? ⟨w.heap.size, 0, none⟩ = some p ∧
  (rdWp w p).heap[w.heap.size + 1]? = some (.cells #[.slice none 0 0] 22 (0, 0)) ∧ (rdWp w p).heap[w.heap.size + 1 + 1]? = some (.cells #[.int .i64 0] 36 (0, 0)) := by
 obtain ⟨w1, hw1⟩ : ∃ w1, w.alloc (.cells #[p] 27) = w1 := ⟨_, rfl⟩
 obtain ⟨w2, hw2⟩ : ∃ w2, w1.alloc (.cells #[.slice none 0 0] 22) = w2 := ⟨_, rfl⟩
 have B1 : Below w.heap.size w w1 := by rw [← hw1]; exact (Below.refl _ _).alloc (Nat.le_refl _) _
 have B2 : Below w1.heap.size w1 w2 := by rw [← hw2]; exact (Below.refl _ _).alloc (Nat.le_refl _) _
 have e1 : w1.heap.size = w.heap.size + 1 := by rw [← hw1]; simp
 have e2 : w2.heap.size = w.heap.size + 1 + 1 := by rw [← hw2]; simp [e1]
 have D1 : w1.cell? ⟨w.heap.size, 0, none⟩ = some p := by rw [← hw1]; exact box_cell _ _ _
 have D2 : w2.heap[w1.heap.size]? = some (.cells #[.slice none 0 0] 22 (0, 0)) := by rw [← hw2]; exact World.alloc_heap_new w1 _
 have hE : rdWp w p = w2.alloc (.cells #[.int .i64 0] 36) := by rw [← hw2, ← hw1]
 have B3 : Below w2.heap.size w2 (rdWp w p) := by rw [hE]; exact (Below.refl _ _).alloc (Nat.le_refl _) _
 refine ⟨(B1.trans (B2.mono B1.size)).trans (B3.mono (Nat.le_trans B1.size B2.size)), by rw [hE]; simp [e2], ?_, ?_, ?_⟩
 ·exact ((B2.trans (B3.mono B2.size)).cell (p := ⟨w.heap.size, 0, none⟩) (by show w.heap.size < w1.heap.size; omega)).trans D1
 ·rw [← e1]
  exact (B3.block _ (by omega)).trans D2
 ·rw [hE, ← e2]
  exact World.alloc_heap_new w2 _
abbrev rdW (w : World) (d : Nat) : World := rdWp w (.pointer (some ⟨d, 0, none⟩))
theorem rdW_is (w : World) (d : Nat) : Below w.heap.size w (rdW w d) ∧ (rdW w d).heap.size = w.heap.size + 1 + 1 + 1 ∧ (rdW w d).cell? ⟨w.heap.size, 0, none⟩ = some (.pointer (some ⟨d, 0, none⟩)) ∧
  (rdW w d).heap[w.heap.size + 1]? = some (.cells #[.slice none 0 0] 22 (0, 0)) ∧ (rdW w d).heap[w.heap.size + 1 + 1]? = some (.cells #[.int .i64 0] 36 (0, 0)) := rdWp_is w _
theorem two_cells {w : World} {a b : Nat} {u v x y : Value} (hab : a ≠ b) (ha : w.cell? ⟨a, 0, none⟩ = some x) (hb : w.cell? ⟨b, 0, none⟩ = some y) :
  ((w.setCell ⟨a, 0, none⟩ u).setCell ⟨b, 0, none⟩ v).cell? ⟨a, 0, none⟩ = some u ∧ ((w.setCell ⟨a, 0, none⟩ u).setCell ⟨b, 0, none⟩ v).cell? ⟨b, 0, none⟩ = some v := by
 have h1 : (⟨b, 0, none⟩ : Addr) ≠ ⟨a, 0, none⟩ := fun e => hab (by injection e with e1 _ _; exact e1.symm)
 have h2 : (⟨a, 0, none⟩ : Addr) ≠ ⟨b, 0, none⟩ := fun e => hab (by injection e)
 constructor
 ·rw [World.cell?_setCell_other _ _ _ _ h1]
  exact World.cell?_setCell_same' _ _ _ (by rw [ha]; rfl)
 ·refine World.cell?_setCell_same' _ _ _ ?_
  rw [World.cell?_setCell_other _ _ _ _ h2, hb]
  rfl
def RdAx (w W0 : World) (d nb g9 n sl : Nat) (fv : Value) (x : Pl 0 n) (a : Act) (W : World) : Prop :=
 ∃ g, W0.heap.size ≤ g ∧ PlAt W g sl 0 x.1 ∧ a = { tmps := #[.pointer (some ⟨d, 0, none⟩), .int .i64 (sl : Int), .int .i64 (n : Int), .pointer (some ⟨w.heap.size, 0, none⟩), undef, undef, .pointer (some ⟨w.heap.size + 1, 0, none⟩), .pointer (some ⟨w.heap.size + 1 + 1, 0, none⟩), .int .i64 0, .pointer (some ⟨g9, 0, none⟩), .pointer (some ⟨g, 0, none⟩), undef, undef, .pointer (some ⟨d, 0, none⟩), .int .i64 (sl : Int), .int .i64 (n : Int), .int .i64 0, .int .i64 0, .bool false, undef, .int .i64 (n : Int), .slice (some ⟨nb, 0, none⟩) n n, .int .i64 (sl : Int), .int .i64 (n : Int), fv, plV sl 0 x.1, undef, undef, undef, undef, undef, undef, undef, undef, undef, undef, undef, undef, undef, undef, undef, undef, undef, undef, undef, undef], defers := [] }
theorem rdAx_own {B' : Nat} {w W0 : World} {d nb g9 n sl : Nat} {fv : Value} (x : Pl 0 n) (a : Act) : OwnFrom B' (fun (_ : Unit) W => RdAx w W0 d nb g9 n sl fv x a W) := by
 rintro _ X Y row ⟨g, h1, h2, h3⟩ hg hrow
 exact ⟨g, h1, h2.grown hg (fun r e => (hrow r e).2), h3⟩
theorem slReadIn (d : Nat) (D : Nat → Prop) (s : DS) (sl n : Int) (w : World) (h : DkAt w d D s) (hl : 0 < s.L.length) :
  CallsIn Fence.wide 3 Tryd.prog 6 #[.pointer (some ⟨d, 0, none⟩), .int .i64 sl, .int .i64 n] w (RetE w (readS sl n s)) := by
 have hfn : ∀ f, Fence.wide.fn f := fun _ => trivial
 have hro : Fence.wide.round = none := rfl
 have hC : ∀ (m : Nat) (f : FuncId) (args : Array Value) (w : World) (R : Ending → World → Prop), Calls Tryd.prog f args w R → CallsIn Fence.wide m Tryd.prog f args w R := fun _ _ _ _ _ h => callsIn_wide.2 h
 obtain ⟨hb0, hsz, k0, k1, k2⟩ := rdW_is w d
 have HB := qH hb0
 have HSZ := qH hsz
 have C0 := qH k0
 have BS : Hid (Boxed (rdW w d) (w.heap.size + 1) 22 (.slice none 0 0)) := k1
 have BX : Hid (Boxed (rdW w d) (w.heap.size + 1 + 1) 36 (.int .i64 0)) := k2
 have HLT := qH h.lt
 have H := qH (h.to HB.out)
 have HREF := qH (slRefusal d D s sl 0 n _ H.out hl (by decide))
 have HC := qH hC
 have bc := BX.out.cell
 have bf := BX.out.frozen
 have sc := BS.out.cell
 have sf := BS.out.frozen
 clear hb0 hsz k1 k2 h hC hl
 refine callsIn_of_wp_marks Tryd.func6 rfl (hfn _) ?_ hro
 simp only [Tryd.ntmps6, List.size_toArray, List.length_cons, List.length_nil, Nat.reduceAdd, Nat.reduceSub, Array.replicate_succ, Array.replicate_zero, List.push_toArray, List.append_toArray, List.nil_append, List.cons_append]
 have h33 := hfn 14
 have h34 := hfn 15
 have h59 := hfn 27
 have h35 := hfn 16
 by_cases hz : refP sl 0 n s = 0
 ·obtain ⟨hr0, hup⟩ := refP_zero hz
  obtain ⟨g1, -, g2, g3, -⟩ := refS_ok hr0
  obtain ⟨sl, rfl⟩ : ∃ k : Nat, sl = (k : Int) := ⟨sl.toNat, by omega⟩
  obtain ⟨n, rfl⟩ : ∃ k : Nat, n = (k : Int) := ⟨n.toNat, by omega⟩
  have HSL : Hid (sl ≤ 1) := by show _ ≤ _; omega
  have HN : Hid (n ≤ 4096) := by show _ ≤ _; omega
  have HR0 := qH hr0
  have HUP := qH hup
  rw [hz] at HREF
  clear g1 g2 g3 hr0 hup hz
  gi_wp2_with (first
   | (gi_at_call 14; refine (HC.out _ _ _ _ _ HREF.out).mono ?_; rintro e w' ⟨rfl, rfl⟩; generalize rdW w d = w3 at *)
   | (gi_at_make; refine wpListIn_makeS isU8 rfl _ _ rfl n rfl rfl rfl rfl (by have := HN.out; omega) ?_; intro w4 hm4 hb4)
   | (gi_at_call 15; refine (placesIn Fence.wide _ h34 hro _ _ _ _).mono ?_; rintro e w' ⟨rfl, rfl⟩))
  have hb5 : Below w4.heap.size w4 (w4.alloc (.cells #[.slice (some ⟨w3.heap.size, 0, none⟩) n n] 22)) := (Below.refl _ _).alloc (Nat.le_refl _) _
  have e5 : w4.heap.size + 1 = (w4.alloc (.cells #[.slice (some ⟨w3.heap.size, 0, none⟩) n n] 22)).heap.size := by simp
  have c9 := box_cell w4 (.slice (some ⟨w3.heap.size, 0, none⟩) n n) 22
  rw [e5]
  generalize w4.alloc (.cells #[.slice (some ⟨w3.heap.size, 0, none⟩) n n] 22) = w5 at *
  have hbw : Below w5.heap.size w5 (placesW w5 sl 0 n) := (((Below.refl w5.heap.size w5).alloc (Nat.le_refl _) (.cells #[.int .i64 (sl : Int)] 3)).alloc (by simp) (.cells #[.int .i64 0] 3)).alloc (by simp; omega) (.cells #[.int .i64 (n : Int)] 3)
  have hrun : Run (placesW w5 sl 0 n) w5.heap.size (w5.heap.size + 1) (w5.heap.size + 1 + 1) sl 0 n := placesW_run w5 sl 0 n
  have hg3 : w5.heap.size < (placesW w5 sl 0 n).heap.size := by simp [placesW]; omega
  have bw5 : Below w3.heap.size w3 w5 := hb4.trans (hb5.mono hb4.size)
  have bw0 : Below w3.heap.size w3 (placesW w5 sl 0 n) := bw5.trans (hbw.mono bw5.size)
  have h3w : w.heap.size ≤ w3.heap.size := HB.out.size
  have hnb4 : w3.heap.size < w4.heap.size := heap_at_lt hm4
  have hbs : Boxed (placesW w5 sl 0 n) (w.heap.size + 1) 22 (.slice none 0 0) := (bw0.block _ BS.out.lt).trans BS.out
  have hbx : Boxed (placesW w5 sl 0 n) (w.heap.size + 1 + 1) 36 (.int .i64 0) := (bw0.block _ BX.out.lt).trans BX.out
  have hc0 : (placesW w5 sl 0 n).cell? ⟨w.heap.size, 0, none⟩ = some (.pointer (some ⟨d, 0, none⟩)) := (bw0.cell (World.block_lt_of_cell? w3 _ C0.out)).trans C0.out
  have hc9 : (placesW w5 sl 0 n).cell? ⟨w4.heap.size, 0, none⟩ = some (.slice (some ⟨w3.heap.size, 0, none⟩) n n) := (hbw.cell (by show w4.heap.size < w5.heap.size; omega)).trans c9
  have hcu : (placesW w5 sl 0 n).heap[w3.heap.size]? = some (.cells ((List.replicate n (0 : UInt8)).map bval).toArray 5 (0, 0)) := (hbw.block _ (by omega)).trans ((hb5.block _ hnb4).trans hm4)
  have h0 := H.out.to bw0
  have b0 : Below w.heap.size w (placesW w5 sl 0 n) := HB.out.trans (bw0.mono HB.out.size)
  have HSB := qH HSZ.out
  generalize hW0 : placesW w5 sl 0 n = W0 at *
  have hnbr : w.heap.size + 1 + 1 < w3.heap.size := by have := HSZ.out; omega
  clear hb5 hbw bw5 bw0 hW0 HREF C0 BS BX H HB k0 bc bf sc sf hm4 hb4 c9
  generalize w3.heap.size = nb at *
  generalize w4.heap.size = g9 at *
  generalize w5.heap.size = g3 at *
  have HB0 := qH b0
  have H0 := qH h0
  have HBS := qH hbs
  have HBX := qH hbx
  have HC0 := qH hc0
  have HC9 := qH hc9
  have HNB : Hid (w.heap.size + 1 + 1 < nb) := hnbr
  have HG9 : Hid (nb < g9) := hnb4
  have HNW : Hid (nb < W0.heap.size) := heap_at_lt hcu
  have HDN : Hid (∀ k, w.heap.size ≤ k → ¬ D k) := fun k hk hd => absurd (HLT.out k hd) (Nat.not_lt.2 hk)
  have hst := placesStops Fence.wide (3 - 1) h59 hro (by omega) g3 (g3 + 1) (g3 + 1 + 1) sl 0 n HSL.out (by have := HN.out; omega) (· = nb) W0 hrun (by show ¬ g3 = nb; omega) (by show ¬ g3 + 1 = nb; omega) (by show ¬ g3 + 1 + 1 = nb; omega) (fun k e => by rw [e]; exact HNW.out)
  have HI0 : Hid (RdI W0 nb sl n s [] W0) := ⟨fun j hj => (by cases hj), hcu, Keep.refl _ _⟩
  clear hrun hbs hbx hc0 hc9 hcu h0 b0 hnbr hnb4 hg3 e5 h3w
  refine wpIn_rangeFunc_ownH hro (by omega) (gf := 27) (lb := #[.pointer (some ⟨g3, 0, none⟩), .pointer (some ⟨g3 + 1 + 1, 0, none⟩), .pointer (some ⟨g3 + 1, 0, none⟩)]) rfl h59 (enters_of Tryd.func27 (by kernel_rfl) rfl)
   hst KpF.trans (fun W l' o o' _ h h1 _ => KpF.book W l' o o' h h1) (Below.refl _ _) (fun _ => rfl)
   (RdI W0 nb sl n s) (RdX W0 nb (w.heap.size + 1) (w.heap.size + 1 + 1) sl n s) (rdI_own HNW.out) (fun c => rdX_own c) HI0.out
   (RdAx w W0 d nb g9 n sl (.func (.func 27) #[] #[.pointer (some ⟨g3, 0, none⟩), .pointer (some ⟨g3 + 1 + 1, 0, none⟩), .pointer (some ⟨g3 + 1, 0, none⟩)])) (fun x a' => rdAx_own x a') ?assign ?body ?done ?stop
  case assign =>
   rintro ly pre x W K hi hK
   have HK := qH hK
   have HI := qH hi
   have HLE : Hid (W0.heap.size ≤ W.heap.size) := hi.2.2.size
   clear hK hi hst
   gi_wp2
   refine HK.out _ _ ?_ ?_ ?_ ?_
   ·exact (KeepsOthers.alloc _ _).from _
   ·exact KpF.alloc _ _ _
   ·exact (rdI_own HNW.out).alloc _ HI.out
   ·exact ⟨W.heap.size, HLE.out, ⟨by simp, by simp, by simp⟩, rfl⟩
  case body =>
   rintro ly pre x a' W hl ⟨r, hr⟩ ⟨g1, g2, g4⟩ ⟨g, hg, hpl, rfl⟩ hlen
   have hne : ∀ k, k ≤ w.heap.size + 1 + 1 → ¬ k = nb := fun k hk e => by have := HNB.out; omega
   have hc0 : W.cell? ⟨w.heap.size, 0, none⟩ = some (.pointer (some ⟨d, 0, none⟩)) := (g4.cell (World.block_lt_of_cell? W0 _ HC0.out) (hne w.heap.size (by omega))).trans HC0.out
   have HBSW : Hid (Boxed W (w.heap.size + 1) 22 (.slice none 0 0)) := (g4.block _ HBS.out.lt (hne (w.heap.size + 1) (by omega))).trans HBS.out
   have HBXW : Hid (Boxed W (w.heap.size + 1 + 1) 36 (.int .i64 0)) := (g4.block _ HBX.out.lt (hne (w.heap.size + 1 + 1) (by omega))).trans HBX.out
   have HC9W : Hid (W.cell? ⟨g9, 0, none⟩ = some (.slice (some ⟨nb, 0, none⟩) n n)) := (g4.cell (World.block_lt_of_cell? W0 _ HC9.out) (by have := HG9.out; show ¬ g9 = nb; omega)).trans HC9.out
   have HDW : Hid (DkAt W d D s) := H0.out.kept g4 (fun k hk e => HDN.out nb (by have := HNB.out; omega) (by rw [← e]; exact hk))
   have HG1 := qH g1
   have HCUR := qH g2
   have HK4 := qH g4
   obtain ⟨d0, d1, d2⟩ := hpl
   obtain ⟨x, hx64, hxh⟩ := x
   have hin := hitS_iff.1 hxh
   have hin1 : 64 * x - 0 < n := by omega
   have HXM := qH (show (⟨x, hx64, hxh⟩ : Pl 0 n).1 = x from rfl)
   have HLN : Hid ((rdL sl s (nums pre) (List.replicate n 0)).length = n) := by
    show _ = _
    refine rdL_len HDW.out.ok sl n _ _ (by simp) fun j hj => ⟨?_, g1 j hj⟩
    obtain ⟨z, _, rfl⟩ := List.mem_map.1 hj
    have := hitS_iff.1 z.2.2
    omega
   generalize hxx : (⟨x, hx64, hxh⟩ : Pl 0 n) = y at *
   dsimp only [plV] at *
   rw [HXM.out] at d0 d1 d2 ⊢
   generalize hci : 3 + 64 * sl + x = ci at *
   generalize hf : 0 - 64 * x = f at *
   generalize hi : 64 * x - 0 = i at *
   have HF0 : Hid (f = 0) := by show _ = _; omega
   have HI64 : Hid (i = 64 * x) := by show _ = _; omega
   have HCI := qH hci
   have HIN : Hid (i < n) := hin1
   have HRD := qH (dRead d D s (ci : Int) W HDW.out)
   have HNG : Hid (g < W.heap.size ∧ ¬ g = nb) := ⟨World.block_lt_of_cell? W _ d0, by have := HNW.out; omega⟩
   have HD1 := qH d1
   have HD2 := qH d2
   clear hf hi hci hin hin1 hxx hxh hx64 g1 g2 g4 hst hr d1 d2
   by_cases hx : ci < s.L.length
   ·have hra := read_at HUP.out ci
    rw [if_pos hx] at hra
    rw [hra] at HRD
    have HX : Hid (3 + 64 * sl + x < s.L.length) := by show _ < _; rw [HCI.out]; exact hx
    have HNL : Hid ((Sec.now (secAt s.L ci)).length = 64) := now_len HDW.out.ok hx
    have hcie : Sec.now (secAt s.L (3 + 64 * sl + x)) = Sec.now (secAt s.L ci) := by rw [HCI.out]
    have HCE := qH hcie
    clear hra hx hcie
    generalize Sec.now (secAt s.L ci) = held at *
    gi_wp2_with (gi_at_call 16; refine (CallsIn.inRound ly (HC.out _ _ _ _ _ HRD.out)).mono ?_; rintro e W3 ⟨A3, n3, c3, rfl, hown, hb⟩; have hb3 := hb; have hw3 := hown)
    have R3 := qH (Rd.of_own hw3)
    obtain rfl : n3 = 64 := by have := R3.out.1; have := HNL.out; omega
    obtain ⟨gh, rfl, -⟩ := own_head hw3 (by omega)
    obtain ⟨hc31, hc32⟩ := own_cap hw3
    have s39 := fun (k : IntKind) (W : World) => slice_blk isU8 nb (n := n) (c := n) (l := i) (Nat.le_of_lt HIN.out) (.inl HIN.out) (Nat.le_refl _) k W
    have s43 := fun (k : IntKind) (W : World) => slice_blk isU8 gh (n := 64) (c := c3) (l := f) (by rw [HF0.out]; decide) (.inl (by rw [HF0.out]; decide)) hc31 k W
    have k9 : W3.cell? ⟨g9, 0, none⟩ = some (.slice (some ⟨nb, 0, none⟩) n n) := (hb3.cell (World.block_lt_of_cell? W _ HC9W.out)).trans HC9W.out
    have k2 : W3.cell? ⟨g, 2, none⟩ = some (.int .i64 (i : Int)) := (hb3.cell HNG.out.1).trans HD2.out
    have k1 : W3.cell? ⟨g, 1, none⟩ = some (.int .i64 (f : Int)) := (hb3.cell HNG.out.1).trans HD1.out
    have K9 := qH k9
    have K2 := qH k2
    have K1 := qH k1
    have HCUR6 : Hid (W3.drew.heap[nb]? = some (.cells ((rdL sl s (nums pre) (List.replicate n 0)).map bval).toArray 5 (0, 0))) := (hb3.block _ (heap_at_lt HCUR.out)).trans HCUR.out
    have HCS : Hid (((held.take (n - i)).map bval).length = Nat.min (64 - f) (n - i)) := by show _ = _; rw [List.length_map, List.length_take, HNL.out, HF0.out]; exact Nat.min_comm _ _
    have HP : Hid (0 < ((held.take (n - i)).map bval).length) := by show _ < _; rw [List.length_map, List.length_take, HNL.out]; have := HIN.out; omega
    have HSRC : Hid (∀ j v, ((held.take (n - i)).map bval)[j]? = some v → W3.drew.cell? ((⟨gh, f, none⟩ : Addr).add j) = some v) := by
     obtain ⟨ad, e, hs⟩ := rd_take R3.out HP.out
     rw [HF0.out]
     cases e
     exact hs
    have HFIT : Hid (i + ((held.take (n - i)).map bval).length ≤ ((rdL sl s (nums pre) (List.replicate n 0)).map bval).length) := by
     show _ ≤ _
     rw [List.length_map, List.length_map, HLN.out, List.length_take]
     have := HIN.out
     omega
    have HB3 := qH hb3
    have hmx : Tryd.prog.follows .mixedOrders = true := by kernel_rfl
    clear hown hb hw3 hb3 hc31 hc32 d0
    refine wpIn_round_held (S := (fun W' => W'.cell? ⟨g9, 0, none⟩ = some (.slice (some ⟨nb, 0, none⟩) n n) ∧ W'.cell? ⟨g, 2, none⟩ = some (.int .i64 (i : Int)) ∧ W'.cell? ⟨g, 1, none⟩ = some (.int .i64 (f : Int)))) (by kernel_rfl) (by kernel_rfl) (fun h => by obtain ⟨_, _, h⟩ := h; exact h) ((⟨k9, k2, k1⟩)) (fun hHeld => ?_)
    refine tw 0 rfl (by intro w hSw; (try dsimp only at hSw); (have x := hSw.1); clear hSw; go_simp; (try with_reducible rfl)) ?_
    simp only [pR]
    refine tk 1 ?_
    simp only [pR]
    refine tw 2 rfl (by intro w hSw; (try dsimp only at hSw); (have x := hSw.2.1); clear hSw; go_simp; (try with_reducible rfl)) ?_
    simp only [pR]
    refine tk 3 ?_
    simp only [pR]
    refine tk 4 ?_
    simp only [pR]
    refine tk 5 ?_
    simp only [pR]
    refine tw 6 rfl (by intro w hSw; (try dsimp only at hSw); (have x := hSw.2.2); clear hSw; go_simp; (try with_reducible rfl)) ?_
    simp only [pR]
    refine tk 7 ?_
    simp only [pR]
    refine rd1 8 (fun K hK => ?_)
    refine step_copy_keep rfl (.tmp 39) (.tmp 43) 22 22 rfl 5 Tryd.underlying22 (by kernel_rfl) nb i (n - i) (n - i) ⟨gh, f, none⟩ (64 - f) (c3 - f) rfl rfl ((rdL sl s (nums pre) (List.replicate n 0)).map bval) 5 HCUR6.out ((held.take (n - i)).map bval) HCS.out HSRC.out HFIT.out (bvals_one _) ?_
    intro w6 hg6 hk6
    have HK6 := qH hk6
    have KP := qH (KpF.of_keep hk6)
    refine hK.out _ _ (⟨KP.out.1 _ _ (by have := HG9.out; show ¬ g9 = nb; omega) K9.out, KP.out.1 _ _ HNG.out.2 K2.out, KP.out.1 _ _ HNG.out.2 K1.out⟩) (fun hHeld => ?_)
    clear hK K
    simp only [pR]
    refine wpAnyH_done (by kernel_rfl) ?_ _
    have hkk : Keep (· = nb) W w6 := ((Keep.of_below HB3.out).drew).trans HK6.out
    refine ⟨KeepsFrom.of_keep hkk (fun k e => by rw [e]; exact HNW.out), KpF.of_keep hkk, fun j hj => ?_, ?_, HK4.out.trans hkk⟩
    ·rw [nums, List.map_append, List.map_cons, List.map_nil, List.mem_append] at hj
     rcases hj with hj | hj
     ·exact HG1.out j hj
     ·obtain rfl : j = x := by rw [HXM.out] at hj; simpa using hj
      exact HX.out
    ·rw [nums, List.map_append, List.map_cons, List.map_nil, rdL_snoc, HXM.out, HCE.out, ← putB_splice HLN.out HNL.out, ← HI64.out]
     exact hg6.out
   ·have hra := read_at HUP.out ci
    rw [if_neg hx] at hra
    rw [hra] at HRD
    have HX : Hid (s.L.length ≤ 3 + 64 * sl + x) := by show _ ≤ _; rw [HCI.out]; omega
    clear hra hx
    gi_wp2_with (gi_at_call 16; refine (CallsIn.inRound ly (HC.out _ _ _ _ _ HRD.out)).mono ?_; rintro e W3 ⟨A3, n3, c3, rfl, hown, hb⟩; have hb3 := hb; have hs3 : Boxed W3 (w.heap.size + 1) 22 (.slice none 0 0) := (hb3.block _ HBSW.out.lt).trans HBSW.out; have hx3 : Boxed W3 (w.heap.size + 1 + 1) 36 (.int .i64 0) := (hb3.block _ HBXW.out.lt).trans HBXW.out; have sc3 := hs3.cell; have sf3 := hs3.frozen; have xc3 := hx3.cell; have xf3 := hx3.frozen)
    obtain ⟨q1, q2⟩ := two_cells (u := .slice none 0 0) (v := .int .i64 61) (by omega) sc3 xc3
    exact ⟨(KeepsFrom.of_belowS hb3).trans (((KeepsOthers.setCell _ _ _).trans (KeepsOthers.setCell _ _ _)).from _), rfl, ⟨x, List.mem_map.2 ⟨y, by simp, HXM.out⟩, HX.out⟩, q1, q2,
     (((HK4.out.more (fun k h => .inl h)).trans (Keep.of_below hb3)).setCell _ _ (.inr (.inl rfl))).setCell _ _ (.inr (.inr rfl))⟩
  case done =>
   rintro D' ys W hD' hys ⟨g1, g2, g4⟩ hK
   have hne : ∀ k, k ≤ w.heap.size + 1 + 1 → ¬ k = nb := fun k hk e => by have := HNB.out; omega
   have HBSW : Hid (Boxed W (w.heap.size + 1) 22 (.slice none 0 0)) := (g4.block _ HBS.out.lt (hne (w.heap.size + 1) (by omega))).trans HBS.out
   have HBXW : Hid (Boxed W (w.heap.size + 1 + 1) 36 (.int .i64 0)) := (g4.block _ HBX.out.lt (hne (w.heap.size + 1 + 1) (by omega))).trans HBX.out
   have c9 : W.cell? ⟨g9, 0, none⟩ = some (.slice (some ⟨nb, 0, none⟩) n n) := (g4.cell (World.block_lt_of_cell? W0 _ HC9.out) (by have := HG9.out; show ¬ g9 = nb; omega)).trans HC9.out
   have HCUR := qH g2
   have HK4 := qH g4
   have HD' : Hid (W0.heap.size ≤ D') := hD'
   have HOK := qH H0.out.ok
   have HRES : Hid (readS (sl : Int) (n : Int) s = (rdL sl s (nums ys) (List.replicate n 0), 0)) := by
    show _ = _
    have := readS_hits (sl := (sl : Int)) (n := (n : Int)) HOK.out HR0.out HUP.out (by rw [Int.toNat_natCast, Int.toNat_natCast, ← hys]; exact g1)
    rwa [Int.toNat_natCast, Int.toNat_natCast, ← hys] at this
   have HLN : Hid ((rdL sl s (nums ys) (List.replicate n 0)).length = n) := by
    show _ = _
    refine rdL_len HOK.out sl n _ _ (by simp) fun j hj => ⟨?_, g1 j hj⟩
    obtain ⟨z, _, rfl⟩ := List.mem_map.1 hj
    have := hitS_iff.1 z.2.2
    omega
   have sc := HBSW.out.cell
   have sf := HBSW.out.frozen
   have xc := HBXW.out.cell
   have xf := HBXW.out.frozen
   clear g1 g2 g4 hD' hys hst
   gi_wp2
   have hK2 := ((KeepsOthers.setCell W ⟨w.heap.size + 1, 0, none⟩ (.slice (some ⟨nb, 0, none⟩) n n)).trans (KeepsOthers.setCell _ ⟨w.heap.size + 1 + 1, 0, none⟩ (.int .i64 0))).same D' _ hK rfl
   obtain ⟨q1, q2⟩ := two_cells (u := .slice (some ⟨nb, 0, none⟩) n n) (v := .int .i64 0) (by omega) sc xc
   refine ⟨by simp, .inl ⟨_, _, rfl, run_takeDeferred hK2, ?_⟩⟩
   refine ⟨_, res_seS rfl _ _ (w.heap.size + 1) (w.heap.size + 1 + 1) (.slice (some ⟨nb, 0, none⟩) n n) (.int .i64 0) rfl rfl (cell_kept q1 (grownBy_putObj' _ D' (.deferred none)) (fun r e => by cases e; exact ⟨_, hK2, rfl⟩)) (cell_kept q2 (grownBy_putObj' _ D' (.deferred none)) (fun r e => by cases e; exact ⟨_, hK2, rfl⟩)), ?_⟩
   rw [HRES.out]
   have kf := ((((Keep.refl (fun k => k = w.heap.size + 1 ∨ k = w.heap.size + 1 + 1 ∨ k = D') W).setCell ⟨w.heap.size + 1, 0, none⟩ (.slice (some ⟨nb, 0, none⟩) n n) (.inl rfl)).setCell ⟨w.heap.size + 1 + 1, 0, none⟩ (.int .i64 0) (.inr (.inl rfl))).trans ((keep_put _ D' (.deferred none)).more (fun k e => .inr (.inr e))))
   have hnb := HNB.out
   have hnw := HNW.out
   have hd' := HD'.out
   have hbz := HB0.out.size
   refine ⟨some ⟨nb, 0, none⟩, n, n, rfl, rd_cur ((kf.block nb (heap_at_lt HCUR.out) (by omega)).trans HCUR.out) (List.take_of_length_le (by rw [List.length_map, HLN.out]; exact Nat.le_refl _)) HLN.out, Nat.le_refl _, by have := HN.out; omega, ?_⟩
   exact Keep.below (Keep.below HB0.out HK4.out hbz (fun k e => by rw [e]; omega)) kf (Nat.le_trans hbz HK4.out.size) (fun k e => by omega)
  case stop =>
   rintro D' cc pre W hD' ⟨k, hk64, hpre⟩ ⟨rfl, ⟨j, hj, hjl⟩, q1, q2, g4⟩ hK
   have HK4 := qH g4
   have HD' : Hid (W0.heap.size ≤ D') := hD'
   have Q1 := qH q1
   have Q2 := qH q2
   have HRES : Hid (readS (sl : Int) (n : Int) s = ([], 61)) := by
    show _ = _
    rw [hpre] at hj
    obtain ⟨rest, hrest⟩ := hits_part 0 n k (64 - k)
    rw [show k + (64 - k) = 64 from by omega] at hrest
    exact readS_short (sl := (sl : Int)) (n := (n : Int)) HR0.out HUP.out (j := j) (by rw [Int.toNat_natCast, hrest]; exact List.mem_append_left _ hj) (by rw [Int.toNat_natCast]; exact hjl)
   clear g4 hD' hst hpre hk64 hj hjl q1 q2
   gi_wp2
   refine ⟨by simp, .inl ⟨_, _, rfl, run_takeDeferred hK, ?_⟩⟩
   refine ⟨_, res_seS rfl _ _ (w.heap.size + 1) (w.heap.size + 1 + 1) (.slice none 0 0) (.int .i64 61) rfl rfl (cell_kept Q1.out (grownBy_putObj' _ D' (.deferred none)) (fun r e => by cases e; exact ⟨_, hK, rfl⟩)) (cell_kept Q2.out (grownBy_putObj' _ D' (.deferred none)) (fun r e => by cases e; exact ⟨_, hK, rfl⟩)), ?_⟩
   rw [HRES.out]
   have hnb := HNB.out
   have hd' := HD'.out
   have hbz := HB0.out.size
   refine ⟨none, 0, 0, rfl, Rd.nil _ _ _, Nat.le_refl _, by decide, ?_⟩
   exact Keep.below (Keep.below HB0.out HK4.out hbz (fun k e => by omega)) (keep_put W D' (.deferred none)) (Nat.le_trans hbz HK4.out.size) (fun k e => by rw [e]; omega)
 ·have HW : Hid (readS sl n s = ([], refP sl 0 n s)) := readS_ref hz
  generalize refP sl 0 n s = ev at *
  gi_wp2_with (gi_at_call 14; refine (HC.out _ _ _ _ _ HREF.out).mono ?_; rintro e w' ⟨rfl, rfl⟩; generalize rdW w d = w3 at *)
  obtain ⟨hc1, hc2⟩ := two_cells (u := .slice none 0 0) (v := .int .i64 ev) (by omega) sc bc
  refine ⟨_, res_seS rfl _ _ (w.heap.size + 1) (w.heap.size + 1 + 1) (.slice none 0 0) (.int .i64 ev) rfl rfl hc1 hc2, ?_⟩
  rw [HW.out]
  exact ⟨none, 0, 0, rfl, Rd.nil _ _ _, Nat.le_refl _, by decide, (HB.out.setCell (p := ⟨w.heap.size + 1, 0, none⟩) (by show w.heap.size ≤ w.heap.size + 1; omega) _).setCell (p := ⟨w.heap.size + 1 + 1, 0, none⟩) (by show w.heap.size ≤ w.heap.size + 1 + 1; omega) _⟩
theorem slRead (d : Nat) (D : Nat → Prop) (s : DS) (sl n : Int) (w : World) (h : DkAt w d D s) (hl : 0 < s.L.length) :
  Calls Tryd.prog 6 #[.pointer (some ⟨d, 0, none⟩), .int .i64 sl, .int .i64 n] w (RetE w (readS sl n s)) :=
 (callsIn_wide (n := 3)).1 (slReadIn d D s sl n w h hl)
end
end Go.Proofs.YtopilgedcnbdaaaDoor