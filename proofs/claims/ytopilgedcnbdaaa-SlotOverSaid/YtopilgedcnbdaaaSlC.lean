/- The program's slots: Write. -/
import Derived.Test.YtopilgedcnbdaaaTz
import Derived.Test.YtopilgedcnbdaaaSlA
import Derived.Test.YtopilgedcnbdaaaSlB
import Derived.Test.YtopilgedcnbdaaaRgI
namespace Go.Proofs.Ytopilgedcnbdaaa
set_option maxRecDepth 1000000
set_option maxHeartbeats 8000000
open Go.RowKit Go.Shelf
set_option linter.unusedVariables false
set_option linter.unusedSimpArgs false
attribute [local go_sem] Oper.semAt_some
theorem keep_gr {w w' : World} {row : Option Nat} (h : w.grownBy w' row) : Keep (fun k => some k = row) w w' := ⟨h.os, h.tape, h.output, h.size, fun k hk hn => h.block k hk hn⟩
theorem KeepsFrom.of_belowS {B : Nat} {W W' : World} (h : Below W.heap.size W W') : KeepsFrom B W W' := ⟨h.size, fun k o _ hk _ => (h.block k (Array.getElem?_eq_some_iff.1 hk).1).trans hk⟩
theorem KeepsFrom.of_keep {B : Nat} {R : Nat → Prop} {W W' : World} (h : Keep R W W') (hR : ∀ k, R k → k < B) : KeepsFrom B W W' :=
 ⟨h.size, fun k o hB hk _ => (h.block k (Array.getElem?_eq_some_iff.1 hk).1 (fun hr => by have := hR k hr; omega)).trans hk⟩
theorem DkAt.set {w : World} {d : Nat} {D : Nat → Prop} {s : DS} (h : DkAt w d D s) (p : Addr) (v : Value) (hn : ¬ D p.block) : DkAt (w.setCell p v) d D s :=
 h.kept (R := (· = p.block)) ((Keep.refl _ _).setCell p v rfl) (fun k hk e => hn (by rw [← e]; exact hk))
theorem keep_put (W : World) (l : Nat) (o : Obj) : Keep (· = l) W (W.putObj l o) := by
 have hg := grownBy_putObj' W l o
 exact (keep_gr hg).more (fun k e => by injection e)
theorem DkAt.put {w : World} {d : Nat} {D : Nat → Prop} {s : DS} (h : DkAt w d D s) (l : Nat) (o : Obj) (hn : ¬ D l) : DkAt (w.putObj l o) d D s :=
 h.kept (R := (· = l)) (keep_put w l o) (fun k hk e => hn (by rw [← e]; exact hk))
theorem res_errnoS {fn : Func} {p : Tmp} (h : fn.results = #[.cell p 27]) (tmps : Array Value) (w : World) (g : Nat) (v : Value) (hp : tmps.getD p undef = .pointer (some ⟨g, 0, none⟩)) (hc : w.cell? ⟨g, 0, none⟩ = some v) :
  (results fn tmps).run Try.prog w = .ok v w := by
 have hp' : tmps[p]?.getD undef = .pointer (some ⟨g, 0, none⟩) := by simpa using hp
 simp [results, h, hp', asAddr]
 go_simp
def WrI (W0 : World) (d : Nat) (D : Nat → Prop) (sl p m : Nat) (b : List UInt8) (s : DS) (pre : List (Pl p m)) (W : World) : Prop :=
 ∃ s', goL sl p b (nums pre) s = (0, s') ∧ DkAt W d D s' ∧ Keep D W0 W
def WrX (W0 : World) (d : Nat) (D : Nat → Prop) (r sl p m : Nat) (b : List UInt8) (s : DS) (c : Code) (pre : List (Pl p m)) (W : World) : Prop :=
 c = .ret ∧ ∃ e s', goL sl p b (nums pre) s = (e, s') ∧ e ≠ 0 ∧ DkAt W d D s' ∧ W.cell? ⟨r, 0, none⟩ = some (.int .i64 e) ∧ Keep (fun k => D k ∨ k = r) W0 W
theorem wrI_own {W0 : World} {d : Nat} {D : Nat → Prop} {sl p m : Nat} {b : List UInt8} {s : DS} (hD : ∀ k, D k → k < W0.heap.size) : OwnFrom W0.heap.size (WrI W0 d D sl p m b s) := by
 rintro pre X Y row ⟨s', h1, h2, h3⟩ hg hrow
 exact ⟨s', h1, h2.kept (keep_gr hg) (fun k hk e => by have := (hrow k e.symm).1; have := hD k hk; omega), h3.new ((keep_gr hg).more (fun k e => .inr (hrow k e.symm).1))⟩
theorem wrX_own {W0 : World} {d : Nat} {D : Nat → Prop} {r sl p m : Nat} {b : List UInt8} {s : DS} (hD : ∀ k, D k → k < W0.heap.size) (c : Code) : OwnFrom W0.heap.size (WrX W0 d D r sl p m b s c) := by
 rintro pre X Y row ⟨h0, e, s', h1, hne, h2, hb, h3⟩ hg hrow
 exact ⟨h0, e, s', h1, hne, h2.kept (keep_gr hg) (fun k hk e => by have := (hrow k e.symm).1; have := hD k hk; omega), cell_kept hb hg (fun r e => (hrow r e).2), h3.new ((keep_gr hg).more (fun k e => .inr (hrow k e.symm).1))⟩
def PlAt (W : World) (g sl p j : Nat) : Prop :=
 W.cell? ⟨g, 0, none⟩ = some (.int .i64 ((3 + 64 * sl + j : Nat) : Int)) ∧ W.cell? ⟨g, 1, none⟩ = some (.int .i64 ((p - 64 * j : Nat) : Int)) ∧ W.cell? ⟨g, 2, none⟩ = some (.int .i64 ((64 * j - p : Nat) : Int))
theorem PlAt.grown {W W' : World} {g sl p j : Nat} {row : Option Nat} (h : PlAt W g sl p j) (hg : W.grownBy W' row) (hr : ∀ r, row = some r → ∃ o : Obj, W.heap[r]? = some o ∧ o.isCells = false) : PlAt W' g sl p j :=
 ⟨cell_kept h.1 hg hr, cell_kept h.2.1 hg hr, cell_kept h.2.2 hg hr⟩
abbrev wrWp (w : World) (p : Value) (A : Option Addr) (n c : Nat) : World := ((w.alloc (.cells #[p] 24)).alloc (.cells #[.slice A n c] 22)).alloc (.cells #[.int .i64 0] 27)
theorem wrWp_is (w : World) (p : Value) (A : Option Addr) (n c : Nat) : Below w.heap.size w (wrWp w p A n c) ∧ (wrWp w p A n c).heap.size = w.heap.size + 1 + 1 + 1 ∧ (wrWp w p A n c).cell? ⟨w.heap.size, 0, none⟩ = some p ∧
  (wrWp w p A n c).cell? ⟨w.heap.size + 1, 0, none⟩ = some (.slice A n c) ∧ (wrWp w p A n c).heap[w.heap.size + 1 + 1]? = some (.cells #[.int .i64 0] 27 (0, 0)) := by
 obtain ⟨w1, hw1⟩ : ∃ w1, w.alloc (.cells #[p] 24) = w1 := ⟨_, rfl⟩
 obtain ⟨w2, hw2⟩ : ∃ w2, w1.alloc (.cells #[.slice A n c] 22) = w2 := ⟨_, rfl⟩
 have B1 : Below w.heap.size w w1 := by rw [← hw1]; exact (Below.refl _ _).alloc (Nat.le_refl _) _
 have B2 : Below w1.heap.size w1 w2 := by rw [← hw2]; exact (Below.refl _ _).alloc (Nat.le_refl _) _
 have e1 : w1.heap.size = w.heap.size + 1 := by rw [← hw1]; simp
 have e2 : w2.heap.size = w.heap.size + 1 + 1 := by rw [← hw2]; simp [e1]
 have D1 : w1.cell? ⟨w.heap.size, 0, none⟩ = some p := by rw [← hw1]; exact box_cell _ _ _
 have D2 : w2.cell? ⟨w1.heap.size, 0, none⟩ = some (.slice A n c) := by rw [← hw2]; exact box_cell _ _ _
 have hE : wrWp w p A n c = w2.alloc (.cells #[.int .i64 0] 27) := by rw [← hw2, ← hw1]
 have B3 : Below w2.heap.size w2 (wrWp w p A n c) := by rw [hE]; exact (Below.refl _ _).alloc (Nat.le_refl _) _
 refine ⟨(B1.trans (B2.mono B1.size)).trans (B3.mono (Nat.le_trans B1.size B2.size)), by rw [hE]; simp [e2], ?_, ?_, ?_⟩
 ·exact ((B2.trans (B3.mono B2.size)).cell (p := ⟨w.heap.size, 0, none⟩) (by show w.heap.size < w1.heap.size; omega)).trans D1
 ·have := (B3.cell (p := ⟨w1.heap.size, 0, none⟩) (by show w1.heap.size < w2.heap.size; omega)).trans D2
  rwa [e1] at this
 ·rw [hE, ← e2]
  exact World.alloc_heap_new w2 _
abbrev wrW (w : World) (d : Nat) (A : Option Addr) (n c : Nat) : World := wrWp w (.pointer (some ⟨d, 0, none⟩)) A n c
theorem wrW_is (w : World) (d : Nat) (A : Option Addr) (n c : Nat) : Below w.heap.size w (wrW w d A n c) ∧ (wrW w d A n c).heap.size = w.heap.size + 1 + 1 + 1 ∧ (wrW w d A n c).cell? ⟨w.heap.size, 0, none⟩ = some (.pointer (some ⟨d, 0, none⟩)) ∧
  (wrW w d A n c).cell? ⟨w.heap.size + 1, 0, none⟩ = some (.slice A n c) ∧ (wrW w d A n c).heap[w.heap.size + 1 + 1]? = some (.cells #[.int .i64 0] 27 (0, 0)) := wrWp_is w _ A n c
theorem slice_lS {P : Program} {T U : TypeId} (L : U8 P T U) (A : Option Addr) {n c l : Nat} (h2 : l ≤ n) (hc : n ≤ c) :
  ∃ A' c', (∀ (k : IntKind) (w : World), (Instr.slice T (.slice A n c) (some (.int k (l : Int))) none none).run P w = .ok (.slice A' (n - l) c') w) ∧
   (∀ (w : World) (B : Nat) (bs : List UInt8), Rd w B A n bs → Rd w B A' (n - l) (bs.drop l)) ∧ n - l ≤ c' ∧ c' ≤ c ∧ (∀ b o, A = some ⟨b, o, none⟩ → ∃ o', A' = some ⟨b, o', none⟩) := by
 refine ⟨if c = l then A else A.map (·.add l), c - l, fun k w => ?_, fun w B bs hr => ?_, by omega, by omega, fun b o e => ?_⟩
 ·rw [run_slice_l (ht := by rw [u8_elem L]; exact L.ul) (kl := k) (l := (l : Int)) (h0 := by omega) (h1 := by omega), u8_elem L, u8_size L]
  simp [Result.andThen, sliced]
 ·refine ⟨by simp [hr.1], fun h0 => ?_⟩
  obtain ⟨b, o, rfl, hb, _⟩ := hr.2 (by omega)
  have := hr.cut (l := l) (k := n) h2 (Nat.le_refl _)
  rw [List.take_of_length_le (by rw [hr.1]; exact Nat.le_refl _)] at this
  obtain ⟨b', o', e, hb', hc'⟩ := this.2 h0
  refine ⟨b', o', ?_, hb', hc'⟩
  rw [if_neg (by omega), ← e]
  simp [Addr.add]
 ·subst e
  split
  ·exact ⟨o, rfl⟩
  ·exact ⟨o + l, by simp [Addr.add]⟩
theorem off_part {A A' : Option Addr} {n m : Nat} {D : Nat → Prop} {W : World} {B : Nat} {b : List UInt8} (ho : Off A n D) (hr : Rd W B A n b) (hm : m ≤ n) (hA : ∀ b o, A = some ⟨b, o, none⟩ → ∃ o', A' = some ⟨b, o', none⟩) : Off A' m D := by
 intro h0 bb o e
 obtain ⟨b0, o0, e0, _⟩ := hr.2 (by omega)
 obtain ⟨o', e'⟩ := hA b0 o0 e0
 rw [e] at e'
 obtain rfl : bb = b0 := by injection e' with e'; injection e'
 exact ho (by omega) bb o0 e0
def WrAx (w W0 : World) (d : Nat) (A : Option Addr) (n c sl p : Nat) (fv : Value) (x : Pl p n) (a : Act) (W : World) : Prop :=
 ∃ g, W0.heap.size ≤ g ∧ PlAt W g sl p x.1 ∧ a = { tmps := #[.pointer (some ⟨d, 0, none⟩), .int .i64 (sl : Int), .int .i64 (p : Int), .slice A n c, .pointer (some ⟨w.heap.size, 0, none⟩), undef, undef, .pointer (some ⟨w.heap.size + 1, 0, none⟩), .pointer (some ⟨w.heap.size + 1 + 1, 0, none⟩), .int .i64 0, .pointer (some ⟨g, 0, none⟩), undef, .pointer (some ⟨d, 0, none⟩), .int .i64 (sl : Int), .int .i64 (p : Int), .slice A n c, .int .i64 (n : Int), .int .i64 0, .int .i64 0, .bool false, undef, .int .i64 (sl : Int), .int .i64 (p : Int), .slice A n c, .int .i64 (n : Int), fv, plV sl p x.1, undef, undef, undef, undef, undef, undef, undef, undef, undef, undef], defers := [] }
theorem wrAx_own {B' : Nat} {w W0 : World} {d : Nat} {A : Option Addr} {n c sl p : Nat} {fv : Value} (x : Pl p n) (a : Act) : OwnFrom B' (fun (_ : Unit) W => WrAx w W0 d A n c sl p fv x a W) := by
 rintro _ X Y row ⟨g, h1, h2, h3⟩ hg hrow
 exact ⟨g, h1, h2.grown hg (fun r e => (hrow r e).2), h3⟩
theorem slWriteIn
  (d : Nat) (D : Nat → Prop) (s : DS) (sl a : Int) (A : Option Addr) (n c : Nat) (b : List UInt8) (w : World) (h : DkAt w d D s) (hl : 0 < s.L.length) (ha : a ≤ 9223372036854775807) (hr : Rd w w.heap.size A n b) (ho : Off A n D) (hnc : n ≤ c) (hc : c ≤ 9223372036854775807) :
  CallsIn Fence.wide 3 Try.prog 6 #[.pointer (some ⟨d, 0, none⟩), .int .i64 sl, .int .i64 a, .slice A n c] w (DkSt w d D (writeS sl a b s)) := by
 have hfn : ∀ f, Fence.wide.fn f := fun _ => trivial
 have hro : Fence.wide.round = none := rfl
 have hC : ∀ (m : Nat) (f : FuncId) (args : Array Value) (w : World) (R : Ending → World → Prop), Calls Try.prog f args w R → CallsIn Fence.wide m Try.prog f args w R := fun _ _ _ _ _ h => callsIn_wide.2 h
 obtain ⟨hb0, hsz, k0, k1, k2⟩ := wrW_is w d A n c
 have HB := qH hb0
 have HSZ := qH hsz
 have C0 := qH k0
 have C1 := qH k1
 have BX : Hid (Boxed (wrW w d A n c) (w.heap.size + 1 + 1) 27 (.int .i64 0)) := k2
 have HLT := qH h.lt
 have H := qH (h.to HB.out)
 have R := qH (hr.to HB.out)
 have HN := qH hr.1
 have OF := qH ho
 have HNC := qH hnc
 have HREF := qH (slRefusal d D s sl a n _ H.out hl ha)
 have HC := qH hC
 have bc := BX.out.cell
 have bf := BX.out.frozen
 clear hb0 hsz k2 h hr ho hnc hC hl
 refine callsIn_of_wp_marks Try.func6 rfl (hfn _) ?_ hro
 simp only [Try.ntmps6, List.size_toArray, List.length_cons, List.length_nil, Nat.reduceAdd, Nat.reduceSub, Array.replicate_succ, Array.replicate_zero, List.push_toArray, List.append_toArray, List.nil_append, List.cons_append]
 have h33 := hfn 12
 have h34 := hfn 13
 have h59 := hfn 21
 have h35 := hfn 14
 by_cases hz : refP sl a (n : Int) s = 0
 ·obtain ⟨hr0, hup⟩ := refP_zero hz
  obtain ⟨g1, g2, -, g3, g4⟩ := refS_ok hr0
  obtain ⟨sl, rfl⟩ : ∃ k : Nat, sl = (k : Int) := ⟨sl.toNat, by omega⟩
  obtain ⟨p, rfl⟩ : ∃ k : Nat, a = (k : Int) := ⟨a.toNat, by omega⟩
  have HSL : Hid (sl ≤ 1) := by show _ ≤ _; omega
  have HPN : Hid (p + n ≤ 4096) := by show _ ≤ _; omega
  have HW : Hid (writeS (sl : Int) (p : Int) b s = goL sl p b (hits p n 64) s) := by
   show _ = _
   have := writeS_hits (b := b) (s := s) (sl := (sl : Int)) (at_ := (p : Int)) (by rw [HN.out]; exact hr0) hup
   rwa [Int.toNat_natCast, Int.toNat_natCast, HN.out] at this
  rw [hz] at HREF
  clear g1 g2 g3 g4 hr0 hup hz
  gi_wp2_with (first
   | (gi_at_call 12; refine (HC.out _ _ _ _ _ HREF.out).mono ?_; rintro e w' ⟨rfl, rfl⟩; generalize wrW w d A n c = w3 at *)
   | (gi_at_call 13; refine (placesIn Fence.wide _ h34 hro _ _ _ _).mono ?_; rintro e w' ⟨rfl, rfl⟩))
  have hbw : Below w3.heap.size w3 (placesW w3 sl p n) := (((Below.refl w3.heap.size w3).alloc (Nat.le_refl _) (.cells #[.int .i64 (sl : Int)] 3)).alloc (by simp) (.cells #[.int .i64 (p : Int)] 3)).alloc (by simp; omega) (.cells #[.int .i64 (n : Int)] 3)
  have hrun := placesW_run w3 sl p n
  have hbx : Boxed (placesW w3 sl p n) (w.heap.size + 1 + 1) 27 (.int .i64 0) := (hbw.block _ BX.out.lt).trans BX.out
  have hc0 : (placesW w3 sl p n).cell? ⟨w.heap.size, 0, none⟩ = some (.pointer (some ⟨d, 0, none⟩)) := (hbw.cell (World.block_lt_of_cell? w3 _ C0.out)).trans C0.out
  have hc1 : (placesW w3 sl p n).cell? ⟨w.heap.size + 1, 0, none⟩ = some (.slice A n c) := (hbw.cell (World.block_lt_of_cell? w3 _ C1.out)).trans C1.out
  have h0 := H.out.to hbw
  have r0 := R.out.to hbw
  have b0 : Below w.heap.size w (placesW w3 sl p n) := HB.out.trans (hbw.mono HB.out.size)
  have hg3 : w3.heap.size < (placesW w3 sl p n).heap.size := by simp [placesW]; omega
  generalize hW0 : placesW w3 sl p n = W0 at *
  have h3w : w.heap.size ≤ w3.heap.size := HB.out.size
  generalize w3.heap.size = g3 at *
  have HR0 := qH r0
  have HB0 := qH b0
  have H0 := qH h0
  have HBX := qH hbx
  have HC0 := qH hc0
  have HC1 := qH hc1
  have HDW : Hid (∀ k, D k → k < W0.heap.size) := fun k hk => Nat.lt_of_lt_of_le (HLT.out k hk) HB0.out.size
  have HDN : Hid (∀ k, w.heap.size ≤ k → ¬ D k) := fun k hk hd => absurd (HLT.out k hd) (Nat.not_lt.2 hk)
  have hst := placesStops Fence.wide (3 - 1) h59 hro (by omega) g3 (g3 + 1) (g3 + 1 + 1) sl p n HSL.out HPN.out D W0 hrun (HDN.out _ h3w) (HDN.out _ (by omega)) (HDN.out _ (by omega)) HDW.out
  have HI0 : Hid (WrI W0 d D sl p n b s [] W0) := ⟨s, rfl, h0, Keep.refl _ _⟩
  clear hbw hrun hbx hc0 hc1 h0 r0 b0 hg3 hW0 HREF C0 C1 BX H R HB k0 k1 bc bf
  refine wpIn_rangeFunc_ownH hro (by omega) (gf := 21) (lb := #[.pointer (some ⟨g3, 0, none⟩), .pointer (some ⟨g3 + 1 + 1, 0, none⟩), .pointer (some ⟨g3 + 1, 0, none⟩)]) rfl h59 (enters_of Try.func21 (by kernel_rfl) rfl)
   hst KpF.trans (fun W l' o o' _ h h1 _ => KpF.book W l' o o' h h1) (Below.refl _ _) (fun _ => rfl)
   (WrI W0 d D sl p n b s) (WrX W0 d D (w.heap.size + 1 + 1) sl p n b s) (wrI_own HDW.out) (wrX_own HDW.out) HI0.out
   (WrAx w W0 d A n c sl p (.func (.func 21) #[] #[.pointer (some ⟨g3, 0, none⟩), .pointer (some ⟨g3 + 1 + 1, 0, none⟩), .pointer (some ⟨g3 + 1, 0, none⟩)])) (fun x a' => wrAx_own x a') ?assign ?body ?done ?stop
  case assign =>
   rintro ly pre x W K hi hK
   have HK := qH hK
   have HI := qH hi
   have HLE : Hid (W0.heap.size ≤ W.heap.size) := by obtain ⟨s', _, _, h3⟩ := hi; exact h3.size
   clear hK hi
   gi_wp2
   refine HK.out _ _ ?_ ?_ ?_ ?_
   ·exact (KeepsOthers.alloc _ _).from _
   ·exact KpF.alloc _ _ _
   ·exact (wrI_own HDW.out).alloc _ HI.out
   ·exact ⟨W.heap.size, HLE.out, ⟨by simp, by simp, by simp⟩, rfl⟩
  case body =>
   rintro ly pre x a' W hl ⟨r, hr⟩ ⟨s', g1, g2, g4⟩ ⟨g, hg, hpl, rfl⟩ hlen
   have hc0 : W.cell? ⟨w.heap.size, 0, none⟩ = some (.pointer (some ⟨d, 0, none⟩)) := (g4.cell (World.block_lt_of_cell? W0 _ HC0.out) (HDN.out _ (Nat.le_refl _))).trans HC0.out
   have hc1 : W.cell? ⟨w.heap.size + 1, 0, none⟩ = some (.slice A n c) := (g4.cell (World.block_lt_of_cell? W0 _ HC1.out) (HDN.out _ (Nat.le_succ _))).trans HC1.out
   have HBW : Hid (Boxed W (w.heap.size + 1 + 1) 27 (.int .i64 0)) := (g4.block _ HBX.out.lt (HDN.out _ (Nat.le_trans (Nat.le_succ _) (Nat.le_succ _)))).trans HBX.out
   have HRW := qH (HR0.out.kept g4 OF.out)
   have HG1 := qH g1
   have HD2 := qH g2
   have HK4 := qH g4
   obtain ⟨d0, d1, d2⟩ := hpl
   obtain ⟨x, hx64, hxh⟩ := x
   have HXH := qH hxh
   have hin := hitS_iff.1 hxh
   have hstep := qH (replS_step (sl := sl) (b := b) g2.ok (by rw [HN.out]; exact hxh))
   have hin1 : 64 * x - p ≤ n := by omega
   have hf64 : p - 64 * x < 64 := by omega
   have HXM := qH (show (⟨x, hx64, hxh⟩ : Pl p n).1 = x from rfl)
   generalize hxx : (⟨x, hx64, hxh⟩ : Pl p n) = y at *
   dsimp only [plV] at *
   rw [HXM.out] at d0 d1 d2 ⊢
   generalize 3 + 64 * sl + x = ci at *
   generalize p - 64 * x = f at *
   generalize 64 * x - p = i at *
   obtain ⟨A', c', s32, hrd', hc', hc'', hA'⟩ := slice_lS isU8 A (l := i) hin1 HNC.out
   have HREP := qH (slReplace d D s' ci f i A' (n - i) c' (b.drop i) W.drew (g2.kept (R := fun _ => False) (Keep.refl _ _).drew (fun _ _ h => h)) hf64 (hrd' _ _ _ HRW.out).drew' (off_part OF.out HRW.out (Nat.sub_le _ _) hA'))
   clear g1 g2 g4 hin hin1 hf64 hrd' hc' hc'' hA' hxx hxh hx64
   have hmx : Try.prog.follows .mixedOrders = true := by kernel_rfl
   have h1n : 1 ≤ 3 - 1 - 1 := by decide
   gi_wp2
   rename_i K7 hK7
   have key : ∀ W3 : World, DkAt W3 d D (replS ci f (b.drop i) s').2 → Keep D W.drew W3 → K7 { tmps := #[.pointer (some ⟨d, 0, none⟩), .int .i64 (sl : Int), .int .i64 (p : Int), .slice A n c, .pointer (some ⟨w.heap.size, 0, none⟩), undef, undef, .pointer (some ⟨w.heap.size + 1, 0, none⟩), .pointer (some ⟨w.heap.size + 1 + 1, 0, none⟩), .int .i64 0, .pointer (some ⟨g, 0, none⟩), .int .i64 (replS ci f (b.drop i) s').1, .pointer (some ⟨d, 0, none⟩), .int .i64 (sl : Int), .int .i64 (p : Int), .slice A n c, .int .i64 (n : Int), .int .i64 0, .int .i64 0, .bool false, undef, .int .i64 (sl : Int), .int .i64 (p : Int), .slice A n c, .int .i64 (n : Int), .func (.func 21) #[] #[.pointer (some ⟨g3, 0, none⟩), .pointer (some ⟨g3 + 1 + 1, 0, none⟩), .pointer (some ⟨g3 + 1, 0, none⟩)], .agg #[.int .i64 (ci : Int), .int .i64 (f : Int), .int .i64 (i : Int)], .pointer (some ⟨d, 0, none⟩), .agg #[.int .i64 (ci : Int), .int .i64 (f : Int), .int .i64 (i : Int)], .slice A n c, .pointer (some ⟨g, 2, none⟩), .int .i64 (i : Int), .slice A' (n - i) c', .int .i64 (replS ci f (b.drop i) s').1, undef, undef, undef], defers := [] } W3 := by
    intro W3 hd3 hk3
    refine hK7 _ _ ?_
    have HB3 : Hid (Boxed W3 (w.heap.size + 1 + 1) 27 (.int .i64 0)) := (hk3.block _ HBW.out.lt (HDN.out _ (Nat.le_trans (Nat.le_succ _) (Nat.le_succ _)))).trans HBW.out
    have HKK : Hid (Keep D W W3) := ((Keep.refl D W).drew).trans hk3
    have HSN : Hid (goL sl p b (nums (pre ++ [y])) s = replS ci f (b.drop i) s') := by
     show _ = _
     rw [nums, List.map_append, List.map_cons, List.map_nil, goL_snoc, HXM.out, HG1.out, if_neg (by simp), hstep.out]
    have HD3 := qH hd3
    have bc := HB3.out.cell
    have bf := HB3.out.frozen
    clear hd3 hk3 hK7 s32 HREP d0 d1 d2 hc0 hc1 hst hr
    generalize replS ci f (b.drop i) s' = q at *
    obtain ⟨ev, s2⟩ := q
    dsimp only at *
    by_cases hz : ev = 0
    ·subst hz
     gi_wp2
     exact ⟨KeepsFrom.of_keep HKK.out HDW.out, KpF.of_keep HKK.out, s2, HSN.out, HD3.out, HK4.out.trans HKK.out⟩
    ·have HNZ : Hid (¬ ev = 0) := hz
     gi_wp2
     refine ⟨(KeepsFrom.of_keep HKK.out HDW.out).trans ((KeepsOthers.setCell _ _ _).from _), rfl, ev, s2, HSN.out, HNZ.out, HD3.out.set _ _ (HDN.out _ (Nat.le_trans (Nat.le_succ _) (Nat.le_succ _))), World.cell?_setCell_same' _ _ _ (by rw [bc]; rfl), ?_⟩
     exact ((HK4.out.trans HKK.out).more (fun k h => .inl h)).setCell _ _ (.inr rfl)
   have HGD : Hid (¬ D g) := HDN.out g (Nat.le_trans HB0.out.size hg)
   refine wpIn_round_held (S := (fun W' => W'.cell? ⟨w.heap.size, 0, none⟩ = some (.pointer (some ⟨d, 0, none⟩)) ∧ W'.cell? ⟨w.heap.size + 1, 0, none⟩ = some (.slice A n c) ∧ W'.cell? ⟨g, 0, none⟩ = some (.int .i64 (ci : Int)) ∧ W'.cell? ⟨g, 1, none⟩ = some (.int .i64 (f : Int)) ∧ W'.cell? ⟨g, 2, none⟩ = some (.int .i64 (i : Int)))) (by kernel_rfl) (by kernel_rfl) (fun h => by obtain ⟨_, _, h⟩ := h; exact h) ((⟨hc0, hc1, d0, d1, d2⟩)) (fun hHeld => ?_)
   refine tw 0 rfl (by intro w hSw; (try dsimp only at hSw); (have x := hSw.1); clear hSw; go_simp; (try with_reducible rfl)) ?_
   simp only [pR]
   refine tw 1 rfl (by intro w hSw; (try dsimp only at hSw); (obtain ⟨-, -, x0, x1, x2⟩ := hSw); go_simp; (try with_reducible rfl)) ?_
   simp only [pR]
   refine tw 2 rfl (by intro w hSw; (try dsimp only at hSw); (have x := hSw.2.1); clear hSw; go_simp; (try with_reducible rfl)) ?_
   simp only [pR]
   refine tk 3 ?_
   simp only [pR]
   refine tw 4 rfl (by intro w hSw; (try dsimp only at hSw); (have x := hSw.2.2.2.2); clear hSw; go_simp; (try with_reducible rfl)) ?_
   simp only [pR]
   refine tk 5 ?_
   simp only [pR]
   refine rd1 6 (fun K hK => ?_)
   go_simp
   refine (HREP.out).mono ?_
   rintro e W3 ⟨rfl, hd3, hk3⟩
   have HD3 := qH hd3
   have HK3 := qH hk3
   have KP := qH (KpF.of_keep hk3)
   clear hd3 hk3
   go_wp2_with fail
   refine hK.out _ _ (⟨KP.out.1 _ _ (HDN.out _ (Nat.le_refl _)) hc0, KP.out.1 _ _ (HDN.out _ (Nat.le_succ _)) hc1, KP.out.1 _ _ HGD.out d0, KP.out.1 _ _ HGD.out d1, KP.out.1 _ _ HGD.out d2⟩) (fun hHeld => ?_)
   clear hK K
   refine tk 7 ?_
   simp only [pR]
   refine wpAnyH_done (by kernel_rfl) ?_ _
   exact key _ HD3.out HK3.out
  case done =>
   rintro D' ys W hD' hys ⟨s', g1, g2, g4⟩ hK
   have HBW : Hid (Boxed W (w.heap.size + 1 + 1) 27 (.int .i64 0)) := (g4.block _ HBX.out.lt (HDN.out _ (Nat.le_trans (Nat.le_succ _) (Nat.le_succ _)))).trans HBX.out
   have bc := HBW.out.cell
   have bf := HBW.out.frozen
   have HD2 := qH g2
   have HK4 := qH g4
   have HD' : Hid (W0.heap.size ≤ D') := hD'
   have HFIN : Hid (writeS (sl : Int) (p : Int) b s = (0, s')) := HW.out.trans (by rw [← hys]; exact g1)
   clear g1 g2 g4 hD' hys hst
   gi_wp2
   have hK2 := (KeepsOthers.setCell W ⟨w.heap.size + 1 + 1, 0, none⟩ (.int .i64 0)).same D' _ hK rfl
   refine ⟨by simp, .inl ⟨_, _, rfl, run_takeDeferred hK2, ?_⟩⟩
   refine ⟨_, res_errnoS rfl _ _ (w.heap.size + 1 + 1) (.int .i64 0) rfl (cell_kept (World.cell?_setCell_same' _ _ _ (by rw [bc]; rfl)) (grownBy_putObj' _ D' (.deferred none)) (fun r e => by cases e; exact ⟨_, hK2, rfl⟩)), ?_⟩
   rw [HFIN.out]
   have hle : w.heap.size ≤ w.heap.size + 1 + 1 := Nat.le_trans (Nat.le_succ _) (Nat.le_succ _)
   have hle' : w.heap.size ≤ D' := Nat.le_trans HB0.out.size HD'.out
   exact ⟨rfl, (HD2.out.set _ _ (HDN.out _ hle)).put _ _ (HDN.out _ hle'), (Keep.of_below HB0.out).new (((HK4.out.more (fun k h => .inl h)).setCell _ _ (.inr hle)).trans ((keep_put _ _ _).more (fun k e => .inr (by rw [e]; exact hle'))))⟩
  case stop =>
   rintro D' cc pre W hD' ⟨k, hk64, hpre⟩ ⟨rfl, ev, s', g1, hne, g2, hcx, g4⟩ hK
   have HD2 := qH g2
   have HK4 := qH g4
   have HD' : Hid (W0.heap.size ≤ D') := hD'
   have HCX := qH hcx
   have HFIN : Hid (writeS (sl : Int) (p : Int) b s = (ev, s')) := by
    show _ = _
    obtain ⟨rest, hrest⟩ := hits_part p n k (64 - k)
    rw [show k + (64 - k) = 64 from by omega] at hrest
    rw [HW.out, hrest, goL_part _ _ _ _ _ _ (by rw [← hpre, g1]; exact hne), ← hpre, g1]
   clear g1 g2 g4 hD' hst hpre hk64 hne hcx
   gi_wp2
   refine ⟨by simp, .inl ⟨_, _, rfl, run_takeDeferred hK, ?_⟩⟩
   refine ⟨_, res_errnoS rfl _ _ (w.heap.size + 1 + 1) (.int .i64 ev) rfl (cell_kept HCX.out (grownBy_putObj' _ D' (.deferred none)) (fun r e => by cases e; exact ⟨_, hK, rfl⟩)), ?_⟩
   rw [HFIN.out]
   have hle : w.heap.size ≤ w.heap.size + 1 + 1 := Nat.le_trans (Nat.le_succ _) (Nat.le_succ _)
   have hle' : w.heap.size ≤ D' := Nat.le_trans HB0.out.size HD'.out
   exact ⟨rfl, HD2.out.put _ _ (HDN.out _ hle'), (Keep.of_below HB0.out).new ((HK4.out.more (fun k h => h.imp id (fun e => by rw [e]; exact hle))).trans ((keep_put _ _ _).more (fun k e => .inr (by rw [e]; exact hle'))))⟩
 ·have HW : Hid (writeS sl a b s = (refP sl a (n : Int) s, s)) := by
   show _ = _
   have := writeS_ref (sl := sl) (a := a) (b := b) (s := s) (by rw [HN.out]; exact hz)
   rwa [HN.out] at this
  generalize refP sl a (n : Int) s = ev at *
  gi_wp2_with (gi_at_call 12; refine (HC.out _ _ _ _ _ HREF.out).mono ?_; rintro e w' ⟨rfl, rfl⟩; generalize wrW w d A n c = w3 at *)
  refine ⟨_, res_errnoS rfl _ _ (w.heap.size + 1 + 1) (.int .i64 ev) rfl (World.cell?_setCell_same' _ _ _ (by rw [bc]; rfl)), ?_⟩
  rw [HW.out]
  exact ⟨rfl, H.out.set _ _ (fun hd => by have h1 : w.heap.size + 1 + 1 < w.heap.size := HLT.out _ hd; omega), (Keep.of_below (HB.out.setCell (p := ⟨w.heap.size + 1 + 1, 0, none⟩) (by show w.heap.size ≤ w.heap.size + 1 + 1; omega) _))⟩
theorem slWrite (d : Nat) (D : Nat → Prop) (s : DS) (sl a : Int) (A : Option Addr) (n c : Nat) (b : List UInt8) (w : World) (h : DkAt w d D s) (hl : 0 < s.L.length) (ha : a ≤ 9223372036854775807) (hr : Rd w w.heap.size A n b) (ho : Off A n D) (hnc : n ≤ c) (hc : c ≤ 9223372036854775807) :
  Calls Try.prog 6 #[.pointer (some ⟨d, 0, none⟩), .int .i64 sl, .int .i64 a, .slice A n c] w (DkSt w d D (writeS sl a b s)) :=
 (callsIn_wide (n := 3)).1 (slWriteIn d D s sl a A n c b w h hl ha hr ho hnc hc)
end Go.Proofs.Ytopilgedcnbdaaa