/- The program's places of a run (slot.places and the function that it hands back): it yields, in ascending order, the sectors that get a byte, for every body that keeps all cells but those of certain blocks where it goes on. -/
import Derived.Test.YtopilgedcnbdaaaDoorTz
import Derived.RangeFuncNested
import Derived.RangeFuncBound
import Derived.RangeFuncCalls
import Derived.RangeFuncLeaves
import Derived.RangeFuncBox
import Derived.Shelf.Abstract
import Derived.Shelf.RegionOpen
import Derived.WalkKit
import Derived.OwnWalkIn
import Derived.TacticsInMore
import Derived.LoopNIn
import Derived.LoopIn
import Derived.Test.YtopilgedcnbdaaaDoorSlP
import Derived.Test.YtopilgedcnbdaaaDoorKitO
namespace Go.Proofs.YtopilgedcnbdaaaDoor
set_option maxRecDepth 1000000
set_option maxHeartbeats 8000000
open Go.RowKit Go.Shelf
set_option linter.unusedVariables false
set_option linter.unusedSimpArgs false
attribute [local go_sem] Oper.semAt_some
abbrev Pl (p m : Nat) := { j : Nat // j < 64 ∧ hitS j p m = true }
abbrev nums {p m : Nat} (l : List (Pl p m)) : List Nat := l.map (·.1)
abbrev plV (sl p j : Nat) : Value := .agg #[.int .i64 ((3 + 64 * sl + j : Nat) : Int), .int .i64 ((p - 64 * j : Nat) : Int), .int .i64 ((64 * j - p : Nat) : Int)]
def KpF (R : Nat → Prop) (W W' : World) : Prop := (∀ p v, ¬ R p.block → W.cell? p = some v → W'.cell? p = some v) ∧ W.heap.size ≤ W'.heap.size
theorem KpF.refl (R : Nat → Prop) (W : World) : KpF R W W := ⟨fun _ _ _ h => h, Nat.le_refl _⟩
theorem KpF.trans {R : Nat → Prop} {A B C : World} (h : KpF R A B) (k : KpF R B C) : KpF R A C := ⟨fun p v hr hp => k.1 p v hr (h.1 p v hr hp), Nat.le_trans h.2 k.2⟩
theorem cell_inS {W : World} {p : Addr} {v : Value} (h : W.cell? p = some v) : p.block < W.heap.size := World.block_lt_of_cell? W p h
theorem KpF.of_below {R : Nat → Prop} {W W' : World} (h : Below W.heap.size W W') : KpF R W W' := ⟨fun p v _ hp => (h.cell (cell_inS hp)).trans hp, h.size⟩
theorem KpF.of_keep {R : Nat → Prop} {W W' : World} (h : Keep R W W') : KpF R W W' := ⟨fun p v hr hp => (h.cell (cell_inS hp) hr).trans hp, h.size⟩
theorem KpF.alloc (R : Nat → Prop) (W : World) (o : Obj) : KpF R W (W.alloc o) := .of_below ((Below.refl _ W).alloc (Nat.le_refl _) o)
theorem KpF.book {R : Nat → Prop} (W : World) (l : Nat) (o o' : Obj) (h : W.heap[l]? = some o) (h1 : o.isCells = false) : KpF R W (W.putObj l o') := by
 have hg := grownBy_putObj' W l o'
 refine ⟨fun p v _ hp => cell_kept hp hg (fun r e => by cases e; exact ⟨o, h, h1⟩), hg.size⟩
structure Run (W : World) (bs ba bm sl p m : Nat) : Prop where
 s : W.cell? ⟨bs, 0, none⟩ = some (.int .i64 (sl : Int))
 a : W.cell? ⟨ba, 0, none⟩ = some (.int .i64 (p : Int))
 n : W.cell? ⟨bm, 0, none⟩ = some (.int .i64 (m : Int))
theorem Run.kept {R : Nat → Prop} {W W' : World} {bs ba bm sl p m : Nat} (h : Run W bs ba bm sl p m) (hk : KpF R W W') (h1 : ¬ R bs) (h2 : ¬ R ba) (h3 : ¬ R bm) : Run W' bs ba bm sl p m :=
 ⟨hk.1 _ _ h1 h.s, hk.1 _ _ h2 h.a, hk.1 _ _ h3 h.n⟩
abbrev placesW (w : World) (sl p m : Int) : World := ((w.alloc (.cells #[.int .i64 sl] 3)).alloc (.cells #[.int .i64 p] 3)).alloc (.cells #[.int .i64 m] 3)
theorem placesIn (F : Fence) (n : Nat) (hf : F.fn 15) (hro : F.round = none) (sl p m : Int) (w : World) :
  CallsIn F n Tryd.prog 15 #[.int .i64 sl, .int .i64 p, .int .i64 m] w fun e w' => e = .returned (.func (.func 27) #[] #[.pointer (some ⟨w.heap.size, 0, none⟩), .pointer (some ⟨w.heap.size + 1 + 1, 0, none⟩), .pointer (some ⟨w.heap.size + 1, 0, none⟩)]) ∧
   w' = placesW w sl p m := by
 refine callsIn_of_wp Tryd.func15 rfl hf ?_ hro
 simp only [Tryd.ntmps15, List.size_toArray, List.length_cons, List.length_nil, Nat.reduceAdd, Nat.reduceSub, Array.replicate_succ, Array.replicate_zero, List.push_toArray, List.append_toArray, List.nil_append, List.cons_append]
 gi_wp2
 go_ret
 exact ⟨by simp, rfl⟩
theorem box0 (w : World) (v : Value) (T : TypeId) : (w.alloc (.cells #[v] T)).cell? ⟨w.heap.size, 0, none⟩ = some v := by
 have h := cell_one_new w v T 0 v rfl
 rw [Addr.add_mid] at h
 exact h
theorem placesW_run (w : World) (sl p m : Nat) : Run (placesW w sl p m) w.heap.size (w.heap.size + 1) (w.heap.size + 1 + 1) sl p m := by
 have e1 : (w.alloc (.cells #[.int .i64 (sl : Int)] 3)).heap.size = w.heap.size + 1 := by simp
 have e2 : ((w.alloc (.cells #[.int .i64 (sl : Int)] 3)).alloc (.cells #[.int .i64 (p : Int)] 3)).heap.size = w.heap.size + 1 + 1 := by simp
 have g0 := box0 w (.int .i64 (sl : Int)) 3
 have g1 := box0 (w.alloc (.cells #[.int .i64 (sl : Int)] 3)) (.int .i64 (p : Int)) 3
 have g2 := box0 ((w.alloc (.cells #[.int .i64 (sl : Int)] 3)).alloc (.cells #[.int .i64 (p : Int)] 3)) (.int .i64 (m : Int)) 3
 rw [e1] at g1
 rw [e2] at g2
 have k1 : ∀ (W : World) (o : Obj) (q : Addr) (v : Value), W.cell? q = some v → (W.alloc o).cell? q = some v := fun W o q v h => (KpF.alloc (fun _ => False) W o).1 q v (fun h => h) h
 exact ⟨k1 _ _ _ _ (k1 _ _ _ _ g0), k1 _ _ _ _ g1, g2⟩
def OutP (R : Nat → Prop) (p m : Nat) (W : World) (J : List (Pl p m) → World → Prop) (s6 : Value) (wr : World) : Prop :=
 ∃ (pre : List (Pl p m)) (i j : Nat), s6 = .int .i64 (i : Int) ∧ nums pre = hits p m j ∧ ((i = 0 ∧ j = p / 64) ∨ (0 < i ∧ p + i = 64 * j)) ∧ i ≤ m + 64 ∧ j ≤ 64 ∧ J pre wr ∧ KpF R W wr
theorem hits_short (p n : Nat) : ∀ m, (hits p n m).length ≤ m
 | 0 => Nat.le_refl _
 | m + 1 => by
  have := hits_short p n m
  cases e : hitS m p n with
  | true => rw [hits_hit e, List.length_append]; simp; omega
  | false => rw [hits_miss e]; omega
theorem pl_e0 {p i : Nat} (h : p + i ≤ 5000) : IntKind.i64.wrap ((p : Int) + (i : Int)) = (p : Int) + (i : Int) := by rw [IntKind.wrap_i64]; omega
theorem pl_e1 {p m i j : Nat} (h : (i = 0 ∧ j = p / 64) ∨ (0 < i ∧ p + i = 64 * j)) : ((p : Int) + (i : Int)) / 64 = (j : Int) := by omega
theorem pl_e2 {p m i j f : Nat} (h : (i = 0 ∧ j = p / 64) ∨ (0 < i ∧ p + i = 64 * j)) (hf : p - 64 * j = f) : ((p : Int) + (i : Int)) % 64 = (f : Int) := by omega
theorem pl_e3 {sl j c : Nat} (hs : sl ≤ 1) (hj : j < 64) (hc : 3 + 64 * sl + j = c) : wrap64 (3 + 64 * (sl : Int) + (j : Int)) = (c : Int) := by unfold wrap64; omega
theorem pl_hit {p m i j : Nat} (h : (i = 0 ∧ j = p / 64) ∨ (0 < i ∧ p + i = 64 * j)) (hp : p + m ≤ 4096) (hi : i < m) : j < 64 ∧ hitS j p m = true ∧ 64 * j - p = i := ⟨by omega, hitS_iff.2 (by omega), by omega⟩
theorem pl_next {p m i j f : Nat} (h : (i = 0 ∧ j = p / 64) ∨ (0 < i ∧ p + i = 64 * j)) (hf : p - 64 * j = f) : f < 64 ∧ 0 < i + (64 - f) ∧ p + (i + (64 - f)) = 64 * (j + 1) := by omega
theorem pl_all {p m i j : Nat} (h : (i = 0 ∧ j = p / 64) ∨ (0 < i ∧ p + i = 64 * j)) (hi : ¬ i < m) (hj : j ≤ 64) : hits p m 64 = hits p m j := by
 have := hits_rest (p := p) (n := m) (j := j) (by omega) (64 - j)
 rwa [show j + (64 - j) = 64 from by omega] at this
theorem pl_len {p m j : Nat} {pre : List (Pl p m)} (h : nums pre = hits p m j) (hj : j < 64) : pre.length < 64 := by
 have h1 := hits_short p m j
 have h2 := congrArg List.length h
 rw [List.length_map] at h2
 omega
theorem pl_w1 {sl : Nat} (h : sl ≤ 1) : IntKind.i64.wrap ((sl : Int) * 64) = (sl : Int) * 64 := by rw [IntKind.wrap_i64]; omega
theorem pl_w2 {sl : Nat} (h : sl ≤ 1) : IntKind.i64.wrap (3 + (sl : Int) * 64) = 3 + 64 * (sl : Int) := by rw [IntKind.wrap_i64]; omega
theorem pl_s {f i : Nat} (h : f < 64) (hi : i ≤ 5000) : IntKind.i64.wrap ((i : Int) + (64 - (f : Int))) = ((i + (64 - f) : Nat) : Int) := by rw [IntKind.wrap_i64]; omega
theorem pl_s0 {f : Nat} (h : f < 64) : IntKind.i64.wrap (64 - (f : Int)) = 64 - (f : Int) := by rw [IntKind.wrap_i64]; omega
theorem places1 (F : Fence) (n : Nat) (hf : F.fn 27) (hro : F.round = none) (hn1 : 1 ≤ n) (ly bs ba bm sl p m : Nat) (hsl : sl ≤ 1) (hp : p + m ≤ 4096)
  (R : Nat → Prop) (J Jx : List (Pl p m) → World → Prop) (W : World) (hJ : AbidesFrom W.heap.size J)
  (hY : ∀ pre x W, J pre W → pre.length < 64 → YieldAt F (n - 1) Tryd.prog ly #[plV sl p x.1] W fun e W' =>
   (e = .returned (.bool true) ∧ J (pre ++ [x]) W' ∧ KpF R W W') ∨ (e = .returned (.bool false) ∧ Jx (pre ++ [x]) W'))
  (hrun : Run W bs ba bm sl p m) (h1 : ¬ R bs) (h2 : ¬ R ba) (h3 : ¬ R bm) (hR : ∀ k, R k → k < W.heap.size) (h0 : J [] W) :
  CallsIn F n Tryd.prog 27 #[.func (.yield ly) #[] #[], .pointer (some ⟨bs, 0, none⟩), .pointer (some ⟨bm, 0, none⟩), .pointer (some ⟨ba, 0, none⟩)] W fun e W' => (∃ v, e = .returned v) ∧
   ((∃ ys : List (Pl p m), nums ys = hits p m 64 ∧ J ys W') ∨ (∃ pre : List (Pl p m), (∃ k, k ≤ 64 ∧ nums pre = hits p m k) ∧ Jx pre W')) := by
 have HRUN := qH hrun
 have HY := qH hY
 have HJ := qH hJ
 have H1 : Hid (¬ R bs) := h1
 have H2 : Hid (¬ R ba) := h2
 have H3 : Hid (¬ R bm) := h3
 have HR := qH hR
 have HP : Hid (p + m ≤ 4096) := hp
 have HS : Hid (sl ≤ 1) := hsl
 have cs := hrun.s
 clear hrun hY hJ h1 h2 h3 hR
 have w1 := pl_w1 hsl
 have w2 := pl_w2 hsl
 refine callsIn_of_wp Tryd.func27 rfl hf ?_ hro
 simp only [Tryd.ntmps27, List.size_toArray, List.length_cons, List.length_nil, Nat.reduceAdd, Nat.reduceSub, Array.replicate_succ, Array.replicate_zero, List.push_toArray, List.append_toArray, List.nil_append, List.cons_append]
 gi_wp2
 clear w1 w2 cs hp hsl
 gi_loopw [6, 7] (fun s6 _ wr => OutP R p m W J s6 wr) (fun s6 _ _ => m + 64 - (intOf s6).toNat)
 case atStart => exact ⟨[], 0, p / 64, rfl, by rw [hits_first _ (by omega)]; rfl, .inl ⟨rfl, rfl⟩, by omega, by have := HP.out; omega, h0, KpF.refl _ _⟩
 case round =>
  obtain ⟨pre, i, j, rfl, hpre, hij, hi, hj, hj2, hk⟩ := hrel
  have HK := qH hk
  have HPRE := qH hpre
  have HIJ := qH hij
  have HJ1 := qH hj2
  have cn := (HRUN.out.kept hk H1.out H2.out H3.out).n
  have ca := (HRUN.out.kept hk H1.out H2.out H3.out).a
  clear hk hpre hij hj2
  by_cases hlt : i < m
  ·have hltI : (i : Int) < (m : Int) := by omega
   obtain ⟨hj64, hhit, hfx⟩ := pl_hit HIJ.out HP.out hlt
   have hlen := pl_len HPRE.out hj64
   obtain ⟨x, hx⟩ : ∃ x : Pl p m, x.1 = j := ⟨⟨j, hj64, hhit⟩, rfl⟩
   obtain ⟨f, hf⟩ : ∃ f, p - 64 * j = f := ⟨_, rfl⟩
   obtain ⟨c, hc⟩ : ∃ c, 3 + 64 * sl + j = c := ⟨_, rfl⟩
   have e0 := pl_e0 (p := p) (i := i) (Nat.le_trans (Nat.add_le_add_left (Nat.le_of_lt hlt) p) (Nat.le_trans HP.out (by decide)))
   have e1 := pl_e1 (m := m) HIJ.out
   have e2 := pl_e2 (m := m) HIJ.out hf
   have e3 := pl_e3 HS.out hj64 hc
   have HI : Hid (i < m) := hlt
   have HF := qH hf
   have HX := qH hx
   have HJ64 : Hid (j < 64) := hj64
   have HHIT := qH hhit
   have hbelow : Below wr.heap.size wr (wr.alloc (.cells #[.int .i64 (c : Int), .int .i64 (f : Int), .int .i64 (i : Int)] 58)) := (Below.refl _ _).alloc (Nat.le_refl _) _
   have HJ2 : Hid (J pre (wr.alloc (.cells #[.int .i64 (c : Int), .int .i64 (f : Int), .int .i64 (i : Int)] 58))) := HJ.out _ _ _ none HJ1.out (World.grownBy_alloc _ _ _) (fun r e => by cases e)
   obtain ⟨fn, tmps, assign, body, hy, hRd⟩ := HY.out pre x _ HJ2.out hlen
   unfold plV at hy
   rw [hx, hf, hc, hfx] at hy
   have HRD := qH hRd
   have hcell : (wr.alloc (.cells #[.int .i64 (c : Int), .int .i64 (f : Int), .int .i64 (i : Int)] 58)).cell? ⟨wr.heap.size, 1, none⟩ = some (.int .i64 (f : Int)) := by simp
   have HCELL := qH hcell
   have HK2 : Hid (KpF R W (wr.alloc (.cells #[.int .i64 (c : Int), .int .i64 (f : Int), .int .i64 (i : Int)] 58))) := HK.out.trans (KpF.alloc R _ _)
   have HNR : Hid (¬ R wr.heap.size) := fun h => absurd (HR.out _ h) (Nat.not_lt.2 HK.out.2)
   clear hRd hx hf hc hfx hj64 hhit hlen hbelow hcell HJ1 HJ2
   gi_wp2
   generalize wr.alloc (.cells #[.int .i64 (c : Int), .int .i64 (f : Int), .int .i64 (i : Int)] 58) = w2 at *
   refine (HRD.out).mono ?_
   rintro e W3 (⟨rfl, hJ3, hK3⟩ | ⟨rfl, hJx3⟩)
   ·have HJ4 := qH hJ3
    have HK4 : Hid (KpF R W W3) := HK2.out.trans hK3
    have d1 : W3.cell? ⟨wr.heap.size, 1, none⟩ = some (.int .i64 (f : Int)) := hK3.1 _ _ HNR.out HCELL.out
    obtain ⟨n1, n2, n3⟩ := pl_next (m := m) HIJ.out HF.out
    have s0 := pl_s0 n1
    have s1 := pl_s (i := i) n1 (by have := HI.out; have := HP.out; omega)
    have N1 : Hid (f < 64) := n1
    have N2 : Hid (0 < i + (64 - f)) := n2
    have N3 := qH n3
    clear hJ3 hK3 hy n1 n2 n3 e0 e1 e2 e3 cn ca
    gi_wp2
    go_roundw
    case rel => exact ⟨pre ++ [x], i + (64 - f), j + 1, by go_num, by rw [nums, List.map_append, hits_hit HHIT.out, ← HPRE.out, ← HX.out]; rfl, .inr ⟨N2.out, N3.out⟩, by have := HI.out; omega, HJ64.out, HJ4.out, HK4.out⟩
    case measure => have := HI.out; have := N1.out; simp [intOf]; omega
   ·gi_wp2
    refine bodyPost_ret (results_none rfl _ _ _) rfl ?_
    exact ⟨⟨_, rfl⟩, .inr ⟨_, ⟨j + 1, HJ64.out, by rw [nums, List.map_append, hits_hit HHIT.out, ← HPRE.out, ← HX.out]; rfl⟩, hJx3⟩⟩
  ·have hltI : ¬ (i : Int) < (m : Int) := by omega
   have HALL := qH (pl_all HIJ.out hlt hj)
   gi_wp2
   go_end0
   exact ⟨⟨_, rfl⟩, .inl ⟨pre, by rw [HALL.out]; exact HPRE.out, HJ1.out⟩⟩
theorem placesStops (F : Fence) (n : Nat) (hf : F.fn 27) (hro : F.round = none) (hn1 : 1 ≤ n) (bs ba bm sl p m : Nat) (hsl : sl ≤ 1) (hp : p + m ≤ 4096) (R : Nat → Prop) (w : World)
  (hrun : Run w bs ba bm sl p m) (h1 : ¬ R bs) (h2 : ¬ R ba) (h3 : ¬ R bm) (hR : ∀ k, R k → k < w.heap.size) :
  SeqStopsK F n Tryd.prog 27 #[.pointer (some ⟨bs, 0, none⟩), .pointer (some ⟨bm, 0, none⟩), .pointer (some ⟨ba, 0, none⟩)] (fun x : Pl p m => #[plV sl p x.1]) (KpF R) (fun ys => nums ys = hits p m 64) (fun pre => ∃ k, k ≤ 64 ∧ nums pre = hits p m k) 64 w := by
 intro ly J Jx W hW hJ hJx hY h0
 exact places1 F n hf hro hn1 ly bs ba bm sl p m hsl hp R J Jx W hJ hY (hrun.kept (R := fun _ => False) (KpF.of_below hW) (fun h => h) (fun h => h) (fun h => h)) h1 h2 h3 (fun k hk => Nat.lt_of_lt_of_le (hR k hk) hW.size) h0
end Go.Proofs.YtopilgedcnbdaaaDoor