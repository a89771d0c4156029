/- The program's iterator over the pieces of a byte slice (words.pieces and the function that it hands back): what it hands to the loop's body, for every body that keeps what the iterator reads. -/
import Derived.RangeFuncNested
import Derived.RangeFuncBound
import Derived.RangeFuncCalls
import Derived.RangeFuncLeaves
import Derived.RangeFuncBox
import Derived.Shelf.Abstract
import Derived.Shelf.RegionOpen
import Derived.WalkKit
import Derived.OwnWalkIn
import Derived.TacticsInMore
import Derived.LoopNIn
import Derived.LoopIn
import Derived.Test.YtpknclidladncaaBytes
namespace Go.Proofs.Ytpknclidladncaa
open Go.RowKit Go.Shelf
set_option linter.unusedVariables false
attribute [local go_sem] Oper.semAt_some

/-- The pieces of n bytes of a row, n from 1 on. -/
def chop (n : Nat) (bs : List UInt8) : List (List UInt8) :=
  if h : n = 0 ∨ bs.length = 0 then [] else bs.take n :: chop n (bs.drop n)
  termination_by bs.length
  decreasing_by simp; omega
theorem chop_nil (n : Nat) : chop n [] = [] := by rw [chop]; simp
theorem chop_cons {n : Nat} {bs : List UInt8} (hn : 0 < n) (hb : 0 < bs.length) : chop n bs = bs.take n :: chop n (bs.drop n) := by
  rw [chop, dif_neg (by omega)]
/-- Cut's answer for any int. -/
def chopI (k : Int) (bs : List UInt8) : List (List UInt8) := if k < 1 then [] else chop k.toNat bs

/-- What a round is handed: a slice of at most N bytes, and what it reads as. -/
abbrev Piece (W0 : World) (n0 N : Nat) := { x : Value × List UInt8 // ∃ A m c, x.1 = .slice A m c ∧ 0 < m ∧ m ≤ N ∧ Rd W0 n0 A m x.2 }

/-- What a round keeps: all below n0, and the blocks between n0 and B2. -/
def KpX (n0 B2 : Nat) (W W' : World) : Prop := Below n0 W W' ∧ ∀ k, n0 < k → k < B2 → W'.heap[k]? = W.heap[k]?
theorem KpX.refl (n0 B2 : Nat) (W : World) : KpX n0 B2 W W := ⟨Below.refl _ _, fun _ _ _ => rfl⟩
theorem KpX.trans {n0 B2 : Nat} {A B C : World} (h : KpX n0 B2 A B) (k : KpX n0 B2 B C) : KpX n0 B2 A C := ⟨h.1.trans k.1, fun i h1 h2 => (k.2 i h1 h2).trans (h.2 i h1 h2)⟩
theorem KpX.cell {n0 B2 : Nat} {W W' : World} (h : KpX n0 B2 W W') {p : Addr} (h1 : n0 < p.block) (h2 : p.block < B2) : W'.cell? p = W.cell? p := World.cell?_of_block (h.2 _ h1 h2)
theorem KpX.book {n0 B2 : Nat} {w : World} (hn : n0 ≤ w.heap.size) (hB : B2 ≤ w.heap.size) (W : World) (l : Nat) (o o' : Obj) (hl : w.heap.size ≤ l) (h : W.heap[l]? = some o) (h1 : o.isCells = false) (h2 : o.isWalk = false) : KpX n0 B2 W (W.putObj l o') :=
  ⟨belowK_b hn W l o o' hl h h1 h2, fun k _ hk => World.putObj_heap_other (by omega)⟩

theorem piecesIn (F : Fence) (n : Nat) (h32 : F.fn 32) (hro : F.round = none) (A : Option Addr) (len cap : Nat) (k : Int) (w : World) :
    CallsIn F n Try.prog 32 #[.slice A len cap, .int .i64 k] w fun e w' => e = .returned (.func (.func 35) #[] #[.pointer (some ⟨w.heap.size + 1, 0, none⟩), .pointer (some ⟨w.heap.size, 0, none⟩)]) ∧
      w' = (w.alloc (.cells #[.slice A len cap] 23)).alloc (.cells #[.int .i64 k] 3) := by
  refine callsIn_of_wp Try.func32 rfl h32 ?_ hro
  simp only [Try.ntmps32, List.size_toArray, List.length_cons, List.length_nil, Nat.reduceAdd, Nat.reduceSub, Array.replicate_succ, Array.replicate_zero, List.push_toArray, List.append_toArray, List.nil_append, List.cons_append]
  gi_wp2
  go_ret
  exact ⟨rfl, rfl⟩

/-- What the iterator knows at its loop's head. -/
def IterRel (n0 B2 N len kn : Nat) (b o : Nat) (W0 W : World) (bs : List UInt8) (J : List (Piece W0 n0 N) → World → Prop) (p : Value) (wr : World) : Prop :=
  ∃ (pre : List (Piece W0 n0 N)) (A : Option Addr) (m c off : Nat), p = .slice A m c ∧ m ≤ c ∧ c ≤ 9223372036854775807 ∧ (0 < m → A = some ⟨b, o + off, none⟩) ∧ off + m = len ∧
    pre.map (·.1.2) ++ chop kn (bs.drop off) = chop kn bs ∧ pre.length + m ≤ len ∧ J pre wr ∧ KpX n0 B2 W wr

set_option maxRecDepth 100000 in
set_option maxHeartbeats 2000000 in
theorem pieces1 (F : Fence) (n : Nat) (h35 : F.fn 35) (hro : F.round = none) (hn1 : 1 ≤ n) (l Bn Bb n0 B2 len cap : Nat) (A : Option Addr) (kn : Nat) (hkn : 1 ≤ kn) (hkn' : kn ≤ 9223372036854775807) (bs : List UInt8) (W0 : World)
    (J Jx : List (Piece W0 n0 len) → World → Prop)
    (hY : ∀ pre x W, J pre W → pre.length < len → YieldAt F (n - 1) Try.prog l #[x.1.1] W fun e W' =>
      (e = .returned (.bool true) ∧ J (pre ++ [x]) W' ∧ KpX n0 B2 W W') ∨ (e = .returned (.bool false) ∧ Jx (pre ++ [x]) W'))
    (W : World) (hBn : W.cell? ⟨Bn, 0, none⟩ = some (.int .i64 (kn : Int))) (hBb : W.cell? ⟨Bb, 0, none⟩ = some (.slice A len cap)) (h1 : n0 < Bn) (h2 : Bn < B2)
    (hR : Rd W0 n0 A len bs) (hlc : len ≤ cap) (hcap : cap ≤ 9223372036854775807) (h0 : J [] W) :
    CallsIn F n Try.prog 35 #[.func (.yield l) #[] #[], .pointer (some ⟨Bn, 0, none⟩), .pointer (some ⟨Bb, 0, none⟩)] W fun e W' => (∃ v, e = .returned v) ∧
      ((∃ ys : List (Piece W0 n0 len), ys.map (·.1.2) = chop kn bs ∧ J ys W') ∨ (∃ pre, True ∧ Jx pre W')) := by
  obtain ⟨b, o, hA⟩ : ∃ b o, 0 < len → A = some ⟨b, o, none⟩ := by
    rcases Nat.eq_zero_or_pos len with h | h
    · exact ⟨0, 0, fun h' => by omega⟩
    · obtain ⟨b, o, e, _⟩ := hR.2 h; exact ⟨b, o, fun _ => e⟩
  have HR := Lib.hid hR
  have HY := Lib.hid hY
  have HA := Lib.hid hA
  clear hR hY hA
  refine callsIn_of_wp Try.func35 rfl h35 ?_ hro
  simp only [Try.ntmps35, List.size_toArray, List.length_cons, List.length_nil, Nat.reduceAdd, Nat.reduceSub, Array.replicate_succ, Array.replicate_zero, List.push_toArray, List.append_toArray, List.nil_append, List.cons_append]
  gi_wp2
  gi_loopw [4] (fun p wr => IterRel n0 B2 len len kn b o W0 W bs J p wr) (fun p _ => match p with | .slice _ m _ => m | _ => 0)
  case atStart => exact ⟨[], A, len, cap, 0, rfl, hlc, hcap, fun h => HA.out h, by omega, by simp, by simp, h0, KpX.refl _ _ _⟩
  case round =>
    obtain ⟨pre, A', m, c, off, rfl, hmc, hc, hA', hoff, hpre, hplen, hJ, hK⟩ := hrel
    by_cases hm : 0 < m
    · obtain rfl := hA' hm
      have hcn : wr.cell? ⟨Bn, 0, none⟩ = some (.int .i64 (kn : Int)) := (hK.cell (p := ⟨Bn, 0, none⟩) h1 h2).trans hBn
      have hlen := HR.out.1
      have hcut : ∀ s, s ≤ m → Rd W0 n0 (some ⟨b, o + off, none⟩) s ((bs.drop off).take s) := fun s hs => by
        have hr := HR.out
        obtain rfl : A = some ⟨b, o, none⟩ := HA.out (by omega)
        have := hr.cut (l := off) (k := off + s) (by omega) (by omega)
        rw [Nat.add_sub_cancel_left, List.drop_take, Nat.add_sub_cancel_left] at this
        exact this
      have hdl : (bs.drop off).length = m := by rw [List.length_drop, hlen]; omega
      have hpos : 0 < kn := by omega
      obtain ⟨s, hmin, hs0, hsm, hsk⟩ : ∃ s : Nat, min (kn : Int) (m : Int) = (s : Int) ∧ 0 < s ∧ s ≤ m ∧ (s = kn ∨ s = m ∧ m < kn) := by
        rcases Nat.lt_or_ge m kn with h | h
        · exact ⟨m, by omega, hm, by omega, .inr ⟨rfl, h⟩⟩
        · exact ⟨kn, by omega, hpos, h, .inl rfl⟩
      have htk : (bs.drop off).take kn = (bs.drop off).take s := by
        rcases hsk with h | ⟨h, h'⟩
        · rw [h]
        · rw [List.take_of_length_le (by omega), List.take_of_length_le (by omega)]
      have hdk : bs.drop (off + kn) = bs.drop (off + s) := by
        rcases hsk with h | ⟨h, h'⟩
        · rw [h]
        · rw [List.drop_of_length_le (by omega), List.drop_of_length_le (by omega)]
      have hchop : chop kn (bs.drop off) = (bs.drop off).take s :: chop kn (bs.drop (off + s)) := by
        rw [chop_cons hpos (by omega), List.drop_drop, htk, hdk]
      obtain ⟨x, hx1, hx2⟩ : ∃ x : Piece W0 n0 len, x.1.1 = .slice (some ⟨b, o + off, none⟩) s c ∧ x.1.2 = (bs.drop off).take s :=
        ⟨⟨(.slice (some ⟨b, o + off, none⟩) s c, (bs.drop off).take s), _, s, c, rfl, hs0, by omega, hcut s hsm⟩, rfl, rfl⟩
      obtain ⟨fn, tmps, assign, body, hy, hRd⟩ := HY.out pre x wr hJ (by omega)
      rw [hx1] at hy
      have hN : (pre ++ [x]).map (·.1.2) ++ chop kn (bs.drop (off + s)) = chop kn bs := by
        rw [List.map_append, List.append_assoc, ← hpre, hchop]
        simp [hx2]
      have HN := Lib.hid hN
      clear hN hcut hx1 hx2 htk hdk hchop hdl hpre hlen hsk
      gi_wp2
      refine hRd.mono ?_
      rintro e W3 (⟨rfl, hJ3, hK3⟩ | ⟨rfl, hJx3⟩)
      · by_cases hcs : c = s
        · obtain rfl : m = s := by omega
          subst hcs
          clear hmin
          gi_wp2
          go_roundw
          case rel => exact ⟨pre ++ [x], _, 0, _, off + c, rfl, by omega, by omega, fun h => by omega, by omega, HN.out, by simp; omega, hJ3, hK.trans hK3⟩
          case measure => dsimp only; omega
        · have hcs' : ¬ c ≤ s := by omega
          gi_wp2
          go_roundw
          case rel => exact ⟨pre ++ [x], _, m - s, c - s, off + s, rfl, by omega, by omega, fun h => by rw [Nat.add_assoc], by omega, HN.out, by simp; omega, hJ3, hK.trans hK3⟩
          case measure => dsimp only; omega
      · gi_wp2
        refine bodyPost_ret (results_none rfl _ _ _) rfl ?_
        exact ⟨⟨_, rfl⟩, .inr ⟨_, trivial, hJx3⟩⟩
    · obtain rfl : m = 0 := by omega
      gi_wp2
      go_end0
      refine ⟨⟨_, rfl⟩, .inl ⟨pre, ?_, hJ⟩⟩
      rw [← hpre, List.drop_of_length_le (by rw [HR.out.1]; omega), chop_nil, List.append_nil]

set_option maxRecDepth 100000 in
set_option maxHeartbeats 1000000 in
/-- n below 1: no round. -/
theorem pieces0 (F : Fence) (n : Nat) (h35 : F.fn 35) (hro : F.round = none) (l Bn Bb : Nat) (k : Int) (hk : k < 1) {α : Type} (J : List α → World → Prop) (W : World) (hBn : W.cell? ⟨Bn, 0, none⟩ = some (.int .i64 k)) (h0 : J [] W) :
    CallsIn F n Try.prog 35 #[.func (.yield l) #[] #[], .pointer (some ⟨Bn, 0, none⟩), .pointer (some ⟨Bb, 0, none⟩)] W fun e W' => (∃ v, e = .returned v) ∧ J [] W' := by
  refine callsIn_of_wp Try.func35 rfl h35 ?_ hro
  simp only [Try.ntmps35, List.size_toArray, List.length_cons, List.length_nil, Nat.reduceAdd, Nat.reduceSub, Array.replicate_succ, Array.replicate_zero, List.push_toArray, List.append_toArray, List.nil_append, List.cons_append]
  gi_wp2
  refine bodyPost_ret (results_none rfl _ _ _) rfl ?_
  exact ⟨⟨_, rfl⟩, h0⟩

/-- What 'pieces(b, k)' hands back gives the pieces of b, or a part of them. -/
theorem piecesStops (F : Fence) (n : Nat) (h35 : F.fn 35) (hro : F.round = none) (hn1 : 1 ≤ n) (Bn Bb n0 B2 len cap : Nat) (A : Option Addr) (k : Int) (hk' : k ≤ 9223372036854775807) (bs : List UInt8) (w : World)
    (hBn : w.cell? ⟨Bn, 0, none⟩ = some (.int .i64 k)) (hBb : w.cell? ⟨Bb, 0, none⟩ = some (.slice A len cap)) (h1 : n0 < Bn) (h2 : Bn < B2) (h3 : Bn < w.heap.size) (h4 : Bb < w.heap.size)
    (hR : Rd w n0 A len bs) (hlc : len ≤ cap) (hcap : cap ≤ 9223372036854775807) :
    SeqStopsK F n Try.prog 35 #[.pointer (some ⟨Bn, 0, none⟩), .pointer (some ⟨Bb, 0, none⟩)] (fun x : Piece w n0 len => #[x.1.1]) (KpX n0 B2) (fun ys => ys.map (·.1.2) = chopI k bs) (fun _ => True) len w := by
  intro l J Jx W hW hJ hJx hY h0
  have c1 := (hW.cell (p := ⟨Bn, 0, none⟩) h3).trans hBn
  have c2 := (hW.cell (p := ⟨Bb, 0, none⟩) h4).trans hBb
  by_cases hk : k < 1
  · refine (pieces0 F n h35 hro l Bn Bb k hk J W c1 h0).mono ?_
    rintro e W' ⟨he, hj⟩
    exact ⟨he, .inl ⟨[], by rw [chopI, if_pos hk]; rfl, hj⟩⟩
  · obtain ⟨kn, rfl⟩ := Int.eq_ofNat_of_zero_le (show 0 ≤ k by omega)
    refine (pieces1 F n h35 hro hn1 l Bn Bb n0 B2 len cap A kn (by omega) (by omega) bs w J Jx hY W c1 c2 h1 h2 hR hlc hcap h0).mono ?_
    rintro e W' ⟨he, ⟨ys, hys, hj⟩ | hx⟩
    · exact ⟨he, .inl ⟨ys, by rw [chopI, if_neg hk, Int.toNat_natCast]; exact hys, hj⟩⟩
    · exact ⟨he, .inr hx⟩
end Go.Proofs.Ytpknclidladncaa
