/- Several texts in one (a claim has 60 files at most): RegM, Reg, Win, ChM, ChO, CfO, CfW, SchM, CfLa, OwK, ChS, ChP. -/
import Derived.Test.YtlmdidblgeeplaaGreatDoorTz
import Derived.Lib.SlBy
import Derived.Test.YtlmdidblgeeplaaGreatDoorPPadx
import Derived.Test.YtlmdidblgeeplaaGreatDoorChecked
import Derived.Deep.Slices
import Derived.Deep.Fields
import Derived.ChangeSame
import Derived.SizedLaws
import Derived.Test.YtlmdidblgeeplaaGreatDoorPInvRx
import Derived.Deep.Cut
import Derived.Deep.RegionHeld
namespace Go.Proofs.YtlmdidblgeeplaaGreatDoor
set_option maxRecDepth 1000000
set_option maxHeartbeats 8000000
set_option linter.unusedVariables false
set_option linter.unusedSimpArgs false
section
abbrev Reg := Int × Int
def mayR (r : Reg) : Bool := decide (16 ≤ r.2 ∧ r.2 ≤ 512 ∧ r.2 % 4 = 0 ∧ 0 ≤ r.1 ∧ r.1 % 4 = 0 ∧ r.1 ≤ 4096 - r.2)
def endR (r : Reg) : Int := if mayR r = true then r.1 + r.2 else 0
def hasR (r : Reg) (t : Int) : Bool := mayR r && (decide (r.1 ≤ t) && decide (t < r.1 + r.2))
def apartR (a b : Reg) : Bool := mayR a && (mayR b && (decide (a.1 + a.2 ≤ b.1) || decide (b.1 + b.2 ≤ a.1)))
def allR (l : List Reg) : Int := if (l.any fun r => !mayR r) = true then 2 else if l.Pairwise (fun a b => apartR a b = true) then 0 else 121
theorem mayR_iff {r : Reg} : mayR r = true ↔ 16 ≤ r.2 ∧ r.2 ≤ 512 ∧ r.2 % 4 = 0 ∧ 0 ≤ r.1 ∧ r.1 % 4 = 0 ∧ r.1 ≤ 4096 - r.2 := decide_eq_true_iff
theorem endR_may {r : Reg} (h : mayR r = true) : endR r = r.1 + r.2 := if_pos h
theorem apartR_iff {a b : Reg} : apartR a b = true ↔ mayR a = true ∧ mayR b = true ∧ (a.1 + a.2 ≤ b.1 ∨ b.1 + b.2 ≤ a.1) := by
 simp [apartR]
theorem hasR_iff {r : Reg} {t : Int} : hasR r t = true ↔ mayR r = true ∧ r.1 ≤ t ∧ t < r.1 + r.2 := by simp [hasR]
theorem apartR_symm (a b : Reg) : apartR a b = apartR b a := by
 rw [Bool.eq_iff_iff, apartR_iff, apartR_iff]
 constructor <;> (rintro ⟨h1, h2, h3⟩; exact ⟨h2, h1, h3.symm⟩)
theorem allR_2 {l : List Reg} (h : (l.any fun r => !mayR r) = true) : allR l = 2 := if_pos h
theorem allR_of {l : List Reg} (h : (l.any fun r => !mayR r) = false) : allR l = if l.Pairwise (fun a b => apartR a b = true) then 0 else 121 := by
 unfold allR; rw [if_neg (by rw [h]; decide)]
theorem allR_zero {l : List Reg} : allR l = 0 ↔ (∀ r ∈ l, mayR r = true) ∧ l.Pairwise (fun a b => apartR a b = true) := by
 unfold allR
 by_cases h : (l.any fun r => !mayR r) = true
 ·rw [if_pos h]
  obtain ⟨r, hr, hn⟩ := List.any_eq_true.1 h
  constructor
  ·intro h; cases h
  ·rintro ⟨h1, _⟩
   rw [h1 r hr] at hn; cases hn
 ·rw [if_neg h]
  have hm : ∀ r ∈ l, mayR r = true := by
   intro r hr
   cases hq : mayR r
   ·exact absurd (List.any_eq_true.2 ⟨r, hr, by rw [hq]; rfl⟩) h
   ·rfl
  by_cases hp : l.Pairwise (fun a b => apartR a b = true)
  ·rw [if_pos hp]; exact ⟨fun _ => ⟨hm, hp⟩, fun _ => rfl⟩
  ·rw [if_neg hp]
   constructor
   ·intro h; cases h
   ·rintro ⟨_, h2⟩; exact absurd h2 hp
def reg0 : Reg := (0, 0)
def rat (l : List Reg) (k : Nat) : Reg := l.getD k reg0
theorem rat_lt {l : List Reg} {k : Nat} (h : k < l.length) : rat l k = l[k] := by simp [rat, List.getD, List.getElem?_eq_getElem h]
theorem rat_mem {l : List Reg} {k : Nat} (h : k < l.length) : rat l k ∈ l := by rw [rat_lt h]; exact List.getElem_mem h
theorem any_false_iff {l : List Reg} : (l.any fun r => !mayR r) = false ↔ ∀ k, k < l.length → mayR (rat l k) = true := by
 rw [List.any_eq_false]
 constructor
 ·intro h k hk
  have := h _ (rat_mem hk)
  simpa using this
 ·intro h r hr
  obtain ⟨k, hk, rfl⟩ := List.getElem_of_mem hr
  have := h k hk
  rw [rat_lt hk] at this
  simp [this]
theorem pair_iff {l : List Reg} : l.Pairwise (fun a b => apartR a b = true) ↔ ∀ i, i < l.length → ∀ k, k < i → apartR (rat l k) (rat l i) = true := by
 rw [List.pairwise_iff_getElem]
 constructor
 ·intro h i hi k hk
  rw [rat_lt hi, rat_lt (by omega)]
  exact h k i (by omega) hi hk
 ·intro h k i hk hi hki
  have := h i hi k hki
  rwa [rat_lt hi, rat_lt hk] at this
theorem allR_121 {l : List Reg} (h : (l.any fun r => !mayR r) = false) {i k : Nat} (hi : i < l.length) (hk : k < i) (hn : apartR (rat l k) (rat l i) = false) : allR l = 121 := by
 rw [allR_of h, if_neg]
 intro hp
 rw [pair_iff.1 hp i hi k hk] at hn
 cases hn
theorem rat_bang {l : List Reg} {k : Nat} (h : k < l.length) : l[k]! = rat l k := by rw [rat_lt h]; simp [h]
end
section
open Go.RowKit Go.ChangeShapes Go.WideShapes Go.Deep
def regL (r : Reg) : List Value := [.int .i64 r.1, .int .i64 r.2]
def RdG (w : World) (B : Nat) (A : Option Addr) (n : Nat) (l : List Reg) : Prop :=
 l.length = n ∧ (0 < n → ∃ b o, A = some ⟨b, o, none⟩ ∧ b < B ∧ ∀ j, j < n → w.cell? ⟨b, o + j * 2, none⟩ = some (.int .i64 (rat l j).1) ∧ w.cell? ⟨b, o + j * 2 + 1, none⟩ = some (.int .i64 (rat l j).2))
theorem RdG.nil (w : World) (B : Nat) (A : Option Addr) : RdG w B A 0 [] := ⟨rfl, fun h => absurd h (Nat.lt_irrefl 0)⟩
theorem RdG.below {w w' : World} {B n : Nat} {A : Option Addr} {l : List Reg} (h : RdG w B A n l) (hb : Below B w w') : RdG w' B A n l :=
 ⟨h.1, fun hn => by
  obtain ⟨b, o, e, hB, hc⟩ := h.2 hn
  exact ⟨b, o, e, hB, fun j hj => ⟨(hb.cell (by exact hB)).trans (hc j hj).1, (hb.cell (by exact hB)).trans (hc j hj).2⟩⟩⟩
theorem RdG.more {w : World} {B B' n : Nat} {A : Option Addr} {l : List Reg} (h : RdG w B A n l) (hB : B ≤ B') : RdG w B' A n l :=
 ⟨h.1, fun hn => by
  obtain ⟨b, o, e, hb, hc⟩ := h.2 hn
  exact ⟨b, o, e, by omega, hc⟩⟩
theorem RdG.to {w w' : World} {n : Nat} {A : Option Addr} {l : List Reg} (h : RdG w w.heap.size A n l) (hb : Below w.heap.size w w') : RdG w' w'.heap.size A n l := (h.below hb).more hb.size
theorem cell_in {W : World} {p : Addr} {v : Value} (h : W.cell? p = some v) : p.block < W.heap.size := by
 rcases Nat.lt_or_ge p.block W.heap.size with g | g
 ·exact g
 ·have e : W.cell? p = none := by simp [World.cell?, Array.getElem?_eq_none g]
  rw [e] at h; cases h
theorem Below.kept {W W' : World} {p : Addr} {v : Value} (hb : Below W.heap.size W W') (h : W.cell? p = some v) : W'.cell? p = some v := (hb.cell (cell_in h)).trans h
theorem RdG.shelf {w : World} {n b o : Nat} {l : List Reg} (hl : l.length = n) (hc : ∀ j, j < n → w.cell? ⟨b, o + j * 2, none⟩ = some (.int .i64 (rat l j).1) ∧ w.cell? ⟨b, o + j * 2 + 1, none⟩ = some (.int .i64 (rat l j).2)) :
  ∀ j, j < l.length → ∀ i v, (regL l[j]!)[i]? = some v → w.cell? ⟨b, o + j * 2 + i, none⟩ = some v := by
 intro j hj i v hv
 have h1 := hc j (by omega)
 rw [rat_bang hj] at hv
 match i, hv with
 | 0, hv => simp [regL] at hv; rw [← hv]; exact h1.1
 | 1, hv => simp [regL] at hv; rw [← hv]; exact h1.2
 | i + 2, hv => simp [regL] at hv
theorem addr_add (b o k : Nat) : (⟨b, o, none⟩ : Addr).add k = ⟨b, o + k, none⟩ := by unfold Addr.add; split <;> simp_all
section
variable {H : Type} {enc : TypeId × Value → H} {W : World} {base : Nat} {held : Bool}
theorem trod_reg {n : Nat} {cs : List Value} {x : DataW H × List MemPlace} (h : DataW.trod enc Tryz.prog W base (fun _ => true) held n 56 cs = some x) :
  ∃ r : Reg, cs = regL r ∧ (Lit.int .i64 r.1).wf = true ∧ (Lit.int .i64 r.2).wf = true := by
 obtain ⟨xs, k, rfl, hxx, hl, hxl, hf⟩ := DataW.trod_struct Tryz.underlying56 h
 have hl3 : cs.length = 2 := by rw [hl]; kernel_rfl
 have e1 : Tryz.prog.cellsOf 3 = 1 := by kernel_rfl
 have h0 : DataW.trod enc Tryz.prog W base (fun _ => true) held k 3 ((cs.drop 0).take (Tryz.prog.cellsOf 3)) = xs[0]? := hf 0 _ rfl
 have h2 : DataW.trod enc Tryz.prog W base (fun _ => true) held k 3 ((cs.drop 1).take (Tryz.prog.cellsOf 3)) = xs[1]? := hf 1 _ rfl
 have hx3 : xs.length = 2 := hxl
 rw [e1, List.getElem?_eq_getElem (by omega)] at h0 h2
 match cs, hl3 with
 | [c0, c2], hl3 =>
  simp only [List.drop_succ_cons, List.drop_zero, List.take_succ_cons, List.take_zero] at h0 h2
  obtain ⟨z0, g0, _, w0⟩ := DataW.trod_int Tryz.underlying3 h0
  obtain ⟨z2, g2, _, w2⟩ := DataW.trod_int Tryz.underlying3 h2
  simp only [List.cons.injEq, and_true] at g0 g2
  subst g0; subst g2
  exact ⟨(z0, z2), rfl, w0, w2⟩
end
end
section
open Go.RowKit Go.ChangeShapes Go.WideShapes Go.Deep
section
variable {H : Type} {enc : TypeId × Value → H} {W : World} {base : Nat} {held : Bool}
theorem trod_win {n : Nat} {cs : List Value} {x : DataW H × List MemPlace} (h : DataW.trod enc Tryz.prog W base (fun _ => true) held n 82 cs = some x) :
  ∃ r : Reg, cs = regL r ∧ (Lit.int .i64 r.1).wf = true ∧ (Lit.int .i64 r.2).wf = true := by
 obtain ⟨xs, k, rfl, hxx, hl, hxl, hf⟩ := DataW.trod_struct Tryz.underlying82 h
 have hl3 : cs.length = 2 := by rw [hl]; kernel_rfl
 have e1 : Tryz.prog.cellsOf 3 = 1 := by kernel_rfl
 have h0 : DataW.trod enc Tryz.prog W base (fun _ => true) held k 3 ((cs.drop 0).take (Tryz.prog.cellsOf 3)) = xs[0]? := hf 0 _ rfl
 have h2 : DataW.trod enc Tryz.prog W base (fun _ => true) held k 3 ((cs.drop 1).take (Tryz.prog.cellsOf 3)) = xs[1]? := hf 1 _ rfl
 have hx3 : xs.length = 2 := hxl
 rw [e1, List.getElem?_eq_getElem (by omega)] at h0 h2
 match cs, hl3 with
 | [c0, c2], hl3 =>
  simp only [List.drop_succ_cons, List.drop_zero, List.take_succ_cons, List.take_zero] at h0 h2
  obtain ⟨z0, g0, _, w0⟩ := DataW.trod_int Tryz.underlying3 h0
  obtain ⟨z2, g2, _, w2⟩ := DataW.trod_int Tryz.underlying3 h2
  simp only [List.cons.injEq, and_true] at g0 g2
  subst g0; subst g2
  exact ⟨(z0, z2), rfl, w0, w2⟩
end
end
section
open Go.RowKit
structure Ch where
 id : Int
 fr : Int
 dst : Int
 cap : Int
 size : Int
deriving DecidableEq
def Ch.zero : Ch := ⟨0, 0, 0, 0, 0⟩
def chL (c : Ch) : List Value := [.int .i64 c.id, .int .i64 c.fr, .int .i64 c.dst, .int .i64 c.cap, .int .i64 c.size]
def mayC (c : Ch) : Bool := decide (1 ≤ c.id ∧ c.id ≤ 8 ∧ 1 ≤ c.fr ∧ c.fr ≤ 6 ∧ 1 ≤ c.dst ∧ c.dst ≤ 6 ∧ c.fr ≠ c.dst ∧ 1 ≤ c.cap ∧ c.cap ≤ 4 ∧ 1 ≤ c.size ∧ c.size ≤ 16)
theorem mayC_iff {c : Ch} : mayC c = true ↔ 1 ≤ c.id ∧ c.id ≤ 8 ∧ 1 ≤ c.fr ∧ c.fr ≤ 6 ∧ 1 ≤ c.dst ∧ c.dst ≤ 6 ∧ c.fr ≠ c.dst ∧ 1 ≤ c.cap ∧ c.cap ≤ 4 ∧ 1 ≤ c.size ∧ c.size ≤ 16 := by simp [mayC]
def chAt (l : List Ch) (j : Nat) : Ch := l.getD j Ch.zero
theorem chAt_lt {l : List Ch} {j : Nat} (h : j < l.length) : chAt l j = l[j] := by simp [chAt, List.getD, List.getElem?_eq_getElem h]
def ascC (l : List Ch) : Prop := ∀ j, j + 1 < l.length → (chAt l j).id < (chAt l (j + 1)).id
open Classical in
noncomputable def allE (l : List Ch) : Int := if l.any (fun c => !mayC c) then 2 else if ascC l then 0 else 100
end
section
open Go.RowKit Go.ChangeShapes Go.WideShapes Go.Deep
structure ChWf (c : Ch) : Prop where
 id : -9223372036854775808 ≤ c.id ∧ c.id ≤ 9223372036854775807
 fr : -9223372036854775808 ≤ c.fr ∧ c.fr ≤ 9223372036854775807
 dst : -9223372036854775808 ≤ c.dst ∧ c.dst ≤ 9223372036854775807
 cap : -9223372036854775808 ≤ c.cap ∧ c.cap ≤ 9223372036854775807
 size : -9223372036854775808 ≤ c.size ∧ c.size ≤ 9223372036854775807
def RdC (w : World) (B : Nat) (A : Option Addr) (n : Nat) (l : List Ch) : Prop :=
 l.length = n ∧ (0 < n → ∃ b o, A = some ⟨b, o, none⟩ ∧ b < B ∧ ∀ j, j < n → ∀ i v, (chL (chAt l j))[i]? = some v → w.cell? ⟨b, o + j * 5 + i, none⟩ = some v)
theorem RdC.below {w w' : World} {B n : Nat} {A : Option Addr} {l : List Ch} (h : RdC w B A n l) (hb : Below B w w') : RdC w' B A n l :=
 ⟨h.1, fun hn => by
  obtain ⟨b, o, e, hB, hc⟩ := h.2 hn
  exact ⟨b, o, e, hB, fun j hj i v hv => (hb.cell (p := ⟨b, _, none⟩) hB).trans (hc j hj i v hv)⟩⟩
theorem RdC.to {w w' : World} {n : Nat} {A : Option Addr} {l : List Ch} (h : RdC w w.heap.size A n l) (hb : Below w.heap.size w w') : RdC w' w'.heap.size A n l := by
 have h' := h.below hb
 exact ⟨h'.1, fun hn => by obtain ⟨b, o, e, hB, hc⟩ := h'.2 hn; exact ⟨b, o, e, Nat.lt_of_lt_of_le hB hb.size, hc⟩⟩
theorem RdC.at_ {w : World} {B n j : Nat} {A : Option Addr} {l : List Ch} (h : RdC w B A n l) (hj : j < n) : ∃ b o, A = some ⟨b, o, none⟩ ∧
  w.cell? ⟨b, o + j * 5, none⟩ = some (.int .i64 (chAt l j).id) ∧ w.cell? ⟨b, o + j * 5 + 1, none⟩ = some (.int .i64 (chAt l j).fr) ∧ w.cell? ⟨b, o + j * 5 + 2, none⟩ = some (.int .i64 (chAt l j).dst) ∧
  w.cell? ⟨b, o + j * 5 + 3, none⟩ = some (.int .i64 (chAt l j).cap) ∧ w.cell? ⟨b, o + j * 5 + 4, none⟩ = some (.int .i64 (chAt l j).size) := by
 obtain ⟨b, o, e, _, hc⟩ := h.2 (by omega)
 exact ⟨b, o, e, hc j hj 0 _ rfl, hc j hj 1 _ rfl, hc j hj 2 _ rfl, hc j hj 3 _ rfl, hc j hj 4 _ rfl⟩
section
variable {H : Type} {enc : TypeId × Value → H} {W : World} {base : Nat} {held : Bool}
theorem trod_ch {n : Nat} {cs : List Value} {x : DataW H × List MemPlace} (h : DataW.trod enc Tryz.prog W base (fun _ => true) held n 130 cs = some x) :
  ∃ c : Ch, cs = chL c ∧ ChWf c := by
 obtain ⟨xs, k, rfl, hxx, hl, hxl, hf⟩ := DataW.trod_struct Tryz.underlying130 h
 have hl3 : cs.length = 5 := by rw [hl]; kernel_rfl
 have e1 : Tryz.prog.cellsOf 3 = 1 := by kernel_rfl
 have h0 : DataW.trod enc Tryz.prog W base (fun _ => true) held k 3 ((cs.drop 0).take (Tryz.prog.cellsOf 3)) = xs[0]? := hf 0 _ rfl
 have h1 : DataW.trod enc Tryz.prog W base (fun _ => true) held k 3 ((cs.drop 1).take (Tryz.prog.cellsOf 3)) = xs[1]? := hf 1 _ rfl
 have h2 : DataW.trod enc Tryz.prog W base (fun _ => true) held k 3 ((cs.drop 2).take (Tryz.prog.cellsOf 3)) = xs[2]? := hf 2 _ rfl
 have h3 : DataW.trod enc Tryz.prog W base (fun _ => true) held k 3 ((cs.drop 3).take (Tryz.prog.cellsOf 3)) = xs[3]? := hf 3 _ rfl
 have h4 : DataW.trod enc Tryz.prog W base (fun _ => true) held k 3 ((cs.drop 4).take (Tryz.prog.cellsOf 3)) = xs[4]? := hf 4 _ rfl
 have hx3 : xs.length = 5 := hxl
 rw [e1, List.getElem?_eq_getElem (by omega)] at h0 h1 h2 h3 h4
 match cs, hl3 with
 | [c0, c1, c2, c3, c4], hl3 =>
  simp only [List.drop_succ_cons, List.drop_zero, List.take_succ_cons, List.take_zero] at h0 h1 h2 h3 h4
  obtain ⟨z0, g0, _, w0⟩ := DataW.trod_int Tryz.underlying3 h0
  obtain ⟨z1, g1, _, w1⟩ := DataW.trod_int Tryz.underlying3 h1
  obtain ⟨z2, g2, _, w2⟩ := DataW.trod_int Tryz.underlying3 h2
  obtain ⟨z3, g3, _, w3⟩ := DataW.trod_int Tryz.underlying3 h3
  obtain ⟨z4, g4, _, w4⟩ := DataW.trod_int Tryz.underlying3 h4
  simp only [List.cons.injEq, and_true] at g0 g1 g2 g3 g4
  subst g0; subst g1; subst g2; subst g3; subst g4
  exact ⟨⟨z0, z1, z2, z3, z4⟩, rfl, wf_i64 w0, wf_i64 w1, wf_i64 w2, wf_i64 w3, wf_i64 w4⟩
end
end
section
open Go.RowKit Go.ChangeShapes Go.WideShapes Go.Deep
structure Pt where
 id : Int
 base : Int
 size : Int
 keep : Bool
 img : List UInt8
deriving DecidableEq
def Pt.zero : Pt := ⟨0, 0, 0, false, []⟩
def ptAt (l : List Pt) (j : Nat) : Pt := l.getD j Pt.zero
theorem ptAt_lt {l : List Pt} {j : Nat} (h : j < l.length) : ptAt l j = l[j] := by simp [ptAt, List.getD, List.getElem?_eq_getElem h]
def ptL (p : Pt) (A : Option Addr) (m c : Nat) : List Value := [.int .i64 p.id, .int .i64 p.base, .int .i64 p.size, .bool p.keep, .slice A m c]
structure Cf where
 ws : List Reg
 ps : List Pt
 cs : List Ch
deriving DecidableEq
def WinWf (r : Reg) : Prop := (Lit.int .i64 r.1).wf = true ∧ (Lit.int .i64 r.2).wf = true
def PtWf (p : Pt) : Prop := (Lit.int .i64 p.id).wf = true ∧ (Lit.int .i64 p.base).wf = true ∧ (Lit.int .i64 p.size).wf = true
def CfWf (c : Cf) : Prop := (∀ r ∈ c.ws, WinWf r) ∧ (∀ p ∈ c.ps, PtWf p) ∧ ∀ x ∈ c.cs, ChWf x
structure CV where
 aw : Option Addr
 nw : Nat
 kw : Nat
 ap : Option Addr
 np : Nat
 kp : Nat
 ac : Option Addr
 nc : Nat
 kc : Nat
def CV.val (v : CV) : Value := .agg #[.slice v.aw v.nw v.kw, .slice v.ap v.np v.kp, .slice v.ac v.nc v.kc]
def RdP (w : World) (B : Nat) (A : Option Addr) (n : Nat) (l : List Pt) : Prop :=
 l.length = n ∧ (0 < n → ∃ b o, A = some ⟨b, o, none⟩ ∧ b < B ∧ ∀ j, j < n → ∃ A' m c, (∀ i v, (ptL (ptAt l j) A' m c)[i]? = some v → w.cell? ⟨b, o + j * 5 + i, none⟩ = some v) ∧ Rd w B A' m (ptAt l j).img ∧ m ≤ c ∧ c ≤ 9223372036854775807 ∧ m ≤ 140737488351232)
theorem RdP.nil (w : World) (B : Nat) (A : Option Addr) : RdP w B A 0 [] := ⟨rfl, fun h => absurd h (Nat.lt_irrefl 0)⟩
theorem RdP.below {w w' : World} {B n : Nat} {A : Option Addr} {l : List Pt} (h : RdP w B A n l) (hb : Below B w w') : RdP w' B A n l :=
 ⟨h.1, fun hn => by
  obtain ⟨b, o, e, hB, hc⟩ := h.2 hn
  refine ⟨b, o, e, hB, fun j hj => ?_⟩
  obtain ⟨A', m, c, h1, h2, h3⟩ := hc j hj
  exact ⟨A', m, c, fun i v hv => (hb.cell (p := ⟨b, _, none⟩) hB).trans (h1 i v hv), h2.below hb, h3⟩⟩
theorem RdP.more {w : World} {B B' n : Nat} {A : Option Addr} {l : List Pt} (h : RdP w B A n l) (hB : B ≤ B') : RdP w B' A n l :=
 ⟨h.1, fun hn => by
  obtain ⟨b, o, e, hb, hc⟩ := h.2 hn
  refine ⟨b, o, e, by omega, fun j hj => ?_⟩
  obtain ⟨A', m, c, h1, h2, h3⟩ := hc j hj
  exact ⟨A', m, c, h1, h2.more hB, h3⟩⟩
theorem RdP.to {w w' : World} {n : Nat} {A : Option Addr} {l : List Pt} (h : RdP w w.heap.size A n l) (hb : Below w.heap.size w w') : RdP w' w'.heap.size A n l := (h.below hb).more hb.size
theorem RdP.at_ {w : World} {B n j : Nat} {A : Option Addr} {l : List Pt} (h : RdP w B A n l) (hj : j < n) : ∃ b o A' m c, A = some ⟨b, o, none⟩ ∧
  w.cell? ⟨b, o + j * 5, none⟩ = some (.int .i64 (ptAt l j).id) ∧ w.cell? ⟨b, o + j * 5 + 1, none⟩ = some (.int .i64 (ptAt l j).base) ∧ w.cell? ⟨b, o + j * 5 + 2, none⟩ = some (.int .i64 (ptAt l j).size) ∧
  w.cell? ⟨b, o + j * 5 + 3, none⟩ = some (.bool (ptAt l j).keep) ∧ w.cell? ⟨b, o + j * 5 + 4, none⟩ = some (.slice A' m c) ∧ Rd w B A' m (ptAt l j).img ∧ m ≤ c ∧ c ≤ 9223372036854775807 ∧ m ≤ 140737488351232 := by
 obtain ⟨b, o, e, _, hc⟩ := h.2 (by omega)
 obtain ⟨A', m, c, h1, h2, h3⟩ := hc j hj
 exact ⟨b, o, A', m, c, e, h1 0 _ rfl, h1 1 _ rfl, h1 2 _ rfl, h1 3 _ rfl, h1 4 _ rfl, h2, h3⟩
theorem RdC.more' {w : World} {B B' n : Nat} {A : Option Addr} {l : List Ch} (h : RdC w B A n l) (hB : B ≤ B') : RdC w B' A n l :=
 ⟨h.1, fun hn => by obtain ⟨b, o, e, hb, hc⟩ := h.2 hn; exact ⟨b, o, e, Nat.lt_of_lt_of_le hb hB, hc⟩⟩
structure RdCf (w : World) (B : Nat) (v : CV) (c : Cf) : Prop where
 ww : RdG w B v.aw v.nw c.ws
 pp : RdP w B v.ap v.np c.ps
 cc : RdC w B v.ac v.nc c.cs
 kw : v.nw ≤ v.kw
 kp : v.np ≤ v.kp
 kc : v.nc ≤ v.kc
theorem RdCf.below {w w' : World} {B : Nat} {v : CV} {c : Cf} (h : RdCf w B v c) (hb : Below B w w') : RdCf w' B v c := ⟨h.ww.below hb, h.pp.below hb, h.cc.below hb, h.kw, h.kp, h.kc⟩
theorem RdCf.more {w : World} {B B' : Nat} {v : CV} {c : Cf} (h : RdCf w B v c) (hB : B ≤ B') : RdCf w B' v c := ⟨h.ww.more hB, h.pp.more hB, h.cc.more' hB, h.kw, h.kp, h.kc⟩
theorem RdCf.to {w w' : World} {v : CV} {c : Cf} (h : RdCf w w.heap.size v c) (hb : Below w.heap.size w w') : RdCf w' w'.heap.size v c := (h.below hb).more hb.size
structure Cfx (w : World) (g : Nat) (v : CV) : Prop where
 c0 : w.cell? ⟨g, 0, none⟩ = some (.slice v.aw v.nw v.kw)
 c1 : w.cell? ⟨g, 1, none⟩ = some (.slice v.ap v.np v.kp)
 c2 : w.cell? ⟨g, 2, none⟩ = some (.slice v.ac v.nc v.kc)
 lt : g < w.heap.size
theorem Cfx.to {w w' : World} {g : Nat} {v : CV} (h : Cfx w g v) (hb : Below w.heap.size w w') : Cfx w' g v :=
 ⟨(hb.cell h.lt).trans h.c0, (hb.cell h.lt).trans h.c1, (hb.cell h.lt).trans h.c2, Nat.lt_of_lt_of_le h.lt hb.size⟩
theorem Cfx.new (w : World) (v : CV) (T : TypeId) : Cfx (w.alloc (.cells #[.slice v.aw v.nw v.kw, .slice v.ap v.np v.kp, .slice v.ac v.nc v.kc] T)) w.heap.size v := ⟨by simp, by simp, by simp, by simp⟩
section
variable {H : Type} {enc : TypeId × Value → H} {W : World} {base : Nat} {held : Bool}
theorem trod_pt {n : Nat} {cs : List Value} {x : DataW H × List MemPlace} (h : DataW.trod enc Tryz.prog W base (fun _ => true) held n 58 cs = some x) (hw : ∀ y ∈ x.1.weights Tryz.prog 58, y ≤ reachBytes) :
  ∃ p A m c, cs = ptL p A m c ∧ (Rd W W.heap.size A m p.img ∧ m ≤ c ∧ c ≤ 140737488351232) ∧ PtWf p := by
 obtain ⟨xs, k, rfl, hxx, hl, hxl, hf⟩ := DataW.trod_struct Tryz.underlying58 h
 have hl5 : cs.length = 5 := by rw [hl]; kernel_rfl
 have e1 : Tryz.prog.cellsOf 3 = 1 := by kernel_rfl
 have e2 : Tryz.prog.cellsOf 56 = 2 := by kernel_rfl
 have e3 : Tryz.prog.cellsOf 4 = 1 := by kernel_rfl
 have e4 : Tryz.prog.cellsOf 31 = 1 := by kernel_rfl
 have h0 : DataW.trod enc Tryz.prog W base (fun _ => true) held k 3 ((cs.drop 0).take (Tryz.prog.cellsOf 3)) = xs[0]? := hf 0 _ rfl
 have h1 : DataW.trod enc Tryz.prog W base (fun _ => true) held k 56 ((cs.drop 1).take (Tryz.prog.cellsOf 56)) = xs[1]? := hf 1 _ rfl
 have h2 : DataW.trod enc Tryz.prog W base (fun _ => true) held k 4 ((cs.drop 3).take (Tryz.prog.cellsOf 4)) = xs[2]? := hf 2 _ rfl
 have h3 : DataW.trod enc Tryz.prog W base (fun _ => true) held k 31 ((cs.drop 4).take (Tryz.prog.cellsOf 31)) = xs[3]? := hf 3 _ rfl
 have hx4 : xs.length = 4 := hxl
 rw [e1, List.getElem?_eq_getElem (by omega)] at h0
 rw [e2, List.getElem?_eq_getElem (by omega)] at h1
 rw [e3, List.getElem?_eq_getElem (by omega)] at h2
 rw [e4, List.getElem?_eq_getElem (by omega)] at h3
 match cs, hl5 with
 | [c0, c1, c2, c3, c4], hl5 =>
  simp only [List.drop_succ_cons, List.drop_zero, List.take_succ_cons, List.take_zero] at h0 h1 h2 h3
  obtain ⟨z0, g0, _, w0⟩ := DataW.trod_int Tryz.underlying3 h0
  obtain ⟨r, g1, wr⟩ := trod_reg h1
  obtain ⟨b3, g3, _⟩ := DataW.trod_bool Tryz.underlying4 h2
  simp only [List.cons.injEq, and_true, regL] at g0 g1 g3
  obtain ⟨g1, g2⟩ := g1
  subst g0; subst g1; subst g2; subst g3
  have hwt : ∀ y ∈ (xs[3]'(by omega)).1.weights Tryz.prog 31, y ≤ reachBytes := fun y hy => hw y (by
   rw [hxx]
   simp only [DataW.weights, Tryz.underlying58]
   exact DataW.weights_mem_each (j := 3) rfl (by rw [List.getElem?_map, List.getElem?_eq_getElem (by omega)]; rfl) y hy)
  have hB : ∃ A m c bs, c4 = .slice A m c ∧ Rd W W.heap.size A m bs ∧ m ≤ c ∧ c ≤ 140737488351232 := by
   rcases open_ints Tryz.underlying31 Tryz.underlying5 (by kernel_rfl) h3 with ⟨hcs, _⟩ | ⟨x, l, c, zs, hcs, _, hl, hm, hz, hdx, hcell, hwz⟩
   ·simp only [List.cons.injEq, and_true] at hcs
    exact ⟨none, 0, 0, [], hcs, Rd.nil _ _ _, by decide, by decide⟩
   ·simp only [List.cons.injEq, and_true] at hcs
    have hR : IsRow .u8 W (some x) l c zs := .inr ⟨_, rfl, hl, hm, by simpa using hz, hcell, hwz⟩
    obtain ⟨r1, r2, r3⟩ := hR.rd
    have hz' : zs.length = c := by simpa using hz
    have hcc : c ≤ reachBytes := by
     have be : Tryz.prog.bytesOf 5 = 1 := by kernel_rfl
     have hdd := congrArg Prod.fst hdx
     simp only at hdd
     have := hwt c (by
      rw [hdd]
      simp only [DataW.weights, Tryz.underlying31, be]
      refine List.mem_cons.2 (.inl ?_)
      simp [lits]
      omega)
     exact this
    exact ⟨_, _, _, _, hcs, r1, r2, by unfold reachBytes at hcc; omega⟩
  obtain ⟨A, m, c, bs, rfl, hr, hmc, hcc⟩ := hB
  exact ⟨⟨z0, r.1, r.2, b3, bs⟩, A, m, c, rfl, ⟨hr, hmc, hcc⟩, w0, wr.1, wr.2⟩
theorem trod_pts {fuel : Nat} {v : Value} {d : DataW H} {ps : List MemPlace} (hf : DataW.trod enc Tryz.prog W base (fun _ => true) held fuel 25 [v] = some (d, ps)) (hw : ∀ y ∈ d.weights Tryz.prog 25, y ≤ reachBytes) :
  ∃ a len cap l, v = .slice a len cap ∧ RdP W W.heap.size a len l ∧ len ≤ cap ∧ cap ≤ 9223372036854775807 ∧ ∀ p ∈ l, PtWf p := by
 have e5 : Tryz.prog.cellsOf 58 = 5 := by kernel_rfl
 rcases open_slice Tryz.underlying25 hf with ⟨hcs, _⟩ | ⟨x, len, cap, m, n, D, Pl, hcs, hbx, hl, hm, hmm, hx, hi⟩
 ·simp only [List.cons.injEq, and_true] at hcs
  subst hcs
  exact ⟨none, 0, 0, [], rfl, RdP.nil _ _ _, by omega, by omega, fun _ h => by cases h⟩
 ·simp only [List.cons.injEq, and_true] at hcs
  subst hcs
  have hmc : m = cap := by simpa using hmm
  subst hmc
  rw [e5] at hi
  have hdd := congrArg Prod.fst hx
  simp only at hdd
  have hwD : ∀ i, i < m → ∀ y ∈ (D i).weights Tryz.prog 58, y ≤ reachBytes := fun i him y hy => hw y (by
   rw [hdd]
   simp only [DataW.weights, Tryz.underlying25]
   refine List.mem_cons_of_mem _ ?_
   by_cases h : i < len
   ·exact List.mem_append_left _ (mem_weightsAll (List.mem_map.2 ⟨i, List.mem_range.2 h, rfl⟩) hy)
   ·exact List.mem_append_right _ (mem_weightsAll (List.mem_map.2 ⟨i - len, List.mem_range.2 (by omega), by rw [show len + (i - len) = i from by omega]⟩) hy))
  have each : ∀ i, ∃ p : Pt, i < m → ∃ A' m' c', (∀ j u, (ptL p A' m' c')[j]? = some u → W.cell? ((x.add (i * 5)).add j) = some u) ∧ (Rd W W.heap.size A' m' p.img ∧ m' ≤ c' ∧ c' ≤ 140737488351232) ∧ PtWf p := by
   intro i
   by_cases hi' : i < m
   ·obtain ⟨cs', h1, h2⟩ := hi i hi'
    obtain ⟨p, A', m', c', rfl, hok⟩ := trod_pt h2 (hwD i hi')
    obtain ⟨_, h4, h5⟩ := World.cells?_some h1
    refine ⟨p, fun _ => ⟨A', m', c', fun j u hv => ?_, hok⟩⟩
    have hj : j < 5 := by
     rcases Nat.lt_or_ge j 5 with g | g
     ·exact g
     ·rw [List.getElem?_eq_none (by simp [ptL]; exact g)] at hv; cases hv
    rw [h5 j hj]; exact hv
   ·exact ⟨Pt.zero, fun h => absurd h hi'⟩
  obtain ⟨F, hF⟩ := Classical.axiomOfChoice each
  refine ⟨some x, len, m, (List.range len).map F, rfl, ⟨by simp, fun h0 => ?_⟩, hl, by unfold maxLen at hm; omega, fun p hp => by
   obtain ⟨i, hi', rfl⟩ := List.mem_map.1 hp
   have hi'' := List.mem_range.1 hi'
   obtain ⟨_, _, _, _, _, h⟩ := hF i (by omega)
   exact h⟩
  obtain ⟨b, o, s⟩ := x
  obtain ⟨A0, m0, c0, h00, _⟩ := hF 0 (by omega)
  have hc0 := h00 0 _ rfl
  obtain rfl : s = none := by simpa [Addr.add] using World.cell?_spot hc0
  refine ⟨b, o, rfl, ?_, fun j hj => ?_⟩
  ·rw [add_none, add_none] at hc0
   exact cell_block hc0
  ·obtain ⟨A', m', c', h1, h2, _⟩ := hF j (by omega)
   have e : ptAt ((List.range len).map F) j = F j := by simp [ptAt, List.getD, hj]
   rw [e]
   refine ⟨A', m', c', fun i u hv => ?_, h2.1, h2.2.1, by have := h2.2; omega, by have := h2.2; omega⟩
   have := h1 i u hv
   rwa [add_none, add_none] at this
theorem trod_wins {fuel : Nat} {v : Value} {d : DataW H} {ps : List MemPlace} (hf : DataW.trod enc Tryz.prog W base (fun _ => true) held fuel 24 [v] = some (d, ps)) :
  ∃ a len cap l, v = .slice a len cap ∧ RdG W W.heap.size a len l ∧ len ≤ cap ∧ cap ≤ 9223372036854775807 ∧ ∀ p ∈ l, WinWf p := by
 have e5 : Tryz.prog.cellsOf 82 = 2 := by kernel_rfl
 rcases open_slice Tryz.underlying24 hf with ⟨hcs, _⟩ | ⟨x, len, cap, m, n, D, Pl, hcs, hbx, hl, hm, hmm, hx, hi⟩
 ·simp only [List.cons.injEq, and_true] at hcs
  subst hcs
  exact ⟨none, 0, 0, [], rfl, ⟨rfl, fun h => absurd h (Nat.lt_irrefl 0)⟩, by omega, by omega, fun _ h => by cases h⟩
 ·simp only [List.cons.injEq, and_true] at hcs
  subst hcs
  have hmc : m = cap := by simpa using hmm
  subst hmc
  rw [e5] at hi
  have each : ∀ i, ∃ p : Reg, i < m → (∀ j u, (regL p)[j]? = some u → W.cell? ((x.add (i * 2)).add j) = some u) ∧ WinWf p := by
   intro i
   by_cases hi' : i < m
   ·obtain ⟨cs', h1, h2⟩ := hi i hi'
    obtain ⟨p, rfl, hwf⟩ := trod_win h2
    obtain ⟨_, h4, h5⟩ := World.cells?_some h1
    refine ⟨p, fun _ => ⟨fun j u hv => ?_, hwf⟩⟩
    have hj : j < 2 := by
     rcases Nat.lt_or_ge j 2 with g | g
     ·exact g
     ·rw [List.getElem?_eq_none (by simp [regL]; exact g)] at hv; cases hv
    rw [h5 j hj]; exact hv
   ·exact ⟨reg0, fun h => absurd h hi'⟩
  obtain ⟨F, hF⟩ := Classical.axiomOfChoice each
  refine ⟨some x, len, m, (List.range len).map F, rfl, ⟨by simp, fun h0 => ?_⟩, hl, by unfold maxLen at hm; omega, fun p hp => by
   obtain ⟨i, hi', rfl⟩ := List.mem_map.1 hp
   have hi'' := List.mem_range.1 hi'
   exact (hF i (by omega)).2⟩
  obtain ⟨b, o, s⟩ := x
  have hc0 := (hF 0 (by omega)).1 0 _ rfl
  obtain rfl : s = none := by simpa [Addr.add] using World.cell?_spot hc0
  refine ⟨b, o, rfl, ?_, fun j hj => ?_⟩
  ·rw [add_none, add_none] at hc0
   exact cell_block hc0
  ·have e : rat ((List.range len).map F) j = F j := by simp [rat, List.getD, hj]
   rw [e]
   have h1 := (hF j (by omega)).1 0 _ rfl
   have h2 := (hF j (by omega)).1 1 _ rfl
   rw [add_none, add_none] at h1 h2
   exact ⟨h1, h2⟩
theorem trod_chs {fuel : Nat} {v : Value} {d : DataW H} {ps : List MemPlace} (hf : DataW.trod enc Tryz.prog W base (fun _ => true) held fuel 26 [v] = some (d, ps)) :
  ∃ a len cap l, v = .slice a len cap ∧ RdC W W.heap.size a len l ∧ len ≤ cap ∧ cap ≤ 9223372036854775807 ∧ ∀ p ∈ l, ChWf p := by
 have e5 : Tryz.prog.cellsOf 130 = 5 := by kernel_rfl
 rcases open_slice Tryz.underlying26 hf with ⟨hcs, _⟩ | ⟨x, len, cap, m, n, D, Pl, hcs, hbx, hl, hm, hmm, hx, hi⟩
 ·simp only [List.cons.injEq, and_true] at hcs
  subst hcs
  exact ⟨none, 0, 0, [], rfl, ⟨rfl, fun h => absurd h (Nat.lt_irrefl 0)⟩, by omega, by omega, fun _ h => by cases h⟩
 ·simp only [List.cons.injEq, and_true] at hcs
  subst hcs
  have hmc : m = cap := by simpa using hmm
  subst hmc
  rw [e5] at hi
  have each : ∀ i, ∃ p : Ch, i < m → (∀ j u, (chL p)[j]? = some u → W.cell? ((x.add (i * 5)).add j) = some u) ∧ ChWf p := by
   intro i
   by_cases hi' : i < m
   ·obtain ⟨cs', h1, h2⟩ := hi i hi'
    obtain ⟨p, rfl, hwf⟩ := trod_ch h2
    obtain ⟨_, h4, h5⟩ := World.cells?_some h1
    refine ⟨p, fun _ => ⟨fun j u hv => ?_, hwf⟩⟩
    have hj : j < 5 := by
     rcases Nat.lt_or_ge j 5 with g | g
     ·exact g
     ·rw [List.getElem?_eq_none (by simp [chL]; exact g)] at hv; cases hv
    rw [h5 j hj]; exact hv
   ·exact ⟨Ch.zero, fun h => absurd h hi'⟩
  obtain ⟨F, hF⟩ := Classical.axiomOfChoice each
  refine ⟨some x, len, m, (List.range len).map F, rfl, ⟨by simp, fun h0 => ?_⟩, hl, by unfold maxLen at hm; omega, fun p hp => by
   obtain ⟨i, hi', rfl⟩ := List.mem_map.1 hp
   have hi'' := List.mem_range.1 hi'
   exact (hF i (by omega)).2⟩
  obtain ⟨b, o, s⟩ := x
  have hc0 := (hF 0 (by omega)).1 0 _ rfl
  obtain rfl : s = none := by simpa [Addr.add] using World.cell?_spot hc0
  refine ⟨b, o, rfl, ?_, fun j hj => ?_⟩
  ·rw [add_none, add_none] at hc0
   exact cell_block hc0
  ·have e : chAt ((List.range len).map F) j = F j := by simp [chAt, List.getD, hj]
   rw [e]
   intro i u hv
   have := (hF j (by omega)).1 i u hv
   rwa [add_none, add_none] at this
end
end
section
open Go.RowKit
theorem vtW : VT Tryz.prog 24 82 2 16 (.agg #[.int .i64 0, .int .i64 0]) := ⟨Tryz.underlying24, by kernel_rfl, rfl, by decide⟩
theorem vtC : VT Tryz.prog 26 130 5 40 (.agg #[.int .i64 0, .int .i64 0, .int .i64 0, .int .i64 0, .int .i64 0]) := ⟨Tryz.underlying26, by kernel_rfl, rfl, by decide⟩
theorem vtP : VT Tryz.prog 25 58 5 56 (.agg #[.int .i64 0, .int .i64 0, .int .i64 0, .bool false, .slice none 0 0]) := ⟨Tryz.underlying25, by kernel_rfl, rfl, by decide⟩
theorem regL_len (r : Reg) : (regL r).length = 2 := rfl
theorem chL_len (r : Ch) : (chL r).length = 5 := rfl
theorem cell_none (b o j : Nat) : (⟨b, o, none⟩ : Addr).add j = ⟨b, o + j, none⟩ := by unfold Addr.add; split <;> simp_all
def winsV (l : List Reg) : List Value := l.flatMap regL
def chsV (l : List Ch) : List Value := l.flatMap chL
theorem winsV_one (l : List Reg) : ∀ u ∈ winsV l, u.oneCell' = true := by
 intro u hu
 obtain ⟨r, _, hr⟩ := List.mem_flatMap.1 hu
 simp only [regL, List.mem_cons, List.not_mem_nil, or_false] at hr
 rcases hr with rfl | rfl <;> rfl
theorem chsV_one (l : List Ch) : ∀ u ∈ chsV l, u.oneCell' = true := by
 intro u hu
 obtain ⟨r, _, hr⟩ := List.mem_flatMap.1 hu
 simp only [chL, List.mem_cons, List.not_mem_nil, or_false] at hr
 rcases hr with rfl | rfl | rfl | rfl | rfl <;> rfl
theorem winsV_app (l m : List Reg) : winsV (l ++ m) = winsV l ++ winsV m := by simp [winsV]
theorem chsV_app (l m : List Ch) : chsV (l ++ m) = chsV l ++ chsV m := by simp [chsV]
theorem RdG.news {w : World} {B n : Nat} {A : Option Addr} {l : List Reg} (h : RdG w B A n l) : (winsV l).length = n * 2 ∧ (0 < n → ∃ ad, A = some ad ∧ ∀ j u, (winsV l)[j]? = some u → w.cell? (ad.add j) = some u) := by
 refine ⟨by rw [winsV, flat_len regL regL_len, h.1], fun hn => ?_⟩
 obtain ⟨b, o, e, _, hc⟩ := h.2 hn
 refine ⟨_, e, fun j u hu => ?_⟩
 obtain ⟨hj, hv⟩ := flat_of regL (by decide) regL_len l hu
 obtain ⟨c1, c2⟩ := hc (j / 2) (by have := h.1; omega)
 rw [rat_lt hj] at c1 c2
 rw [cell_none]
 rcases Nat.mod_two_eq_zero_or_one j with hm | hm
 ·rw [hm] at hv
  rw [show o + j = o + j / 2 * 2 by omega, c1]; exact hv
 ·rw [hm] at hv
  rw [show o + j = o + j / 2 * 2 + 1 by omega, c2]; exact hv
theorem RdC.news {w : World} {B n : Nat} {A : Option Addr} {l : List Ch} (h : RdC w B A n l) : (chsV l).length = n * 5 ∧ (0 < n → ∃ ad, A = some ad ∧ ∀ j u, (chsV l)[j]? = some u → w.cell? (ad.add j) = some u) := by
 refine ⟨by rw [chsV, flat_len chL chL_len, h.1], fun hn => ?_⟩
 obtain ⟨b, o, e, _, hc⟩ := h.2 hn
 refine ⟨_, e, fun j u hu => ?_⟩
 obtain ⟨hj, hv⟩ := flat_of chL (by decide) chL_len l hu
 have c1 := hc (j / 5) (by have := h.1; omega) (j % 5) u (by rw [chAt_lt hj]; exact hv)
 rw [cell_none, show o + j = o + j / 5 * 5 + j % 5 by omega]
 exact c1
theorem RdG.of_ownV {w : World} {B : Nat} {T : TypeId} {A : Option Addr} {n c : Nat} {l : List Reg} (h : w.ownsRow B T 2 (.slice A n c) n (winsV l)) : RdG w w.heap.size A n l := by
 have hl : l.length = n := by have := h.1; rw [winsV, flat_len regL regL_len] at this; omega
 refine ⟨hl, fun hn => ?_⟩
 obtain ⟨g, e, _, hlt, _, hc⟩ := own_frV h hn
 refine ⟨g, 0, e, hlt, fun j hj => ?_⟩
 have h0 := flat_at regL regL_len l j 0 (by omega) (by decide)
 have h1 := flat_at regL regL_len l j 1 (by omega) (by decide)
 rw [rat_lt (by omega : j < l.length), Nat.zero_add]
 exact ⟨hc _ _ h0, hc _ _ h1⟩
theorem RdC.of_ownV {w : World} {B : Nat} {T : TypeId} {A : Option Addr} {n c : Nat} {l : List Ch} (h : w.ownsRow B T 5 (.slice A n c) n (chsV l)) : RdC w w.heap.size A n l := by
 have hl : l.length = n := by have := h.1; rw [chsV, flat_len chL chL_len] at this; omega
 refine ⟨hl, fun hn => ?_⟩
 obtain ⟨g, e, _, hlt, _, hc⟩ := own_frV h hn
 refine ⟨g, 0, e, hlt, fun j hj i v hv => ?_⟩
 rw [chAt_lt (by omega : j < l.length)] at hv
 have hi : i < 5 := by
  rcases Nat.lt_or_ge i 5 with q | q
  ·exact q
  ·rw [List.getElem?_eq_none (by rw [chL_len]; exact q)] at hv; cases hv
 rw [Nat.zero_add]
 exact hc _ _ ((flat_at chL chL_len l j i (by omega) hi).trans hv)
structure QP where
 p : Pt
 A : Option Addr
 m : Nat
 c : Nat
def QP.cells (q : QP) : List Value := ptL q.p q.A q.m q.c
theorem QP.cells_len (q : QP) : q.cells.length = 5 := rfl
def partsV (l : List QP) : List Value := l.flatMap QP.cells
theorem partsV_one (l : List QP) : ∀ u ∈ partsV l, u.oneCell' = true := by
 intro u hu
 obtain ⟨r, _, hr⟩ := List.mem_flatMap.1 hu
 simp only [QP.cells, ptL, List.mem_cons, List.not_mem_nil, or_false] at hr
 rcases hr with rfl | rfl | rfl | rfl | rfl <;> rfl
theorem partsV_app (l m : List QP) : partsV (l ++ m) = partsV l ++ partsV m := by simp [partsV]
structure Img (w : World) (B : Nat) (q : QP) : Prop where
 own : OwR w B q.A q.m q.p.img
 mc : q.m ≤ q.c
 cc : q.c ≤ 9223372036854775807 ∧ q.m ≤ 140737488351232
theorem Img.kept {R : Nat → Prop} {w w' : World} {B : Nat} {q : QP} (h : Img w B q) (hk : Keep R w w') (ho : Off q.A q.m R) : Img w' B q := ⟨h.own.kept hk ho, h.mc, h.cc⟩
structure OwnP (w : World) (B : Nat) (v : Value) (l : List QP) : Prop where
 row : w.ownsRow B 58 5 v l.length (partsV l)
 img : ∀ q ∈ l, Img w B q
 off : ∀ q ∈ l, ∀ b, v.ownBlock = some b → Off q.A q.m (· = b)
theorem OwnP.nil (w : World) (B : Nat) : OwnP w B (.slice none 0 0) [] := ⟨World.ownsRow_nil _ _ _ _, fun _ h => absurd h List.not_mem_nil, fun _ h => absurd h List.not_mem_nil⟩
theorem OwnP.kept {R : Nat → Prop} {w w' : World} {B : Nat} {v : Value} {l : List QP} (h : OwnP w B v l) (hk : Keep R w w') (hv : ∀ b, v.ownBlock = some b → ¬ R b) (ho : ∀ q ∈ l, Off q.A q.m R) : OwnP w' B v l :=
 ⟨own_kv h.row hk hv, fun q hq => (h.img q hq).kept hk (ho q hq), h.off⟩
theorem Img.off_lt {w : World} {B : Nat} {q : QP} (h : Img w B q) {R : Nat → Prop} (hR : ∀ k, R k → k < B ∨ w.heap.size ≤ k) : Off q.A q.m R := fun hn b o e hb => by
 obtain ⟨b', o', e', hB, _⟩ := h.own.2 hn
 obtain ⟨b2, o2, e2, hlt, _⟩ := h.own.1.2 hn
 rw [e] at e' e2
 injection e' with e'; injection e' with e1 _
 injection e2 with e2; injection e2 with e3 _
 subst e1; subst e3
 have := hR _ hb
 omega
theorem OwnP.to {R : Nat → Prop} {w w' : World} {B : Nat} {v : Value} {l : List QP} (h : OwnP w B v l) (hk : Keep R w w') (hR : ∀ k, R k → k < B ∨ w.heap.size ≤ k) : OwnP w' B v l :=
 h.kept hk (fun b hb hr => by have := h.row.lt b hb; have := hR b hr; omega) (fun q hq => (h.img q hq).off_lt hR)
theorem own_tv {R : Nat → Prop} {w w' : World} {B z : Nat} {T : TypeId} {v : Value} {n : Nat} {xs : List Value} (h : w.ownsRow B T z v n xs) (hk : Keep R w w') (hR : ∀ k, R k → k < B ∨ w.heap.size ≤ k) : w'.ownsRow B T z v n xs :=
 own_kv h hk (fun b hb hr => by have := h.lt b hb; have := hR b hr; omega)
theorem OwnP.push {w w' : World} {B : Nat} {v v' : Value} {l : List QP} {q : QP} (h : OwnP w B v l) (hq : Img w B q) (hqo : ∀ b, v.ownBlock = some b → Off q.A q.m (· = b)) (hown : w'.ownsRow B 58 5 v' (l.length + 1) (partsV l ++ q.cells))
  (hk : Keep (fun k => v.ownBlock = some k) w w') (hv : ∀ b, v'.ownBlock = some b → v.ownBlock = some b ∨ w.heap.size ≤ b) : OwnP w' B v' (l ++ [q]) := by
 have each : ∀ x : QP, Img w B x → (∀ b, v.ownBlock = some b → Off x.A x.m (· = b)) → Img w' B x ∧ ∀ b, v'.ownBlock = some b → Off x.A x.m (· = b) := fun x hx hxo => by
  refine ⟨hx.kept hk (fun hn b o e hb => hxo b hb hn b o e rfl), fun b hb => ?_⟩
  rcases hv b hb with hb | hb
  ·exact hxo b hb
  ·exact hx.off_lt (fun k hk => .inr (by omega))
 have all : ∀ x ∈ l ++ [q], Img w' B x ∧ ∀ b, v'.ownBlock = some b → Off x.A x.m (· = b) := fun x hx => by
  rcases List.mem_append.1 hx with hx | hx
  ·exact each x (h.img x hx) (h.off x hx)
  ·obtain rfl := List.mem_singleton.1 hx
   exact each x hq hqo
 refine ⟨?_, fun x hx => (all x hx).1, fun x hx => (all x hx).2⟩
 rw [List.length_append, partsV_app, show partsV [q] = q.cells from List.append_nil _]
 exact hown
theorem OwnP.rd {w : World} {B : Nat} {A : Option Addr} {n c : Nat} {l : List QP} (h : OwnP w B (.slice A n c) l) : RdP w w.heap.size A n (l.map QP.p) := by
 obtain ⟨hl, _⟩ := own_capV h.row
 subst hl
 refine ⟨by simp, fun hn => ?_⟩
 obtain ⟨g, e, _, hlt, _, hc⟩ := own_frV h.row hn
 refine ⟨g, 0, e, hlt, fun j hj => ?_⟩
 have e1 : ptAt (l.map QP.p) j = (l[j]).p := by rw [ptAt_lt (by simpa using hj)]; simp
 have hi := h.img _ (List.getElem_mem hj)
 rw [e1]
 refine ⟨(l[j]).A, (l[j]).m, (l[j]).c, fun i v hv => ?_, hi.own.1, hi.mc, hi.cc⟩
 have hi5 : i < 5 := by
  rcases Nat.lt_or_ge i 5 with q | q
  ·exact q
  ·rw [List.getElem?_eq_none (by exact q)] at hv; cases hv
 rw [Nat.zero_add]
 exact hc _ _ ((flat_at QP.cells QP.cells_len l j i hj hi5).trans hv)
def SpN (w : World) (B z : Nat) (A : Option Addr) (n : Nat) : Prop :=
 0 < n → ∃ b o, A = some ⟨b, o, none⟩ ∧ B ≤ b ∧ ∀ j, j < n → (∃ x, w.cell? ⟨b, o + j * z, none⟩ = some (.int .i64 x)) ∧ w.frozen? ⟨b, o + j * z, none⟩ = false
def SpP (w : World) (B : Nat) (A : Option Addr) (n : Nat) : Prop :=
 0 < n → ∃ b o, A = some ⟨b, o, none⟩ ∧ B ≤ b ∧ ∀ j, j < n → ((∃ x, w.cell? ⟨b, o + j * 5, none⟩ = some (.int .i64 x)) ∧ w.frozen? ⟨b, o + j * 5, none⟩ = false) ∧ ∃ A' m c bs, w.cell? ⟨b, o + j * 5 + 4, none⟩ = some (.slice A' m c) ∧ OwR w B A' m bs ∧ m ≤ c ∧ c ≤ 9223372036854775807 ∧ m ≤ 140737488351232
structure Sp (w : World) (B : Nat) (v : CV) : Prop where
 ww : SpN w B 2 v.aw v.nw
 pp : SpP w B v.ap v.np
 cc : SpN w B 5 v.ac v.nc
theorem SpN.ownW {w : World} {B : Nat} {T : TypeId} {A : Option Addr} {n c : Nat} {l : List Reg} (h : w.ownsRow B T 2 (.slice A n c) n (winsV l)) : SpN w B 2 A n := fun hn => by
 have hl : l.length = n := by have := h.1; rw [winsV, flat_len regL regL_len] at this; omega
 obtain ⟨g, e, hB, hlt, hf, hc⟩ := own_frV h hn
 refine ⟨g, 0, e, hB, fun j hj => ⟨⟨(l[j]'(by omega)).1, ?_⟩, hf _⟩⟩
 rw [Nat.zero_add]
 exact hc _ _ (flat_at regL regL_len l j 0 (by omega) (by decide))
theorem SpN.ownC {w : World} {B : Nat} {T : TypeId} {A : Option Addr} {n c : Nat} {l : List Ch} (h : w.ownsRow B T 5 (.slice A n c) n (chsV l)) : SpN w B 5 A n := fun hn => by
 have hl : l.length = n := by have := h.1; rw [chsV, flat_len chL chL_len] at this; omega
 obtain ⟨g, e, hB, hlt, hf, hc⟩ := own_frV h hn
 refine ⟨g, 0, e, hB, fun j hj => ⟨⟨(l[j]'(by omega)).id, ?_⟩, hf _⟩⟩
 rw [Nat.zero_add]
 exact hc _ _ (flat_at chL chL_len l j 0 (by omega) (by decide))
theorem OwnP.sp {w : World} {B : Nat} {A : Option Addr} {n c : Nat} {l : List QP} (h : OwnP w B (.slice A n c) l) : SpP w B A n := fun hn => by
 obtain ⟨hl, _⟩ := own_capV h.row
 subst hl
 obtain ⟨g, e, hB, hlt, hf, hc⟩ := own_frV h.row hn
 refine ⟨g, 0, e, hB, fun j hj => ⟨⟨⟨(l[j]).p.id, ?_⟩, hf _⟩, (l[j]).A, (l[j]).m, (l[j]).c, (l[j]).p.img, ?_, ?_⟩⟩
 ·rw [Nat.zero_add]
  exact hc _ _ (flat_at QP.cells QP.cells_len l j 0 hj (by decide))
 ·rw [Nat.zero_add]
  exact hc _ _ (flat_at QP.cells QP.cells_len l j 4 hj (by decide))
 ·have hi := h.img _ (List.getElem_mem hj)
  exact ⟨hi.own, hi.mc, hi.cc⟩
theorem SpN.to {w w' : World} {B z : Nat} {A : Option Addr} {n : Nat} (h : SpN w B z A n) (hb : Below w.heap.size w w') : SpN w' B z A n := fun hn => by
 obtain ⟨b, o, e, hB, hc⟩ := h hn
 refine ⟨b, o, e, hB, fun j hj => ?_⟩
 obtain ⟨⟨x, hx⟩, hf⟩ := hc j hj
 have hlt : b < w.heap.size := cell_block hx
 exact ⟨⟨x, (hb.cell (p := ⟨b, _, none⟩) hlt).trans hx⟩, (frozen_below (a := ⟨b, _, none⟩) hb hlt).trans hf⟩
theorem SpP.to {w w' : World} {B : Nat} {A : Option Addr} {n : Nat} (h : SpP w B A n) (hb : Below w.heap.size w w') : SpP w' B A n := fun hn => by
 obtain ⟨b, o, e, hB, hc⟩ := h hn
 refine ⟨b, o, e, hB, fun j hj => ?_⟩
 obtain ⟨⟨⟨x, hx⟩, hf⟩, A', m, c, bs, h4, ho, h5⟩ := hc j hj
 have hlt : b < w.heap.size := cell_block hx
 exact ⟨⟨⟨x, (hb.cell (p := ⟨b, _, none⟩) hlt).trans hx⟩, (frozen_below (a := ⟨b, _, none⟩) hb hlt).trans hf⟩, A', m, c, bs, (hb.cell (p := ⟨b, _, none⟩) hlt).trans h4, ho.to hb, h5⟩
theorem Sp.to {w w' : World} {B : Nat} {v : CV} (h : Sp w B v) (hb : Below w.heap.size w w') : Sp w' B v := ⟨h.ww.to hb, h.pp.to hb, h.cc.to hb⟩
theorem Sp.mono {w : World} {B B' : Nat} {v : CV} (h : Sp w B v) (hB : B' ≤ B) : Sp w B' v :=
 ⟨fun hn => by obtain ⟨b, o, e, h1, h2⟩ := h.ww hn; exact ⟨b, o, e, by omega, h2⟩, fun hn => by
  obtain ⟨b, o, e, h1, h2⟩ := h.pp hn
  refine ⟨b, o, e, by omega, fun j hj => ?_⟩
  obtain ⟨h3, A', m, c, bs, h4, ho, h5⟩ := h2 j hj
  exact ⟨h3, A', m, c, bs, h4, ho.mono hB, h5⟩, fun hn => by obtain ⟨b, o, e, h1, h2⟩ := h.cc hn; exact ⟨b, o, e, by omega, h2⟩⟩
structure OwCf (w : World) (B : Nat) (v : CV) (c : Cf) : Prop where
 rd : RdCf w w.heap.size v c
 sp : Sp w B v
theorem OwCf.to {w w' : World} {B : Nat} {v : CV} {c : Cf} (h : OwCf w B v c) (hb : Below w.heap.size w w') : OwCf w' B v c := ⟨h.rd.to hb, h.sp.to hb⟩
theorem OwCf.of_rows {w : World} {B : Nat} {v : CV} {c : Cf} {qs : List QP} (hw : w.ownsRow B 82 2 (.slice v.aw v.nw v.kw) v.nw (winsV c.ws)) (hp : OwnP w B (.slice v.ap v.np v.kp) qs) (hq : qs.map QP.p = c.ps)
  (hc : w.ownsRow B 130 5 (.slice v.ac v.nc v.kc) v.nc (chsV c.cs)) : OwCf w B v c := by
 refine ⟨⟨RdG.of_ownV hw, hq ▸ hp.rd, RdC.of_ownV hc, (own_capV hw).2.1, ?_, (own_capV hc).2.1⟩, SpN.ownW hw, hp.sp, SpN.ownC hc⟩
 have := own_capV hp.row
 omega
end
section
def okW (x : Reg) : Bool := decide (1 ≤ x.1 ∧ x.1 ≤ 64 ∧ 0 ≤ x.2 ∧ x.2 ≤ 6)
def sumW (l : List Reg) : Int := (l.map (·.1)).sum
def mayW (l : List Reg) : Bool := decide (l.length ≠ 0 ∧ l.length ≤ 12) && (l.all okW && decide (sumW l ≤ 64))
theorem okW_iff {x : Reg} : okW x = true ↔ 1 ≤ x.1 ∧ x.1 ≤ 64 ∧ 0 ≤ x.2 ∧ x.2 ≤ 6 := decide_eq_true_iff
theorem mayW_iff {l : List Reg} : mayW l = true ↔ l.length ≠ 0 ∧ l.length ≤ 12 ∧ (∀ x ∈ l, okW x = true) ∧ sumW l ≤ 64 := by
 simp only [mayW, Bool.and_eq_true, decide_eq_true_eq, List.all_eq_true]
 constructor
 ·rintro ⟨⟨h1, h2⟩, h3, h4⟩; exact ⟨h1, h2, h3, h4⟩
 ·rintro ⟨h1, h2, h3, h4⟩; exact ⟨⟨h1, h2⟩, h3, h4⟩
theorem okW_at {l : List Reg} (h : ∀ x ∈ l, okW x = true) {k : Nat} (hk : k < l.length) : 1 ≤ (rat l k).1 ∧ (rat l k).1 ≤ 64 ∧ 0 ≤ (rat l k).2 ∧ (rat l k).2 ≤ 6 := okW_iff.1 (h _ (rat_mem hk))
theorem sumW_nil : sumW [] = 0 := rfl
theorem sumW_cons (x : Reg) (l : List Reg) : sumW (x :: l) = x.1 + sumW l := by simp [sumW]
theorem sumW_append (l m : List Reg) : sumW (l ++ m) = sumW l + sumW m := by simp [sumW]
theorem take_rat {l : List Reg} {k : Nat} (h : k < l.length) : l.take (k + 1) = l.take k ++ [rat l k] := by
 rw [List.take_succ_eq_append_getElem h, rat_lt h]
theorem sumW_succ {l : List Reg} {k : Nat} (h : k < l.length) : sumW (l.take (k + 1)) = sumW (l.take k) + (rat l k).1 := by
 rw [take_rat h, sumW_append, sumW_cons, sumW_nil]; omega
theorem sumW_ge {l : List Reg} (h : ∀ x ∈ l, okW x = true) : (l.length : Int) ≤ sumW l ∧ sumW l ≤ 64 * (l.length : Int) := by
 induction l with
 | nil => simp [sumW_nil]
 | cons x l ih =>
  have h1 := ih fun y hy => h y (List.mem_cons_of_mem _ hy)
  have h2 := okW_iff.1 (h x (List.mem_cons_self ..))
  rw [sumW_cons, List.length_cons]
  push_cast
  omega
theorem sumW_take {l : List Reg} (h : ∀ x ∈ l, okW x = true) {k m : Nat} (hk : k ≤ m) : sumW (l.take k) ≤ sumW (l.take m) := by
 have e : l.take m = l.take k ++ (l.take m).drop k := by
  have := (List.take_append_drop k (l.take m)).symm
  rwa [List.take_take, Nat.min_eq_left hk] at this
 have := (sumW_ge (l := (l.take m).drop k) fun x hx => h x (List.mem_of_mem_take (List.mem_of_mem_drop hx))).1
 rw [e, sumW_append]
 omega
theorem sumW_take_le {l : List Reg} (h : ∀ x ∈ l, okW x = true) (k : Nat) : 0 ≤ sumW (l.take k) ∧ sumW (l.take k) ≤ sumW l := by
 constructor
 ·have := sumW_take h (Nat.zero_le k); simpa [sumW_nil] using this
 ·rcases Nat.le_total k l.length with g | g
  ·have := sumW_take h g; rwa [List.take_length] at this
  ·rw [List.take_of_length_le g]; exact Int.le_refl _
theorem may_ok {l : List Reg} (h : mayW l = true) : ∀ x ∈ l, okW x = true := (mayW_iff.1 h).2.2.1
theorem may_pos {l : List Reg} (h : mayW l = true) : 1 ≤ sumW l ∧ sumW l ≤ 64 ∧ 0 < l.length ∧ l.length ≤ 12 := by
 obtain ⟨h1, h2, h3, h4⟩ := mayW_iff.1 h
 have := (sumW_ge h3).1
 omega
end
section
open Go.RowKit
def sumI (l : List Pt) : Nat := (l.map (fun p => p.img.length)).sum
theorem sumI_snoc {l : List Pt} {k : Nat} (h : k < l.length) : sumI (l.take (k + 1)) = sumI (l.take k) + (ptAt l k).img.length := by
 unfold sumI
 rw [List.take_succ_eq_append_getElem h, List.map_append, List.sum_append, ptAt_lt h]
 simp
theorem sumI_mem : ∀ {l : List Pt} {p : Pt}, p ∈ l → p.img.length ≤ sumI l
 | q :: l, p, h => by
  unfold sumI
  rw [List.map_cons, List.sum_cons]
  rcases List.mem_cons.1 h with rfl | h
  ·omega
  ·have := sumI_mem h
   unfold sumI at this
   omega
def greatC (c : Cf) : Bool := decide (40 < c.ws.length) || decide (20 < c.ps.length) || decide (40 < c.cs.length) || decide (8000 < sumI c.ps)
theorem greatC_no {c : Cf} (h : greatC c = false) : c.ws.length ≤ 40 ∧ c.ps.length ≤ 20 ∧ c.cs.length ≤ 40 ∧ sumI c.ps ≤ 8000 := by
 unfold greatC at h
 simp only [Bool.or_eq_false_iff, decide_eq_false_iff_not] at h
 omega
theorem greatC_yes {c : Cf} (h : 40 < c.ws.length ∨ 20 < c.ps.length ∨ 40 < c.cs.length) : greatC c = true := by
 unfold greatC
 rcases h with h | h | h <;> simp [h]
theorem lGreat (v : CV) (c : Cf) (w : World) (h : RdCf w w.heap.size v c) :
  Calls Tryz.prog 7 #[.agg #[.slice v.aw v.nw v.kw, .slice v.ap v.np v.kp, .slice v.ac v.nc v.kc]] w fun x w' => x = .returned (.bool (greatC c)) ∧ Below w.heap.size w w' := by
 have hb := (Below.refl w.heap.size w).alloc (Nat.le_refl _) (.cells #[.slice v.aw v.nw v.kw, .slice v.ap v.np v.kp, .slice v.ac v.nc v.kc] 28)
 have B := qH hb
 have X := qH (Cfx.new w v 28)
 have R := qH (h.to hb)
 have LW : Hid (c.ws.length = v.nw) := h.ww.1
 have LP : Hid (c.ps.length = v.np) := h.pp.1
 have LC : Hid (c.cs.length = v.nc) := h.cc.1
 clear h hb
 obtain ⟨x0, x1, x2, _⟩ := X.out
 go_enter Tryz.func7, Tryz.ntmps7
 by_cases h1 : 40 < v.nw
 ·have hI : (40 : Int) < (v.nw : Int) := by omega
  have HF : Hid (true = greatC c) := (greatC_yes (.inl (by rw [LW.out]; exact h1))).symm
  go_wp2_with fail
  go_ret
  exact ⟨ret_bool HF.out, B.out⟩
 have hI : ¬ (40 : Int) < (v.nw : Int) := by omega
 replace h1 := qH h1
 by_cases h2 : 20 < v.np
 ·have hJ : (20 : Int) < (v.np : Int) := by omega
  have HF : Hid (true = greatC c) := (greatC_yes (.inr (.inl (by rw [LP.out]; exact h2)))).symm
  go_wp2_with fail
  go_ret
  exact ⟨ret_bool HF.out, B.out⟩
 have hJ : ¬ (20 : Int) < (v.np : Int) := by omega
 replace h2 := qH h2
 by_cases h3 : 40 < v.nc
 ·have hK : (40 : Int) < (v.nc : Int) := by omega
  have HF : Hid (true = greatC c) := (greatC_yes (.inr (.inr (by rw [LC.out]; exact h3)))).symm
  go_wp2_with fail
  go_ret
  exact ⟨ret_bool HF.out, B.out⟩
 have hK : ¬ (40 : Int) < (v.nc : Int) := by omega
 replace h3 := qH h3
 go_upto_region 3 with (fail)
 clear hI hJ hK
 generalize w.alloc (.cells #[.slice v.aw v.nw v.kw, .slice v.ap v.np v.kp, .slice v.ac v.nc v.kc] 28) = w1 at *
 go_wp2_with fail
 go_loopw [3, 4] (fun s3 s4 wr => ∃ k : Nat, k ≤ v.np ∧ s4 = .int .i64 (k : Int) ∧ s3 = .int .i64 (sumI (c.ps.take k) : Int) ∧ sumI (c.ps.take k) ≤ k * 140737488351232 ∧ wr = w1) (fun _ s4 _ => v.np - (intOf s4).toNat)
 case atStart => exact ⟨0, Nat.zero_le _, rfl, rfl, by simp [sumI], rfl⟩
 case round =>
  obtain ⟨k, hk, rfl, rfl, hs, rfl⟩ := hrel
  by_cases hlt : k < v.np
  ·have hltI : (k : Int) < (v.np : Int) := by omega
   have HLT : Hid (k < v.np) := hlt
   have hwk : IntKind.i64.wrap ((k : Int) + 1) = (k : Int) + 1 := by have := h2.out; rw [IntKind.wrap_i64]; omega
   obtain ⟨bb, o, A', m, c', hA, y0, y1, y2, y3, y4, hr, _, _, hm⟩ := R.out.pp.at_ hlt
   have hs1 := sumI_snoc (l := c.ps) (k := k) (by rw [LP.out]; exact hlt)
   rw [hr.1] at hs1
   have HS : Hid (sumI (c.ps.take (k + 1)) ≤ (k + 1) * 140737488351232) := by (show _ ≤ _); rw [hs1, Nat.add_mul]; omega
   have hws : IntKind.i64.wrap ((sumI (c.ps.take k) : Int) + (m : Int)) = (sumI (c.ps.take (k + 1)) : Int) := by
    have := h2.out
    have hk20 : k * 140737488351232 ≤ 20 * 140737488351232 := Nat.mul_le_mul_right _ (by omega)
    rw [hs1, IntKind.wrap_i64]
    omega
   rw [hA] at x1 ⊢
   clear hr hk y0 y1 y2 y3 hs hs1 hm
   generalize sumI (c.ps.take k) = sk at *
   generalize hs2 : sumI (c.ps.take (k + 1)) = sk2 at *
   replace hs2 := qH hs2
   go_wp2_with fail
   go_roundw
   case rel => exact ⟨k + 1, HLT.out, by go_num, by rw [hs2.out], by rw [hs2.out]; exact HS.out, by first | rfl | trivial⟩
   case measure => simp [intOf]; omega
  ·obtain rfl : k = v.np := by omega
   have HF : Hid (decide (8000 < sumI c.ps) = greatC c) := by
    (show _ = _)
    unfold greatC
    rw [LW.out, LP.out, LC.out, decide_eq_false h1.out, decide_eq_false h2.out, decide_eq_false h3.out]
    rfl
   have e : c.ps.take v.np = c.ps := by rw [← LP.out, List.take_length]
   rw [e]
   generalize hsk : sumI c.ps = sk at *
   replace hsk := qH hsk
   clear hk hs
   have hd : decide ((8000 : Int) < (sk : Int)) = decide (8000 < sk) := by
    rw [Bool.eq_iff_iff, decide_eq_true_eq, decide_eq_true_eq]; omega
   have HD := qH hd
   clear hd hlt
   go_wp2_with fail
   go_ret
   exact ⟨by rw [← HF.out, ← HD.out]; rfl, B.out⟩
end
section
open Go.RowKit
section
variable {w w' : World} {B n : Nat} {A : Option Addr} {R : Nat → Prop}
theorem RdG.keptO {l : List Reg} (h : RdG w w.heap.size A n l) {z : Nat} (hs : SpN w B z A n) (hk : Keep R w w') (hR : ∀ k, R k → k < B) : RdG w' w'.heap.size A n l :=
 ⟨h.1, fun hn => by
  obtain ⟨b, o, e, hb, hc⟩ := h.2 hn
  obtain ⟨b', o', e', hB, _⟩ := hs hn
  rw [e] at e'
  injection e' with e'; injection e' with e1 e2
  have hne : ¬ R b := fun hh => by have := hR _ hh; omega
  exact ⟨b, o, e, Nat.lt_of_lt_of_le hb hk.size, fun j hj => ⟨(hk.cell (a := ⟨b, _, none⟩) hb hne).trans (hc j hj).1, (hk.cell (a := ⟨b, _, none⟩) hb hne).trans (hc j hj).2⟩⟩⟩
theorem RdC.keptO {l : List Ch} (h : RdC w w.heap.size A n l) {z : Nat} (hs : SpN w B z A n) (hk : Keep R w w') (hR : ∀ k, R k → k < B) : RdC w' w'.heap.size A n l :=
 ⟨h.1, fun hn => by
  obtain ⟨b, o, e, hb, hc⟩ := h.2 hn
  obtain ⟨b', o', e', hB, _⟩ := hs hn
  rw [e] at e'
  injection e' with e'; injection e' with e1 e2
  have hne : ¬ R b := fun hh => by have := hR _ hh; omega
  exact ⟨b, o, e, Nat.lt_of_lt_of_le hb hk.size, fun j hj i u hu => (hk.cell (a := ⟨b, _, none⟩) hb hne).trans (hc j hj i u hu)⟩⟩
theorem RdP.keptO {l : List Pt} (h : RdP w w.heap.size A n l) (hs : SpP w B A n) (hk : Keep R w w') (hR : ∀ k, R k → k < B) : RdP w' w'.heap.size A n l :=
 ⟨h.1, fun hn => by
  obtain ⟨b, o, e, hb, hc⟩ := h.2 hn
  obtain ⟨b', o', e', hB, hs'⟩ := hs hn
  rw [e] at e'
  injection e' with e'; injection e' with e1 e2
  subst e1; subst e2
  have hne : ¬ R b := fun hh => by have := hR _ hh; omega
  refine ⟨b, o, e, Nat.lt_of_lt_of_le hb hk.size, fun j hj => ?_⟩
  obtain ⟨A', m, c, h1, h2, h3⟩ := hc j hj
  obtain ⟨_, A2, m2, c2, bs2, h4, ho, _⟩ := hs' j hj
  have h5 : w.cell? ⟨b, o + j * 5 + 4, none⟩ = some (.slice A' m c) := h1 4 _ rfl
  rw [h4] at h5
  injection h5 with h5
  injection h5 with e3 e4 e5
  subst e3; subst e4; subst e5
  exact ⟨A2, m2, c2, fun i u hu => (hk.cell (a := ⟨b, _, none⟩) hb hne).trans (h1 i u hu), h2.kept hk (ho.off hR), h3⟩⟩
theorem RdCf.keptO {v : CV} {c : Cf} (h : RdCf w w.heap.size v c) (hs : Sp w B v) (hk : Keep R w w') (hR : ∀ k, R k → k < B) : RdCf w' w'.heap.size v c :=
 ⟨h.ww.keptO hs.ww hk hR, h.pp.keptO hs.pp hk hR, h.cc.keptO hs.cc hk hR, h.kw, h.kp, h.kc⟩
theorem SpN.keptO {z : Nat} (hs : SpN w B z A n) (hk : Keep R w w') (hR : ∀ k, R k → k < B) : SpN w' B z A n := fun hn => by
 obtain ⟨b, o, e, hB, hc⟩ := hs hn
 have hne : ¬ R b := fun hh => by have := hR _ hh; omega
 refine ⟨b, o, e, hB, fun j hj => ?_⟩
 obtain ⟨⟨x, hx⟩, hf⟩ := hc j hj
 have hlt : b < w.heap.size := cell_block hx
 exact ⟨⟨x, (hk.cell (a := ⟨b, _, none⟩) hlt hne).trans hx⟩, by
  have hbk := hk.block b hlt hne
  simp only [World.frozen?, hbk] at hf ⊢
  exact hf⟩
theorem SpP.keptO (hs : SpP w B A n) (hk : Keep R w w') (hR : ∀ k, R k → k < B) : SpP w' B A n := fun hn => by
 obtain ⟨b, o, e, hB, hc⟩ := hs hn
 have hne : ¬ R b := fun hh => by have := hR _ hh; omega
 refine ⟨b, o, e, hB, fun j hj => ?_⟩
 obtain ⟨⟨⟨x, hx⟩, hf⟩, A', m, c, bs, h4, ho, h5⟩ := hc j hj
 have hlt : b < w.heap.size := cell_block hx
 refine ⟨⟨⟨x, (hk.cell (a := ⟨b, _, none⟩) hlt hne).trans hx⟩, ?_⟩, A', m, c, bs, (hk.cell (a := ⟨b, _, none⟩) hlt hne).trans h4, ho.kept hk (ho.off hR), h5⟩
 have hbk := hk.block b hlt hne
 simp only [World.frozen?, hbk] at hf ⊢
 exact hf
theorem OwCf.keptO {v : CV} {c : Cf} (h : OwCf w B v c) (hk : Keep R w w') (hR : ∀ k, R k → k < B) : OwCf w' B v c := ⟨h.rd.keptO h.sp hk hR, h.sp.ww.keptO hk hR, h.sp.pp.keptO hk hR, h.sp.cc.keptO hk hR⟩
theorem OwCf.mono {B' : Nat} {v : CV} {c : Cf} (h : OwCf w B v c) (hB : B' ≤ B) : OwCf w B' v c := ⟨h.rd, h.sp.mono hB⟩
end
end
section
open Go.RowKit
def shown (x : Row) : List UInt8 := x.1.take x.2
def OwS (w : World) (B : Nat) (A : Option Addr) (n : Nat) (xs : List Row) : Prop :=
 xs.length = n ∧ (0 < n → ∃ b o, A = some ⟨b, o, none⟩ ∧ B ≤ b ∧ b < w.heap.size ∧ ∀ j, j < n → ∃ A' c, w.cell? ⟨b, o + j, none⟩ = some (.slice A' (rowAt xs j).2 c) ∧ ROk w B (rowAt xs j) A' c ∧ (0 < (rowAt xs j).1.length → ∀ b' o', A' = some ⟨b', o', none⟩ → b' ≠ b))
theorem addr_addN {b o j : Nat} : (⟨b, o, none⟩ : Addr).add j = ⟨b, o + j, none⟩ := by unfold Addr.add; split <;> simp_all
theorem run_appendS {w : World} {n m c g : Nat} {A A2 : Option Addr} {l : List (List UInt8)} {msg : List UInt8} (ty : TypeId) (hS : RdS w w.heap.size A n l) (hr : Rd w w.heap.size A2 m msg) (hblk : w.heap[g]? = some (.cells #[.slice A2 m c] 31 (0, 0))) (hk : n + 1 ≤ 100000) :
  ∃ A' c' w', (Builtin.append_ #[167, 167] ty #[.slice A n n, .slice (some ⟨g, 0, none⟩) 1 1]).run Tryz.prog w = .ok (.slice A' (n + 1) c') w' ∧ RdS w' w'.heap.size A' (n + 1) (l ++ [msg]) ∧ Below w.heap.size w w' ∧ n + 1 ≤ c' ∧ c' ≤ 9223372036854775807 := by
 obtain ⟨i0, hi, hz0, hz1, hz2⟩ := info_parts slices_info
 rcases A with _ | ad
 ·obtain rfl : n = 0 := by
   rcases Nat.eq_zero_or_pos n with h0 | h0
   ·exact h0
   ·obtain ⟨_, _, e, _⟩ := hS.2 h0; cases e
  obtain rfl : l = [] := List.eq_nil_of_length_eq_zero hS.1
  obtain ⟨g', cap, w', hrun, h3, hgrow, h5, h6⟩ := run_append_lies (P := Tryz.prog) w 167 ty w.heap.size 31 i0 (.slice none 0 0) 1 24 Tryz.underlying167 hi hz0 hz1 hz2 rfl (by decide) (.slice none 0 0) 0 [] ⟨rfl, .inl ⟨rfl, rfl⟩⟩ ⟨g, 0, none⟩ 1 1 [.slice A2 m c] rfl (World.news_of_block hblk) (by intro u hu; simp at hu; subst hu; rfl) (by decide) (by unfold maxLen; omega) (by omega) (Nat.le_refl _) _ rfl
  have hb : Below w.heap.size w w' := (Below.refl _ _).grown hgrow (Nat.le_refl _) (fun j hj => by cases hj)
  have hcp := own_cap h3
  refine ⟨_, _, w', hrun, ⟨rfl, fun _ => ⟨g', 0, rfl, h6, fun j hj => ?_⟩⟩, hb, hcp.1, hcp.2⟩
  obtain rfl : j = 0 := by omega
  refine ⟨A2, m, c, ?_, hr.to hb⟩
  have := h3.cells (g := g') rfl 0 (.slice A2 m c) rfl
  rwa [addr_addN] at this
 ·have hsl : ∃ vs : List Value, vs.length = n ∧ ∀ j, j < n → ∃ A' m c, vs[j]? = some (.slice A' m c) ∧ w.cell? (ad.add j) = some (.slice A' m c) ∧ Rd w w.heap.size A' m (l.getD j []) := by
   rcases Nat.eq_zero_or_pos n with rfl | hn
   ·exact ⟨[], rfl, fun _ h => absurd h (Nat.not_lt_zero _)⟩
   ·obtain ⟨b, o, e, hb, hc⟩ := hS.2 hn
    injection e with e; subst e
    have each : ∀ j, ∃ u : Value, j < n → ∃ A' m c, u = .slice A' m c ∧ w.cell? ⟨b, o + j, none⟩ = some (.slice A' m c) ∧ Rd w w.heap.size A' m (l.getD j []) := fun j => by
     by_cases hj : j < n
     ·obtain ⟨A', m, c, h1, h2⟩ := hc j hj
      exact ⟨.slice A' m c, fun _ => ⟨A', m, c, rfl, h1, h2⟩⟩
     ·exact ⟨.slice none 0 0, fun h => absurd h hj⟩
    obtain ⟨F, hF⟩ := Classical.axiomOfChoice each
    refine ⟨(List.range n).map F, by simp, fun j hj => ?_⟩
    obtain ⟨A', m, c, e1, h1, h2⟩ := hF j hj
    exact ⟨A', m, c, by simp [hj, e1], by rw [addr_addN]; exact h1, h2⟩
  obtain ⟨vs, hvl, hvs⟩ := hsl
  have hr1 := run_append_grow (P := Tryz.prog) w 167 ty 31 i0 (.slice none 0 0) Tryz.underlying167 hi hz0 ad n n vs (by rw [hz1, hvl]; omega) (fun j v hv => by
   have hj : j < n := by
    rcases Nat.lt_or_ge j n with h | h
    ·exact h
    ·rw [List.getElem?_eq_none (by omega)] at hv; cases hv
   obtain ⟨A', m', c', e1, h1, _⟩ := hvs j hj
   rw [e1] at hv; injection hv with hv; rw [← hv]; exact h1) ⟨g, 0, none⟩ 1 1 [.slice A2 m c] (by rw [hz1]; rfl) (World.news_of_block hblk) (by omega) (by omega) (by rw [hz2]; exact growslice_fits (by omega) (by omega))
  have hb : Below w.heap.size w (w.drew.alloc (.cells (vs.toArray ++ [Value.slice A2 m c].toArray ++ Builtin.zeroCells (Value.slice none 0 0).cells (grownCap w (n + 1) n 31 - (n + 1))) 31)) := ⟨rfl, rfl, rfl, by simp, fun k hk => Below.heap_alloc w.drew _ k hk⟩
  have hnew := heap_alloc_new w.drew (.cells (vs.toArray ++ [Value.slice A2 m c].toArray ++ Builtin.zeroCells (Value.slice none 0 0).cells (grownCap w (n + 1) n 31 - (n + 1))) 31)
  have hge := grownCap_ge w (n + 1) n 31
  have hcm2 : grownCap w (n + 1) n 31 ≤ maxLen := grownCap_le_maxLen w (n + 1) n 31 (by unfold maxLen; omega)
  refine ⟨_, _, _, hr1, ⟨by simp [hS.1], fun _ => ⟨w.heap.size, 0, rfl, by simp, fun j hj => ?_⟩⟩, hb, hge, by unfold maxLen at hcm2; omega⟩
  have hcr := cell_of_row _ w.heap.size j _ _ (0, 0) hnew
  rw [Nat.zero_add, hcr]
  rcases Nat.lt_succ_iff_lt_or_eq.1 hj with hlt | rfl
  ·obtain ⟨A', m', c', e1, _, h2⟩ := hvs j hlt
   have hll : j < l.length := by rw [hS.1]; exact hlt
   refine ⟨A', m', c', ?_, ?_⟩
   ·rw [Array.append_assoc, Array.getElem?_append_left (by simp; omega)]
    simpa using e1
   ·rw [show (l ++ [msg]).getD j [] = l.getD j [] from by simp [List.getD, List.getElem?_append_left hll]]
    exact h2.to hb
  ·refine ⟨A2, m, c, ?_, ?_⟩
   ·rw [Array.getElem?_append_left (by simp; omega), Array.getElem?_append_right (by simp; omega)]
    simp [hvl]
   ·rw [show (l ++ [msg]).getD j [] = msg from by rw [← hS.1]; simp [List.getD]]
    exact hr.to hb
end
section
open Go.RowKit
def inR (n m : Int) : Bool := decide (1 ≤ n) && decide (n ≤ m)
theorem inR_iff {n m : Int} : inR n m = true ↔ 1 ≤ n ∧ n ≤ m := by simp [inR]
theorem wWithin (n m : Int) (w : World) : Calls Tryz.prog 224 #[.int .i64 n, .int .i64 m] w fun e w' => e = .returned (.bool (inR n m)) ∧ w = w' := by
 go_enter Tryz.func224, Tryz.ntmps224
 go_wp2
 all_goals (go_ret; refine ⟨ret_bool ?_, rfl⟩; rw [Bool.eq_iff_iff, inR_iff]; simp only [decide_eq_true_eq, Bool.false_eq_true, false_iff] at *; omega)
theorem wMay (a b d e s : Int) (w : World) :
  Calls Tryz.prog 215 #[.agg #[.int .i64 a, .int .i64 b, .int .i64 d, .int .i64 e, .int .i64 s]] w fun x w' => x = .returned (.bool (mayC ⟨a, b, d, e, s⟩)) ∧ Below w.heap.size w w' := by
 have BB := qH ((Below.refl w.heap.size w).alloc (Nat.le_refl _) (.cells #[.int .i64 a, .int .i64 b, .int .i64 d, .int .i64 e, .int .i64 s] 130))
 go_enter Tryz.func215, Tryz.ntmps215
 go_wp2_with fail
 refine (wWithin _ _ _).mono ?_
 rintro e w1 ⟨rfl, rfl⟩
 cases h1 : inR a 8
 ·have HF : Hid (false = mayC ⟨a, b, d, e, s⟩) := by
   show _ = _
   rw [eq_comm, ← Bool.not_eq_true, mayC_iff]
   rw [← Bool.not_eq_true, inR_iff] at h1
   simp only; omega
  clear h1
  go_wp2_with fail
  go_ret
  refine ⟨ret_bool ?_, BB.out⟩
  exact HF.out
 have H1 := qH (inR_iff.1 h1)
 clear h1
 go_wp2_with fail
 refine (wWithin _ _ _).mono ?_
 rintro e w1 ⟨rfl, rfl⟩
 cases h1 : inR e 4
 ·have HF : Hid (false = mayC ⟨a, b, d, e, s⟩) := by
   show _ = _
   rw [eq_comm, ← Bool.not_eq_true, mayC_iff]
   rw [← Bool.not_eq_true, inR_iff] at h1
   simp only; omega
  clear h1
  go_wp2_with fail
  go_ret
  refine ⟨ret_bool ?_, BB.out⟩
  exact HF.out
 have H2 := qH (inR_iff.1 h1)
 clear h1
 go_wp2_with fail
 refine (wWithin _ _ _).mono ?_
 rintro e w1 ⟨rfl, rfl⟩
 cases h1 : inR s 16
 ·have HF : Hid (false = mayC ⟨a, b, d, e, s⟩) := by
   show _ = _
   rw [eq_comm, ← Bool.not_eq_true, mayC_iff]
   rw [← Bool.not_eq_true, inR_iff] at h1
   simp only; omega
  clear h1
  go_wp2_with fail
  go_ret
  refine ⟨ret_bool ?_, BB.out⟩
  exact HF.out
 have H3 := qH (inR_iff.1 h1)
 clear h1
 go_wp2_with fail
 refine (wWithin _ _ _).mono ?_
 rintro e w1 ⟨rfl, rfl⟩
 cases h1 : inR b 6
 ·have HF : Hid (false = mayC ⟨a, b, d, e, s⟩) := by
   show _ = _
   rw [eq_comm, ← Bool.not_eq_true, mayC_iff]
   rw [← Bool.not_eq_true, inR_iff] at h1
   simp only; omega
  clear h1
  go_wp2_with fail
  go_ret
  refine ⟨ret_bool ?_, BB.out⟩
  exact HF.out
 have H4 := qH (inR_iff.1 h1)
 clear h1
 go_wp2_with fail
 refine (wWithin _ _ _).mono ?_
 rintro e w1 ⟨rfl, rfl⟩
 cases h1 : inR d 6
 ·have HF : Hid (false = mayC ⟨a, b, d, e, s⟩) := by
   show _ = _
   rw [eq_comm, ← Bool.not_eq_true, mayC_iff]
   rw [← Bool.not_eq_true, inR_iff] at h1
   simp only; omega
  clear h1
  go_wp2_with fail
  go_ret
  refine ⟨ret_bool ?_, BB.out⟩
  exact HF.out
 have H5 := qH (inR_iff.1 h1)
 clear h1
 have HF : Hid ((b != d) = mayC ⟨a, b, d, e, s⟩) := by
  show _ = _
  have := H1.out; have := H2.out; have := H3.out; have := H4.out; have := H5.out
  rw [Bool.eq_iff_iff, mayC_iff]
  simp only [bne_iff_ne, ne_eq]
  omega
 go_wp2_with fail
 all_goals (go_ret; refine ⟨ret_bool ?_, BB.out⟩; rw [← HF.out]; try simp_all)
end
end Go.Proofs.YtlmdidblgeeplaaGreatDoor