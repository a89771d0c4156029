/- The library's IndexFunc and ContainsFunc at regions; the program's closures; Holder. -/
import Derived.Test.YtggnpnicmjjfbaaRegP
import Derived.Test.YtggnpnicmjjfbaaShelfR
namespace Go.Proofs.Ytggnpnicmjjfbaa
open Go.RowKit
set_option linter.unusedVariables false
set_option linter.unusedSimpArgs false

def regV (r : Reg) : Value := .agg (regL r).toArray
set_option maxRecDepth 1000000 in
set_option maxHeartbeats 1000000 in
theorem wIndex0 (g : Nat) (lb : Array Value) (A : Option Addr) (c : Nat) (w : World) :
    Calls Try.prog 23 #[.slice A 0 c, .func (.func g) #[] lb] w fun e w' => e = .returned (.int .i64 (-1)) ∧ Below w.heap.size w w' := by
  go_enter Try.func23, Try.ntmps23
  go_wp2
  go_loopw [5, 8] (fun _ s8 wr => s8 = .int .i64 0 ∧ wr = w) (fun _ _ _ => 0)
  case atStart => exact ⟨rfl, rfl⟩
  case round =>
    obtain ⟨rfl, rfl⟩ := hrel
    go_wp2
    go_ret
    exact ⟨rfl, Below.refl _ _⟩
/-- slices.IndexFunc at a slice of regions. -/
theorem wIndex (g : Nat) (lb : Array Value) (eg : ∀ args w, (callFunc g args).run Try.prog w = .ok (.enter g args) w) (p : Reg → Bool) (A : Option Addr) (n c : Nat) (l : List Reg) (w : World)
    (hp : PredBelow Try.prog g lb regV p w) (h : RdG w w.heap.size A n l) (hn : n ≤ 9223372036854775807) :
    Calls Try.prog 23 #[.slice A n c, .func (.func g) #[] lb] w fun e w' => e = .returned (.int .i64 (idxR p l)) ∧ Below w.heap.size w w' := by
  rcases Nat.eq_zero_or_pos n with rfl | hpos
  · obtain rfl : l = [] := List.length_eq_zero_iff.1 h.1
    rw [show idxR p [] = -1 from rfl]
    exact wIndex0 g lb A c w
  · obtain ⟨b, o, rfl, hb, hc⟩ := h.2 hpos
    have := AnyQ.slices_IndexFunc shIndex 2 Try.isAgg23 Try.sizeOf23 regL (fun _ => rfl) p g lb eg b o n c l w hp (Nat.le_of_eq h.1.symm) hn hb (RdG.shelf h.1 hc)
    rw [List.take_of_length_le (Nat.le_of_eq h.1)] at this
    exact this
/-- slices.ContainsFunc at a slice of regions. -/
theorem wContains (g : Nat) (lb : Array Value) (eg : ∀ args w, (callFunc g args).run Try.prog w = .ok (.enter g args) w) (p : Reg → Bool) (A : Option Addr) (n c : Nat) (l : List Reg) (w : World)
    (hp : PredBelow Try.prog g lb regV p w) (h : RdG w w.heap.size A n l) (hn : n ≤ 9223372036854775807) :
    Calls Try.prog 25 #[.slice A n c, .func (.func g) #[] lb] w fun e w' => e = .returned (.bool (l.any p)) ∧ Below w.heap.size w w' := by
  rcases Nat.eq_zero_or_pos n with rfl | hpos
  · obtain rfl : l = [] := List.length_eq_zero_iff.1 h.1
    go_enter Try.func25, Try.ntmps25
    go_wp2_with fail
    refine (wIndex0 g lb A c w).mono ?_
    rintro e w1 ⟨rfl, hb⟩
    go_wp2_with fail
    go_ret
    exact ⟨rfl, hb⟩
  · obtain ⟨b, o, rfl, hb, hc⟩ := h.2 hpos
    have := AnyQ.slices_ContainsFunc shContains 2 Try.isAgg23 Try.sizeOf23 regL (fun _ => rfl) p g lb eg b o n c l w hp (Nat.le_of_eq h.1.symm) hn hb (RdG.shelf h.1 hc)
    rw [List.take_of_length_le (Nat.le_of_eq h.1)] at this
    exact this

set_option maxRecDepth 1000000 in
set_option maxHeartbeats 1000000 in
/-- 'func(r) bool { return Has(r, at) }'. -/
theorem pHolder (t : Int) (B : Nat) (w : World) (hB : B < w.heap.size) (hcell : w.cell? ⟨B, 0, none⟩ = some (.int .i64 t)) :
    PredBelow Try.prog 28 #[.pointer (some ⟨B, 0, none⟩)] regV (fun x => hasR x t) w := fun W x hb => by
  have hc : Hid (W.cell? ⟨B, 0, none⟩ = some (.int .i64 t)) := (hb.cell (p := ⟨B, 0, none⟩) hB).trans hcell
  have HB := Lib.hid hb
  have HBW : Hid (B < W.heap.size) := Nat.lt_of_lt_of_le hB hb.size
  clear hb hcell hB
  have hc1 : (W.alloc (.cells #[.int .i64 x.1, .int .i64 x.2] 23)).cell? ⟨B, 0, none⟩ = some (.int .i64 t) := (((Below.refl W.heap.size W).alloc (Nat.le_refl _) _).cell (p := ⟨B, 0, none⟩) HBW.out).trans hc.out
  show Calls Try.prog 28 #[.agg #[.int .i64 x.1, .int .i64 x.2], .pointer (some ⟨B, 0, none⟩)] W _
  go_enter Try.func28, Try.ntmps28
  go_wp2_with fail
  refine (wHas x.1 x.2 t _).mono ?_
  rintro e w1 ⟨rfl, hb⟩
  go_wp2_with fail
  go_ret
  exact ⟨rfl, (HB.out.alloc HB.out.size _).trans (hb.mono (Nat.le_trans HB.out.size (by simp)))⟩
set_option maxRecDepth 1000000 in
set_option maxHeartbeats 1000000 in
/-- 'func(r) bool { return !May(r) }'. -/
theorem pMay (w : World) : PredBelow Try.prog 26 #[] regV (fun x => !mayR x) w := fun W x hb => by
  have HB := Lib.hid hb
  clear hb
  show Calls Try.prog 26 #[.agg #[.int .i64 x.1, .int .i64 x.2]] W _
  go_enter Try.func26, Try.ntmps26
  go_wp2_with fail
  refine (wMay x.1 x.2 _).mono ?_
  rintro e w1 ⟨rfl, hb⟩
  go_wp2_with fail
  go_ret
  exact ⟨rfl, (HB.out.alloc HB.out.size _).trans (hb.mono (Nat.le_trans HB.out.size (by simp)))⟩
set_option maxRecDepth 1000000 in
set_option maxHeartbeats 1000000 in
/-- 'func(other) bool { return !Apart(other, r) }', r in a box. -/
theorem pApart (b s : Int) (g : Nat) (w : World) (hx : Box w g b s) :
    PredBelow Try.prog 24 #[.pointer (some ⟨g, 0, none⟩)] regV (fun x => !apartR x (b, s)) w := fun W x hb => by
  have BX : Hid (Box (W.alloc (.cells #[.int .i64 x.1, .int .i64 x.2] 23)) g b s) := (hx.to hb).to ((Below.refl _ _).alloc (Nat.le_refl _) _)
  have HB := Lib.hid hb
  clear hb hx
  obtain ⟨c0, c1, _⟩ := BX.out
  show Calls Try.prog 24 #[.agg #[.int .i64 x.1, .int .i64 x.2], .pointer (some ⟨g, 0, none⟩)] W _
  go_enter Try.func24, Try.ntmps24
  go_wp2_with fail
  refine (wApart x.1 x.2 b s _).mono ?_
  rintro e w1 ⟨rfl, hb⟩
  go_wp2_with fail
  go_ret
  exact ⟨rfl, (HB.out.alloc HB.out.size _).trans (hb.mono (Nat.le_trans HB.out.size (by simp)))⟩

set_option maxRecDepth 1000000 in
set_option maxHeartbeats 1000000 in
theorem wHolder (A : Option Addr) (n c : Nat) (l : List Reg) (t : Int) (w : World) (h : RdG w w.heap.size A n l) (hn : n ≤ 9223372036854775807) :
    Calls Try.prog 20 #[.slice A n c, .int .i64 t] w fun e w' => e = .returned (.int .i64 (holdR l t)) ∧ Below w.heap.size w w' := by
  have B := Lib.hid ((Below.refl w.heap.size w).alloc (Nat.le_refl _) (.cells #[.int .i64 t] 3))
  have H := Lib.hid (h.to B.out)
  have P := Lib.hid (pHolder t w.heap.size (w.alloc (.cells #[.int .i64 t] 3)) (by simp) (by simp))
  have eg : ∀ args w, (callFunc 28 args).run Try.prog w = .ok (.enter 28 args) w := enters_of Try.func28 (by kernel_rfl) rfl
  have EG := Lib.hid eg
  have HN := Lib.hid hn
  clear h hn eg
  go_enter Try.func20, Try.ntmps20
  go_wp2_with fail
  refine (wIndex _ _ EG.out _ A n c l _ P.out H.out HN.out).mono ?_
  rintro e w1 ⟨rfl, hb⟩
  go_wp2_with fail
  go_ret
  exact ⟨rfl, B.out.trans (hb.mono B.out.size)⟩
end Go.Proofs.Ytggnpnicmjjfbaa
