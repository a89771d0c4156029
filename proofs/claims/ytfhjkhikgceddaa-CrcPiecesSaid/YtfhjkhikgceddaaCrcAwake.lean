/- The chapter's examples, as the laws begin with them (citadellaw02.awake): it returns true; and the document's place-by-place exclusive or (turned). -/
import Derived.Test.YtfhjkhikgceddaaCrcW
import Derived.Deep.RegionHeld
import Derived.Lib.SlBytesConst
import Derived.Deep.RegionLaw
namespace Go.Proofs.Ytfhjkhikgceddaa
open Go.RowKit
set_option linter.unusedVariables false

theorem ex_nil : crcSum [] = 0 := by decide
theorem ex_nine : crcSum [49, 50, 51, 52, 53, 54, 55, 56, 57] = 3421780262 := by decide +kernel
theorem ex_chk : chkOk [0, 0, 0, 0] = true ∧ chkOf [0, 0, 0, 0] = [] ∧ chkOk [0, 0, 0] = false := by decide +kernel
theorem ex_put : ([] : List UInt8) ++ enc 0 4 = [0, 0, 0, 0] := by decide

theorem Rd.top {w : World} (bs : List UInt8) (vs : List Value) (T : TypeId) (h : bs.map bval = vs) : Rd (w.alloc (.cells vs.toArray T)) (w.alloc (.cells vs.toArray T)).heap.size (some ⟨w.heap.size, 0, none⟩) vs.length bs :=
  (Rd.lit bs vs T h).more (by simp)
theorem Rd.topM {w : World} (bs : List UInt8) (vs : List Value) (T : TypeId) (fr : Nat × Nat) (h : bs.map bval = vs) : Rd (w.alloc (.cells vs.toArray T fr)) (w.alloc (.cells vs.toArray T fr)).heap.size (some ⟨w.heap.size, 0, none⟩) vs.length bs := by
  subst h
  refine ⟨by simp, fun hn => ⟨w.heap.size, 0, rfl, by simp, fun j hj => ?_⟩⟩
  have hl : j < bs.length := by simpa using hj
  rw [World.cell?_alloc_mark, nth_of_lt hl]
  simp [hl, bval]
theorem wSameB (A A' : Option Addr) (n m c d : Nat) (xs ys : List UInt8) (w : World) (ha : Rd w w.heap.size A n xs) (hb : Rd w w.heap.size A' m ys) :
    Calls Try.prog 23 #[.slice A n c, .slice A' m d] w fun e w' => e = .returned (.bool (decide (xs = ys))) ∧ w = w' := wSame A A' n m c d _ xs ys w ha hb

theorem dec4 : decide (([0, 0, 0, 0] : List UInt8) = [0, 0, 0, 0]) = true := by decide
theorem Rd.zeros4 (w : World) (T : TypeId) : Rd (w.alloc (.cells #[.int .u8 0, .int .u8 0, .int .u8 0, .int .u8 0] T)) (w.alloc (.cells #[.int .u8 0, .int .u8 0, .int .u8 0, .int .u8 0] T)).heap.size (some ⟨w.heap.size, 0, none⟩) 4 [0, 0, 0, 0] :=
  Rd.top [0, 0, 0, 0] [.int .u8 0, .int .u8 0, .int .u8 0, .int .u8 0] _ rfl

set_option maxHeartbeats 1000000 in
theorem awake (w : World) : Calls Try.prog 19 #[] w fun e w' => e = .returned (.bool true) ∧ Below w.heap.size w w' := by
  have hm4 : ∀ w, (Instr.makeSlice 23 (.int .i64 4) (.int .i64 4)).run Try.prog w = .ok (.slice (some ⟨w.heap.size, 0, none⟩) 4 4) (w.alloc (.cells #[.int .u8 0, .int .u8 0, .int .u8 0, .int .u8 0] 5)) := fun _ => by kernel_rfl
  have hm3 : ∀ w, (Instr.makeSlice 23 (.int .i64 3) (.int .i64 3)).run Try.prog w = .ok (.slice (some ⟨w.heap.size, 0, none⟩) 3 3) (w.alloc (.cells #[.int .u8 0, .int .u8 0, .int .u8 0] 5)) := fun _ => by kernel_rfl
  have kc := fun (w : World) (C : Array Value) (n c : Nat) => Lib.run_convert_bytes_const (P := Try.prog) w 23 5 C n c Try.underlying23 Try.underlying5
  go_enter Try.func19, Try.ntmps19
  go_wp2_with fail
  refine (wCheck _ 4 4 [0, 0, 0, 0] _ (by simpa using Rd.lit (w := w) [0, 0, 0, 0] [.int .u8 0, .int .u8 0, .int .u8 0, .int .u8 0] 5 rfl) (by decide) (by decide) (by decide)).mono ?_
  rintro e w2 ⟨A2, n2, c2, rfl, hown2, hb⟩
  obtain rfl : n2 = 0 := by rw [← (Rd.of_own hown2).1, ex_chk.2.1]; rfl
  rw [ex_chk.1]
  have B := Lib.hid (((Below.refl w.heap.size w).alloc (Nat.le_refl _) (.cells #[.int .u8 0, .int .u8 0, .int .u8 0, .int .u8 0] 5)).trans (hb.mono (by simp)))
  clear hown2 hb
  go_wp2_with fail
  have B' := Lib.hid (B.out.alloc B.out.size (.cells #[.int .u8 0, .int .u8 0, .int .u8 0] 5))
  refine (wCheck _ 3 3 [0, 0, 0] _ (by simpa using Rd.lit (w := w2) [0, 0, 0] [.int .u8 0, .int .u8 0, .int .u8 0] 5 rfl) (by decide) (by decide) (by decide)).mono ?_
  generalize w2.alloc (.cells #[.int .u8 0, .int .u8 0, .int .u8 0] 5) = w3 at *
  rintro e w4 ⟨A4, n4, c4, rfl, hown4, hb⟩
  rw [ex_chk.2.2]
  clear hown4 B
  replace B' := Lib.hid (B'.out.trans (hb.mono B'.out.size))
  clear hb
  clear hm3
  go_wp2_with fail
  have D := Lib.hid B'.out.drew
  clear B'
  go_region_held (fun _ => True) (trivial) (first
    | (go_at_call_of 10 (Value.slice none 0 0); refine (wSum none 0 0 [] _ (Rd.nil _ _ _) (by decide)).mono ?_; rintro e w5 ⟨rfl, hb5⟩; rw [ex_nil]; replace D := Lib.hid (D.out.trans (hb5.mono D.out.size)); clear hb5)
    | (go_at_call 10; refine (wSum _ 9 9 [49, 50, 51, 52, 53, 54, 55, 56, 57] _ ?_ (by decide)).mono ?_; exact Rd.topM [49, 50, 51, 52, 53, 54, 55, 56, 57] [.int .u8 49, .int .u8 50, .int .u8 51, .int .u8 52, .int .u8 53, .int .u8 54, .int .u8 55, .int .u8 56, .int .u8 57] _ _ rfl; rintro e w6 ⟨rfl, hb6⟩; rw [ex_nine]; replace D := Lib.hid ((D.out.alloc D.out.size _).trans (hb6.mono (Nat.le_trans D.out.size (by simp)))); clear hb6)
    | (go_at_call 15; refine (wCrcPut none 0 0 [] _ (Rd.nil _ _ _) (by decide)).mono ?_; rintro e w7 ⟨A7, n7, c7, rfl, hown7, hb7⟩; rw [ex_nil, ex_put] at hown7; have P := Lib.hid (Rd.of_own hown7); clear hown7; have D7 := Lib.hid hb7; clear hb7)
    | (go_at_call 23; refine (wSameB _ _ _ 4 _ 4 [0, 0, 0, 0] [0, 0, 0, 0] _ ?_ ?_).mono ?_; (first | with_reducible exact P.out | with_reducible exact P.out.grow _); (first | with_reducible exact Rd.zeros4 _ _ | with_reducible exact (Rd.zeros4 _ _).to D7.out); rintro e w8 ⟨rfl, rfl⟩; rw [dec4]))
  all_goals go_wp2
  all_goals go_ret
  · exact ⟨rfl, (D.out.trans (D7.out.mono D.out.size)).alloc (Nat.le_trans D.out.size D7.out.size) _⟩
  · exact ⟨rfl, (D.out.alloc D.out.size _).trans (D7.out.mono (Nat.le_trans D.out.size (by simp)))⟩
end Go.Proofs.Ytfhjkhikgceddaa
