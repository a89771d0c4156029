/- The chapter's examples, as the laws begin with them (citadellaw07.awake): it returns true. -/
import Derived.Test.YtabonnhmmbigmaaFrameY
import Derived.Lib.SlBytesConst
namespace Go.Proofs.Ytabonnhmmbigmaa
open Go.RowKit
set_option linter.unusedVariables false
set_option linter.unusedSimpArgs false

theorem ex_front : (frm 7 [97, 98]).take 5 = [7, 2, 97, 98, 0] := by
  rw [frm_head]; rfl
theorem ex_zero : openOk 0 (List.replicate 64 0) = false := by decide +kernel

theorem Rd.topF {w : World} (bs : List UInt8) (vs : List Value) (T : TypeId) (fr : Nat × Nat) (h : bs.map bval = vs) : Rd (w.alloc (.cells vs.toArray T fr)) (w.alloc (.cells vs.toArray T fr)).heap.size (some ⟨w.heap.size, 0, none⟩) vs.length bs := by
  subst h
  refine ⟨by simp, fun hn => ⟨w.heap.size, 0, rfl, by simp, fun j hj => ?_⟩⟩
  have hl : j < bs.length := by simpa using hj
  rw [World.cell?_alloc_mark, nth_of_lt hl]
  simp [hl, bval]

set_option maxRecDepth 1000000 in
set_option maxHeartbeats 1000000 in
theorem awake (w : World) : Calls Try.prog 16 #[] w fun e w' => e = .returned (.bool true) ∧ Below w.heap.size w w' := by
  have kc := fun (w : World) (C : Array Value) (n c : Nat) => Lib.run_convert_bytes_const (P := Try.prog) w 22 5 C n c Try.underlying22 Try.underlying5
  have B := Lib.hid (Below.refl w.heap.size w)
  go_enter Try.func16, Try.ntmps16
  go_wp2_with fail
  have T0 : Hid (Rd (w.alloc (.cells #[.int .u8 97, .int .u8 98] 5 (2, 3))) (w.alloc (.cells #[.int .u8 97, .int .u8 98] 5 (2, 3))).heap.size (some ⟨w.heap.size, 0, none⟩) 2 [97, 98]) :=
    Rd.topF [97, 98] [.int .u8 97, .int .u8 98] 5 (2, 3) rfl
  replace B := Lib.hid (B.out.alloc (Nat.le_refl _) (.cells #[.int .u8 97, .int .u8 98] 5 (2, 3)))
  refine (wSealZ _ 2 2 7 7 rfl [97, 98] _ T0.out (by decide)).mono ?_
  generalize w.alloc (.cells #[.int .u8 97, .int .u8 98] 5 (2, 3)) = w1 at *
  rintro e w2 ⟨A2, n2, c2, rfl, hown2, hb⟩
  have S := Lib.hid (Rd.of_own hown2)
  obtain rfl : n2 = 64 := by rw [← S.out.1]; exact frm_len (by decide)
  obtain ⟨hcap, hcap'⟩ := own_cap hown2
  clear hown2 T0
  replace B := Lib.hid (B.out.trans (hb.mono B.out.size))
  clear hb
  have k5 : ∀ w : World, (Instr.slice 22 (.slice A2 64 c2) none (some (.int .i64 5)) none).run Try.prog w = .ok (.slice A2 5 c2) w := fun w => slice_h isU8 A2 (n := 64) (c := c2) (h := 5) (by omega) hcap .i64 w
  have S5 := Lib.hid ((S.out.front (k := 5) (by decide)))
  rw [ex_front] at S5
  go_wp2_with fail
  replace S5 := Lib.hid (S5.out.grow (.cells #[.int .u8 7, .int .u8 2, .int .u8 97, .int .u8 98, .int .u8 0] 5))
  replace S := Lib.hid (S.out.grow (.cells #[.int .u8 7, .int .u8 2, .int .u8 97, .int .u8 98, .int .u8 0] 5))
  have L5 : Hid (Rd (w2.alloc (.cells #[.int .u8 7, .int .u8 2, .int .u8 97, .int .u8 98, .int .u8 0] 5)) (w2.alloc (.cells #[.int .u8 7, .int .u8 2, .int .u8 97, .int .u8 98, .int .u8 0] 5)).heap.size (some ⟨w2.heap.size, 0, none⟩) 5 [7, 2, 97, 98, 0]) :=
    (Rd.lit [7, 2, 97, 98, 0] [.int .u8 7, .int .u8 2, .int .u8 97, .int .u8 98, .int .u8 0] 5 rfl).more (by simp)
  replace B := Lib.hid (B.out.alloc B.out.size (.cells #[.int .u8 7, .int .u8 2, .int .u8 97, .int .u8 98, .int .u8 0] 5))
  refine (wSame A2 _ 5 5 c2 5 _ [7, 2, 97, 98, 0] [7, 2, 97, 98, 0] _ S5.out L5.out).mono ?_
  generalize w2.alloc (.cells #[.int .u8 7, .int .u8 2, .int .u8 97, .int .u8 98, .int .u8 0] 5) = w3 at *
  rw [show decide (([7, 2, 97, 98, 0] : List UInt8) = [7, 2, 97, 98, 0]) = true from by decide]
  rintro e w' ⟨rfl, rfl⟩
  clear S5 L5 k5
  go_wp2_with fail
  refine (wOpenZ A2 64 c2 7 7 rfl _ w3 S.out hcap hcap' (by rw [frm_open (by decide)]; decide)).mono ?_
  rw [frm_payl (by decide)]
  rintro e w4 ⟨A4, n4, c4, rfl, hown4, hb⟩
  have P := Lib.hid (Rd.of_own hown4)
  obtain rfl : n4 = 2 := P.out.1.symm
  clear hown4
  replace S := Lib.hid (S.out.to hb)
  replace B := Lib.hid (B.out.trans (hb.mono B.out.size))
  clear hb
  go_wp2_with fail
  refine (wOpenBadZ A2 64 c2 8 8 rfl _ w4 S.out hcap hcap' (by rw [frm_open (by decide)]; decide)).mono ?_
  rintro e w5 ⟨rfl, hb⟩
  clear S
  replace P := Lib.hid (P.out.to hb)
  replace B := Lib.hid (B.out.trans (hb.mono B.out.size))
  clear hb
  have HS5 := Lib.hid B.out.size
  go_wp2_with (at_make; refine wpList_makeB isU8 rfl _ _ rfl 64 rfl rfl rfl rfl (by decide) (Below.refl w5.heap.size w5) (Nat.le_refl _) ?_; intro w6 hown6 hbel6 hsz6)
  have Z := Lib.hid (Rd.of_own hown6)
  replace P := Lib.hid (P.out.to hbel6)
  replace B := Lib.hid (B.out.trans (hbel6.mono B.out.size))
  clear hown6 hbel6 hsz6
  refine (wOpenBadZ _ 64 64 0 0 rfl _ w6 Z.out (by decide) (by decide) ex_zero).mono ?_
  rintro e w7 ⟨rfl, hb⟩
  clear Z
  replace P := Lib.hid (P.out.to hb)
  replace B := Lib.hid (B.out.trans (hb.mono B.out.size))
  clear hb
  go_wp2_with fail
  have L2 : Hid (Rd (w7.alloc (.cells #[.int .u8 97, .int .u8 98] 5 (2, 3))) (w7.alloc (.cells #[.int .u8 97, .int .u8 98] 5 (2, 3))).heap.size (some ⟨w7.heap.size, 0, none⟩) 2 [97, 98]) :=
    Rd.topF [97, 98] [.int .u8 97, .int .u8 98] 5 (2, 3) rfl
  replace P := Lib.hid (P.out.grow (.cells #[.int .u8 97, .int .u8 98] 5 (2, 3)))
  replace B := Lib.hid (B.out.alloc B.out.size (.cells #[.int .u8 97, .int .u8 98] 5 (2, 3)))
  refine (wSame A4 _ 2 2 c4 2 _ [97, 98] [97, 98] _ P.out L2.out).mono ?_
  generalize w7.alloc (.cells #[.int .u8 97, .int .u8 98] 5 (2, 3)) = w8 at *
  rw [show decide (([97, 98] : List UInt8) = [97, 98]) = true from by decide]
  rintro e w' ⟨rfl, rfl⟩
  clear P L2
  go_wp2_with fail
  go_ret
  exact ⟨rfl, B.out⟩
end Go.Proofs.Ytabonnhmmbigmaa
