/- The library's bytes.Clone. -/
import Derived.Test.YtecedmjhhaabgaaKitO
import Derived.Test.YtecedmjhhaabgaaRow
import Derived.Test.YtecedmjhhaabgaaSlice
import Derived.Lib.SliceRun
namespace Go.Proofs.Ytecedmjhhaabgaa
open Go.RowKit
set_option linter.unusedVariables false
set_option linter.unusedSimpArgs false

set_option maxRecDepth 1000000 in
set_option maxHeartbeats 1000000 in
theorem bClone (A : Option Addr) (n c : Nat) (bs : List UInt8) (w : World) (h : Rd w w.heap.size A n bs) (hn : n ≤ 140737488355328) :
    Calls Try.prog 52 #[.slice A n c] w fun e w' => RetR w bs e w' := by
  have R := Lib.hid h
  have HN := Lib.hid hn
  have qT : ∀ (w : World) (a : Option Addr) (n c n' c' : Nat), (binOp .eql 41 (.slice a n c) (.slice none n' c')).run Try.prog w = .ok (.bool a.isNone) w := fun w a n c n' c' => Lib.run_eql_slice_nil w _ _ a n c n' c' Try.underlying41
  clear h hn
  rcases A with _ | a
  · obtain rfl : n = 0 := by
      rcases Nat.eq_zero_or_pos n with h0 | h0
      · exact h0
      · obtain ⟨_, _, e, _⟩ := R.out.2 h0; cases e
    have HL := Lib.hid (List.eq_nil_of_length_eq_zero R.out.1)
    go_enter Try.func52, Try.ntmps52
    go_wp2_with fail
    go_ret
    exact ⟨none, 0, 0, rfl, by rw [HL.out]; exact ⟨Rd.nil _ _ _, fun h => absurd h (Nat.lt_irrefl 0)⟩, by omega, by omega, Below.refl _ _⟩
  have R2 := Lib.hid (R.out.grow (.cells #[] 5))
  have O := Lib.hid (own_top (w := w) (B := w.heap.size) [] 5 (Nat.le_refl _) (by simp) (by decide))
  have B := Lib.hid ((Below.refl w.heap.size w).alloc (Nat.le_refl _) (.cells #[] 5))
  go_enter Try.func52, Try.ntmps52
  go_wp2_with (at_builtin; refine wpList_pushAll isU8 rfl _ _ rfl rfl (bs := []) rfl O.out R2.out B.out B.out.size (by have := HN.out; simp; omega) ?_; intro v1 w1 hown1 hbel1 hsz1)
  go_ret
  rw [List.length_nil, Nat.zero_add, List.nil_append] at hown1
  exact (RetB.mk hown1 hbel1).toR
end Go.Proofs.Ytecedmjhhaabgaa
