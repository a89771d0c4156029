/- What the outright laws of layer 6 share: acts done one behind the other to a disk of the law's own; rows that were read of it. -/
import Derived.Test.YtbkdgciaapkemaaDiskLc
import Derived.Test.YtbkdgciaapkemaaDiskRows
namespace Go.Proofs.Ytbkdgciaapkemaa
open Go.RowKit
set_option linter.unusedVariables false
set_option linter.unusedSimpArgs false

theorem write_len (s : DS) (i : Int) (b : List UInt8) : (s.write i b).2.L.length = s.L.length := by
  unfold DS.write
  split
  · rfl
  · split
    · rfl
    · split
      · rfl
      · split
        · exact fallL_length _ _ _
        · exact List.length_set
theorem flush_len (s : DS) : s.flush.2.L.length = s.L.length := by
  unfold DS.flush
  split
  · rfl
  · split
    · exact fallL_length _ _ _
    · exact fallL_length _ _ _
theorem crash_len (s : DS) (b : List UInt8) : (s.crash b).2.L.length = s.L.length := by
  unfold DS.crash
  split
  · rfl
  · exact fallL_length _ _ _
theorem arm_len (s : DS) (i : Int) (b : List UInt8) : (s.arm i b).2.L.length = s.L.length := by
  unfold DS.arm
  split
  · rfl
  · split <;> rfl
theorem start_len (s : DS) : s.start.2.L.length = s.L.length := by
  unfold DS.start
  split <;> rfl
theorem act_len (s : DS) (a : DAct) : (s.act a).2.L.length = s.L.length := by
  unfold DS.act
  split
  · exact write_len _ _ _
  · split
    · exact flush_len _
    · split
      · exact crash_len _ _
      · split
        · exact arm_len _ _ _
        · split
          · exact start_len _
          · rfl
theorem new_len (n : Nat) : (DS.new n).L.length = n := by simp [DS.new]
/-- Behind k acts. -/
def DoRel (w : World) (d n len : Nat) (i : Value) (wr : World) : Prop := ∃ k F s, k ≤ len ∧ i = .int .i64 (k : Int) ∧ Mine w wr d F s ∧ s.L.length = n
theorem Mine.did {w wr w' : World} {d : Nat} {F F' : Nat → Prop} {s s' : DS} (h : Did w wr w' d F F' s') : Mine w w' d F' s' := h.mine
/-- An argument's row is apart from the disk. -/
theorem Mine.arg {w wr : World} {d : Nat} {F : Nat → Prop} {s : DS} (h : Mine w wr d F s) {A : Option Addr} {n : Nat} {bs : List UInt8} (hr : Rd w w.heap.size A n bs) : Off A n F := fun h0 b o e hb => by
  have h1 := hr.lts h0 b o e
  have h2 := h.lo b hb
  omega
end Go.Proofs.Ytbkdgciaapkemaa
