/- Slots in plain words: what is refused, a sector's row with bytes over it, what a write makes of a disk, what is read. No program is named here. -/
import Derived.Test.YtopilgedcnbdaaaDoorTz
import Derived.Test.YtopilgedcnbdaaaDoorDiskM
namespace Go.Proofs.YtopilgedcnbdaaaDoor
set_option maxRecDepth 1000000
set_option maxHeartbeats 8000000
open Go.RowKit
set_option linter.unusedVariables false
set_option linter.unusedSimpArgs false
def refS (sl at_ n : Int) : Int := if (sl ≠ 0 ∧ sl ≠ 1) ∨ at_ < 0 ∨ n < 0 then 2 else if 4096 < n ∨ 4096 - n < at_ then 4 else 0
def overS (s : List UInt8) (i p : Nat) (b : List UInt8) : List UInt8 := (List.range s.length).map fun k => if p ≤ 64 * i + k ∧ 64 * i + k < p + b.length then b.getD (64 * i + k - p) 0 else s.getD k 0
theorem overS_len (s : List UInt8) (i p : Nat) (b : List UInt8) : (overS s i p b).length = s.length := by simp [overS]
def hitS (i p n : Nat) : Bool := decide (0 < n) && (decide (p < 64 * i + 64) && decide (64 * i < p + n))
def stepW (sl p : Nat) (b : List UInt8) (i : Nat) (s : DS) : Int × DS :=
 if hitS i p b.length = true then (if (s.read ((3 + 64 * sl + i : Nat) : Int)).2 ≠ 0 then ((s.read ((3 + 64 * sl + i : Nat) : Int)).2, s) else s.write ((3 + 64 * sl + i : Nat) : Int) (overS (s.read ((3 + 64 * sl + i : Nat) : Int)).1 i p b)) else (0, s)
def goW (sl p : Nat) (b : List UInt8) : Nat → Nat → DS → Int × DS
 | 0, _, s => (0, s)
 | n + 1, i, s => if (stepW sl p b i s).1 ≠ 0 then stepW sl p b i s else goW sl p b n (i + 1) (stepW sl p b i s).2
def writeS (sl at_ : Int) (b : List UInt8) (s : DS) : Int × DS :=
 if refS sl at_ b.length ≠ 0 then (refS sl at_ b.length, s) else if s.up = false then (60, s) else goW sl.toNat at_.toNat b 64 0 s
def allS (sl : Nat) (s : DS) : Nat → List UInt8
 | 0 => []
 | k + 1 => allS sl s k ++ Sec.now (secAt s.L (3 + 64 * sl + k))
def slotN (sl : Nat) (s : DS) : Nat := min 64 (s.L.length - (3 + 64 * sl))
def readS (sl n : Int) (s : DS) : List UInt8 × Int :=
 if refS sl 0 n ≠ 0 then ([], refS sl 0 n) else if s.up = false then ([], 60) else if 64 * slotN sl.toNat s < n.toNat then ([], 61) else ((allS sl.toNat s (slotN sl.toNat s)).take n.toNat, 0)
theorem stepW_skip {sl p i : Nat} {b : List UInt8} {s : DS} (h : hitS i p b.length = false) : stepW sl p b i s = (0, s) := by
 unfold stepW
 rw [h, if_neg (by decide)]
theorem refS_ok {sl at_ n : Int} (h : refS sl at_ n = 0) : (sl = 0 ∨ sl = 1) ∧ 0 ≤ at_ ∧ 0 ≤ n ∧ n ≤ 4096 ∧ at_ ≤ 4096 - n := by
 unfold refS at h
 split at h
 ·cases h
 ·split at h
  ·cases h
  ·omega
theorem write_lenS (s : DS) (i : Int) (b : List UInt8) : (s.write i b).2.L.length = s.L.length := by
 unfold DS.write
 split
 ·rfl
 ·split
  ·rfl
  ·split
   ·rfl
   ·split
    ·exact fallL_length _ _ _
    ·simp [DS.put]
theorem stepW_len (sl p : Nat) (b : List UInt8) (i : Nat) (s : DS) : (stepW sl p b i s).2.L.length = s.L.length := by
 unfold stepW
 split
 ·split
  ·rfl
  ·exact write_lenS _ _ _
 ·rfl
theorem goW_len (sl p : Nat) (b : List UInt8) : ∀ (n i : Nat) (s : DS), (goW sl p b n i s).2.L.length = s.L.length
 | 0, _, _ => rfl
 | n + 1, i, s => by
  unfold goW
  split
  ·exact stepW_len _ _ _ _ _
  ·rw [goW_len sl p b n (i + 1), stepW_len]
theorem writeS_len (sl at_ : Int) (b : List UInt8) (s : DS) : (writeS sl at_ b s).2.L.length = s.L.length := by
 unfold writeS
 split
 ·rfl
 ·split
  ·rfl
  ·exact goW_len _ _ _ _ _ _
theorem goW_none (sl p : Nat) : ∀ (n i : Nat) (s : DS), goW sl p [] n i s = (0, s)
 | 0, _, _ => rfl
 | n + 1, i, s => by
  unfold goW
  rw [stepW_skip (by unfold hitS; simp), if_neg (by simp), goW_none sl p n (i + 1) s]
end Go.Proofs.YtopilgedcnbdaaaDoor